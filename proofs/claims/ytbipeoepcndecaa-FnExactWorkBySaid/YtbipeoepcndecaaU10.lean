/- Chapter 6's functions of the program: countPairs, AreaOf, WaitingArea; workAfter, WorkBy; WorkArea. -/
import Derived.Test.YtbipeoepcndecaaU9
import Derived.Test.YtbipeoepcndecaaM18
import Derived.Test.YtbipeoepcndecaaS2
import Derived.Test.YtbipeoepcndecaaN1
namespace Go.Proofs.Ytbipeoepcndecaa
set_option linter.unusedVariables false
open Go.RowKit
attribute [local go_sem ↓] Go.wp_at_zero Go.wp_at_succ

/-- the pairs of unit t, of the first k customers, that q takes -/
def pairU (L : List (Int × Int)) (o : List Int) (q : Nat → Int → Bool) (t : Nat) : Nat → Int
  | 0 => 0
  | k + 1 => pairU L o q t k + (if (X L k ≤ t ∧ (t : Int) < endTo o k o.length) ∧ q k (Z o t) = true then 1 else 0)
def pairA (L : List (Int × Int)) (o : List Int) (q : Nat → Int → Bool) : Nat → Int
  | 0 => 0
  | t + 1 => pairA L o q t + pairU L o q t L.length
theorem pairU_bd (L : List (Int × Int)) (o : List Int) (q : Nat → Int → Bool) (t : Nat) : ∀ k, 0 ≤ pairU L o q t k ∧ pairU L o q t k ≤ k := by
  intro k
  induction k with
  | zero => simp [pairU]
  | succ k ih => simp only [pairU]; split <;> omega
theorem pairA_bd {L : List (Int × Int)} (o : List Int) (q : Nat → Int → Bool) (hl : L.length ≤ 8) : ∀ t, 0 ≤ pairA L o q t ∧ pairA L o q t ≤ 8 * t := by
  intro t
  induction t with
  | zero => simp [pairA]
  | succ t ih => have := pairU_bd L o q t L.length; simp only [pairA]; omega
theorem pairU_all (L : List (Int × Int)) (o : List Int) (t : Nat) : ∀ k, pairU L o (fun _ _ => true) t k = thereN L o t k := by
  intro k
  induction k with
  | zero => rfl
  | succ k ih => simp [pairU, thereN, ih]
theorem pairA_all (L : List (Int × Int)) (o : List Int) : ∀ t, pairA L o (fun _ _ => true) t = areaTo L o L.length t := by
  intro t
  induction t with
  | zero => rfl
  | succ t ih => simp only [pairA, areaTo, ih, pairU_all]
theorem pairU_wait {L : List (Int × Int)} {o : List Int} (h : ordOk L o = true) {t : Nat} (ht : t < o.length) : ∀ k, k ≤ L.length → pairU L o (fun k s => !((k : Int) == s)) t k = thereN L o t k - (if 0 ≤ Z o t ∧ Z o t < k then 1 else 0) := by
  intro k
  obtain ⟨_, _, hu, _⟩ := ordOk_parts h
  induction k with
  | zero => intro _; simp only [pairU, thereN]; rw [if_neg (by omega)]; rfl
  | succ k ih =>
    intro hk
    have i := ih (by omega)
    have g1 : (if 0 ≤ Z o t ∧ Z o t < ((k + 1 : Nat) : Int) then (1 : Int) else 0) = (if 0 ≤ Z o t ∧ Z o t < (k : Int) then 1 else 0) + (if Z o t = k then 1 else 0) := by
      split <;> split <;> split <;> omega
    have g2 : (if (X L k ≤ t ∧ (t : Int) < endTo o k o.length) ∧ (!((k : Int) == Z o t)) = true then (1 : Int) else 0) = (if X L k ≤ t ∧ (t : Int) < endTo o k o.length then 1 else 0) - (if Z o t = k then 1 else 0) := by
      by_cases e : Z o t = k
      · have hl := endTo_late (o := o) (k := k) o.length t ht e
        rcases unitOk_cases (unitsOk_at _ hu t ht) with e2 | ⟨p, e2, hp, hx, _⟩
        · omega
        · have hpk : p = k := by omega
          subst hpk
          rw [if_neg (by simp [e]), if_pos ⟨hx, by omega⟩, if_pos e]; rfl
      · have hq : (!((k : Int) == Z o t)) = true := by simp; omega
        rw [if_neg e]
        by_cases hi : X L k ≤ t ∧ (t : Int) < endTo o k o.length
        · rw [if_pos ⟨hi, hq⟩, if_pos hi]; rfl
        · rw [if_neg (fun c => hi c.1), if_neg hi]; rfl
    have s1 : thereN L o t (k + 1) = thereN L o t k + (if X L k ≤ t ∧ (t : Int) < endTo o k o.length then 1 else 0) := rfl
    have s2 : pairU L o (fun k s => !((k : Int) == s)) t (k + 1) = pairU L o (fun k s => !((k : Int) == s)) t k + (if (X L k ≤ t ∧ (t : Int) < endTo o k o.length) ∧ (!((k : Int) == Z o t)) = true then 1 else 0) := rfl
    rw [s2, s1, g1, g2, i]; omega
theorem pairA_wait {L : List (Int × Int)} {o : List Int} (h : ordOk L o = true) : ∀ t, t ≤ o.length → pairA L o (fun k s => !((k : Int) == s)) t = waArea L o t := by
  intro t
  obtain ⟨_, _, hu, _⟩ := ordOk_parts h
  induction t with
  | zero => intro _; simp [pairA, waArea, areaTo, busyTo]
  | succ t ih =>
    intro ht
    rw [waArea_succ]
    simp only [pairA, ih (by omega), pairU_wait h (show t < o.length by omega) _ (Nat.le_refl _)]
    rcases unitOk_cases (unitsOk_at _ hu t (by omega)) with e | ⟨p, e, hp, _, _⟩
    · rw [if_neg (by omega), if_neg (by omega)]; omega
    · rw [if_pos (by omega), if_pos (by omega)]; omega
def pairV (L : List (Int × Int)) (o : List Int) (q : Nat → Int → Bool) : Int := if ordOk L o = true then pairA L o q o.length else -1
theorem pairV_all (L : List (Int × Int)) (o : List Int) : pairV L o (fun _ _ => true) = areaV L o := by simp only [pairV, areaV, pairA_all]
theorem pairV_wait (L : List (Int × Int)) (o : List Int) : pairV L o (fun k s => !((k : Int) == s)) = waitingV L o := by
  unfold pairV waitingV
  split
  · rename_i h; exact pairA_wait h _ (Nat.le_refl _)
  · rfl

theorem c_belongsA (k : Nat) (s : Int) (w : World) : Calls Try.prog 38 #[.int .i64 (k : Int), .int .i64 s] w fun e w' => e = .returned (.bool true) ∧ Below w.heap.size w w' := by
  go_enter Try.func38, Try.ntmps38
  go_wp2
  go_ret
  exact ⟨rfl, Below.refl _ _⟩

theorem c_belongsW (k : Nat) (s : Int) (w : World) : Calls Try.prog 45 #[.int .i64 (k : Int), .int .i64 s] w fun e w' => e = .returned (.bool (!((k : Int) == s))) ∧ Below w.heap.size w w' := by
  go_enter Try.func45, Try.ntmps45
  go_wp2
  go_ret
  exact ⟨rfl, Below.refl _ _⟩

def pairF (f : Nat) : Prop := f = 38 ∨ f = 45

set_option maxRecDepth 8000 in
set_option maxHeartbeats 8000000 in
theorem c_countPairs (f : Nat) (hf : pairF f) (q : Nat → Int → Bool) (L : List (Int × Int)) (o : List Int) (A O : Option Addr) (c d : Nat) (w : World)
    (hA : Cs w w.heap.size A L) (hO : Is w w.heap.size O o) (hn : L.length ≤ 140737488351232) (ho : o.length ≤ 140737488351232)
    (hq : ∀ (k : Nat) (s : Int) W, Calls Try.prog f #[.int .i64 (k : Int), .int .i64 s] W fun e w' => e = .returned (.bool (q k s)) ∧ Below W.heap.size W w') :
    Calls Try.prog 37 #[.slice A L.length c, .slice O o.length d, .func (.func f) #[] #[]] w fun e w' => e = .returned (.int .i64 (pairV L o q)) ∧ Below w.heap.size w w' := by
  have HK := Lib.hid (c_iOrderOk L o A O c d w hA hO hn ho)
  have HQ := Lib.hid hq; clear hq
  by_cases hok : ordOk L o = true
  · obtain ⟨hc, hl2, -, -⟩ := ordOk_parts hok
    have H := Lib.hid hok
    have HV := Lib.hid (show pairV L o q = pairA L o q o.length from if_pos hok)
    have hlen := cOk_len hc
    have HE := Lib.hid (ends_yes hok)
    have HB := Lib.hid (fun t => pairA_bd o q hlen t)
    have HU := Lib.hid (fun t k => pairU_bd L o q t k)
    have HT := Lib.hid (fun k (hk : k < L.length) => time_bd hok hk)
    have HX := Lib.hid (fun k (hk : k < L.length) => cOk_bd hc hk)
    have HEn := Lib.hid (fun (w' : World) (hb : Below w.heap.size w w') => c_iEndsOf L o A O c d w' ((hA.below hb).more hb.size) ((hO.below hb).more hb.size) hn ho)
    clear hok hc
    rcases hf with rfl | rfl
    all_goals
      go_enter Try.func37, Try.ntmps37
      go_wp2_with fail
      refine HK.out.mono ?_
      rintro e w1 ⟨rfl, hb1⟩
      rw [H.out]
      clear HK
      go_wp2_with fail
      refine (HEn.out _ hb1).mono ?_
      rintro e w2 ⟨v2, rfl, o2, hb2⟩
      have hx2 := hb1.trans (hb2.mono hb1.size)
      rw [HE.out] at o2
      obtain ⟨E2, e2, rfl, -, -, hE2⟩ := o2.form
      rw [endsL_len]
      have hs2 := hx2.size
      clear o2 hb2 hb1 HEn
      have HE2 := Lib.hid hE2; clear hE2
      go_wp2_with fail
      go_loopw [7, 22] (fun p i wr => ∃ t : Nat, t ≤ o.length ∧ i = .int .i64 t ∧ p = .int .i64 (pairA L o q t) ∧ Below w2.heap.size w2 wr) (fun _ i _ => o.length - (intOf i).toNat)
      case atStart => exact ⟨0, by omega, rfl, rfl, Below.refl _ _⟩
      case round =>
        obtain ⟨t, ht, rfl, rfl, hb⟩ := hrel
        have hsz := hb.size
        by_cases hlt : t < o.length
        · obtain ⟨ob, oo, rfl, hob, hoc⟩ := hO (by omega)
          have c0 := ((hx2.trans (hb.mono hs2)).cell (p := ⟨ob, oo + t, none⟩) hob).trans (hoc t hlt)
          have p1 : (0 : Int) ≤ (t : Int) := by omega
          have p2 : (t : Int) < (o.length : Int) := by omega
          have HBt := Lib.hid (HB.out t)
          clear hoc
          go_wp2_with fail
          go_loopw [7, 29] (fun p i wr => ∃ k : Nat, k ≤ L.length ∧ i = .int .i64 k ∧ p = .int .i64 (pairA L o q t + pairU L o q t k) ∧ Below w2.heap.size w2 wr) (fun _ i _ => L.length - (intOf i).toNat)
          case atStart => exact ⟨0, by omega, rfl, by simp [pairU], hb⟩
          case round =>
            clear hb
            obtain ⟨k, hk, rfl, rfl, hb⟩ := hrel
            have hsz := hb.size
            have b1 := HBt.out
            have b2 := HU.out t k
            by_cases hkl : k < L.length
            · obtain ⟨b, off, rfl, hlb, hcc⟩ := hA (by omega)
              have c1 := ((hx2.trans (hb.mono hs2)).cell (p := ⟨b, off + k * 2, none⟩) hlb).trans (hcc k hkl).1
              have c2 := ((hx2.trans (hb.mono hs2)).cell (p := ⟨b, off + k * 2 + 1, none⟩) hlb).trans (hcc k hkl).2
              obtain ⟨eb, eo, rfl, heb, hec⟩ := HE2.out (by rw [endsL_len]; omega)
              have c3 := (hb.cell (p := ⟨eb, eo + k, none⟩) heb).trans (hec k (by rw [endsL_len]; omega))
              rw [endsL_Z hkl] at c3
              have q1 : (0 : Int) ≤ (k : Int) := by omega
              have q2 : (k : Int) < (L.length : Int) := by omega
              have hTk := HT.out k hkl
              have hXk := HX.out k hkl
              have HIs := Lib.hid (fun W => c_isThere (X L k) (Y L k) (t : Int) (endTo o k o.length) W (by omega))
              have HQk := Lib.hid (HQ.out k (Z o t))
              have HS := Lib.hid (show pairU L o q t (k + 1) = pairU L o q t k + (if (X L k ≤ t ∧ (t : Int) < endTo o k o.length) ∧ q k (Z o t) = true then 1 else 0) from rfl)
              clear hec hcc hTk hXk
              have cs0 := WB.cell (B := wr.heap.size + 1) (w := wr.alloc (.cells #[.int .i64 (X L k), .int .i64 (Y L k)] 35)) (b := wr.heap.size) (o := 0) (v := .int .i64 (X L k)) (by omega) (by simp)
              have cs1 := WB.cell (B := wr.heap.size + 1) (w := wr.alloc (.cells #[.int .i64 (X L k), .int .i64 (Y L k)] 35)) (b := wr.heap.size) (o := 1) (v := .int .i64 (Y L k)) (by omega) (by simp)
              have cs3 := WB.cell (B := wr.heap.size + 1) (w := wr.alloc (.cells #[.int .i64 (X L k), .int .i64 (Y L k)] 35)) (b := eb) (o := eo + k) (v := .int .i64 (endTo o k o.length)) (by omega) (((Below.refl _ wr).alloc (Nat.le_refl _) _).cell (p := ⟨eb, eo + k, none⟩) (by show eb < _; omega) |>.trans c3)
              have bs1 : 0 ≤ pairA L o q t + pairU L o q t k := by omega
              have bs2 : pairA L o q t + pairU L o q t k ≤ 100000 := by omega
              clear b1 b2 c3 HBt
              by_cases hin : X L k ≤ t ∧ (t : Int) < endTo o k o.length
              · rw [decide_eq_true hin] at HIs
                cases hqk : q k (Z o t) with
                | true =>
                  rw [hqk] at HQk
                  rw [if_pos ⟨hin, hqk⟩] at HS
                  clear hin hqk
                  go_wp2_with fail
                  refine wp_region_wb (wr.heap.size + 1) (by kernel_rfl) (by kernel_rfl) ?_
                  repeat (go_big_quiet_step (first | (go_at_call 70; exact Calls.inB (by simp) (HIs.out _)) | (go_at_call 38; exact Calls.inB (by simp) (HQk.out _)) | (go_at_call 45; exact Calls.inB (by simp) (HQk.out _))))
                  refine wpQuiet_nil ?_
                  rintro w5 ⟨⟨_, hb5⟩, rfl⟩
                  have hb6 : Below w2.heap.size w2 _ := (hb.alloc hsz _).trans (hb5.mono (by omega))
                  clear hb5 cs0 cs1 cs3 HIs HQk hb
                  go_wp2_with fail
                  go_roundw
                  case rel => exact ⟨k + 1, by omega, by go_num, by rw [HS.out, ← Int.add_assoc], hb6⟩
                  case measure => simp [intOf]; omega
                | false =>
                  rw [hqk] at HQk
                  rw [if_neg (by simp [hqk])] at HS
                  clear hin hqk
                  go_wp2_with fail
                  refine wp_region_wb (wr.heap.size + 1) (by kernel_rfl) (by kernel_rfl) ?_
                  repeat (go_big_quiet_step (first | (go_at_call 70; exact Calls.inB (by simp) (HIs.out _)) | (go_at_call 38; exact Calls.inB (by simp) (HQk.out _)) | (go_at_call 45; exact Calls.inB (by simp) (HQk.out _))))
                  refine wpQuiet_nil ?_
                  rintro w5 ⟨⟨_, hb5⟩, rfl⟩
                  have hb6 : Below w2.heap.size w2 _ := (hb.alloc hsz _).trans (hb5.mono (by omega))
                  clear hb5 cs0 cs1 cs3 HIs HQk hb
                  go_wp2_with fail
                  go_roundw
                  case rel => exact ⟨k + 1, by omega, by go_num, by rw [HS.out, Int.add_zero], hb6⟩
                  case measure => simp [intOf]; omega
              · rw [decide_eq_false hin] at HIs
                rw [if_neg (fun c => hin c.1)] at HS
                clear hin
                go_wp2_with fail
                refine wp_region_wb (wr.heap.size + 1) (by kernel_rfl) (by kernel_rfl) ?_
                repeat (go_big_quiet_step (first | (go_at_call 70; exact Calls.inB (by simp) (HIs.out _))))
                refine wpQuiet_nil ?_
                rintro w5 ⟨⟨_, hb5⟩, rfl⟩
                have hb6 : Below w2.heap.size w2 _ := (hb.alloc hsz _).trans (hb5.mono (by omega))
                clear hb5 cs0 cs1 cs3 HIs HQk hb
                go_wp2_with fail
                go_roundw
                case rel => exact ⟨k + 1, by omega, by go_num, by rw [HS.out, Int.add_zero], hb6⟩
                case measure => simp [intOf]; omega
            · have hlf : ¬ ((k : Int) < (L.length : Int)) := by omega
              obtain rfl : k = L.length := by omega
              have HSt := Lib.hid (show pairA L o q (t + 1) = pairA L o q t + pairU L o q t L.length from rfl)
              go_wp2_with fail
              go_roundw
              case rel => exact ⟨t + 1, by omega, by go_num, by rw [HSt.out], hb⟩
              case measure => simp [intOf]; omega
        · have hlf : ¬ ((t : Int) < (o.length : Int)) := by omega
          obtain rfl : t = o.length := by omega
          go_wp2_with fail
          go_ret
          exact ⟨by rw [HV.out]; rfl, hx2.trans (hb.mono hs2)⟩
  · have H := Lib.hid (show ordOk L o = false by simpa using hok)
    have HV := Lib.hid (show pairV L o q = -1 from if_neg hok)
    clear hok
    go_enter Try.func37, Try.ntmps37
    go_wp2_with fail
    refine HK.out.mono ?_
    rintro e w1 ⟨rfl, hb1⟩
    rw [H.out]
    go_wp2_with fail
    go_ret
    exact ⟨by rw [HV.out]; rfl, hb1⟩

set_option maxHeartbeats 1000000 in
theorem c_iAreaOf (L : List (Int × Int)) (o : List Int) (A O : Option Addr) (c d : Nat) (w : World) (hA : Cs w w.heap.size A L) (hO : Is w w.heap.size O o) (hn : L.length ≤ 140737488351232) (ho : o.length ≤ 140737488351232) :
    Calls Try.prog 12 #[.slice A L.length c, .slice O o.length d] w fun e w' => e = .returned (.int .i64 (areaV L o)) ∧ Below w.heap.size w w' := by
  have K := c_countPairs 38 (by simp [pairF]) (fun _ _ => true) L o A O c d w hA hO hn ho c_belongsA
  rw [pairV_all] at K
  have HK := Lib.hid K
  clear K hA hO
  go_enter Try.func12, Try.ntmps12
  go_wp2_with fail
  refine HK.out.mono ?_
  rintro e w1 ⟨rfl, hb1⟩
  go_wp2_with fail
  go_ret
  exact ⟨rfl, hb1⟩

set_option maxHeartbeats 1000000 in
theorem c_iWaitingArea (L : List (Int × Int)) (o : List Int) (A O : Option Addr) (c d : Nat) (w : World) (hA : Cs w w.heap.size A L) (hO : Is w w.heap.size O o) (hn : L.length ≤ 140737488351232) (ho : o.length ≤ 140737488351232) :
    Calls Try.prog 17 #[.slice A L.length c, .slice O o.length d] w fun e w' => e = .returned (.int .i64 (waitingV L o)) ∧ Below w.heap.size w w' := by
  have K := c_countPairs 45 (by simp [pairF]) (fun k s => !((k : Int) == s)) L o A O c d w hA hO hn ho c_belongsW
  rw [pairV_wait] at K
  have HK := Lib.hid K
  clear K hA hO
  go_enter Try.func17, Try.ntmps17
  go_wp2_with fail
  refine HK.out.mono ?_
  rintro e w1 ⟨rfl, hb1⟩
  go_wp2_with fail
  go_ret
  exact ⟨rfl, hb1⟩

/-- the work of one who waits w and needs y, over all units -/
def workOf (y w : Int) : Int := y * w + (y * (y + 1)).tdiv 2
theorem workByTo_of (L : List (Int × Int)) (k : Nat) : workByTo L (k + 1) = workByTo L k + workOf (Y L k) (waitAt L k) := by
  simp only [workByTo, workOf]; omega

set_option maxHeartbeats 1000000 in
theorem c_workAfter (x y wt : Int) (w : World) (h1 : 1 ≤ y ∧ y ≤ 9) (h2 : 0 ≤ wt ∧ wt ≤ 72) :
    Calls Try.prog 61 #[.agg #[.int .i64 x, .int .i64 y], .int .i64 wt] w fun r w' => r = .returned (.int .i64 (workOf y wt)) ∧ Below w.heap.size w w' := by
  obtain ⟨p1, p2⟩ := h1
  obtain ⟨p3, p4⟩ := h2
  have m1 : 0 ≤ y * wt := Int.mul_nonneg (by omega) p3
  have m2 : y * wt ≤ 9 * 72 := Int.mul_le_mul (by omega) (by omega) p3 (by omega)
  have m3 : y * (y + 1) ≤ 9 * 10 := Int.mul_le_mul (by omega) (by omega) (by omega) (by omega)
  have m4 : 1 * 2 ≤ y * (y + 1) := Int.mul_le_mul (by omega) (by omega) (by omega) (by omega)
  have m5 := tri_bd ⟨p1, p2⟩
  rw [tri_half ⟨p1, p2⟩] at m5
  have q0 : IntKind.i64.wrap (y + 1) = y + 1 := IntWalk.i64_in _ (by omega)
  have q1 : IntKind.i64.wrap (y * wt) = y * wt := IntWalk.i64_in _ (by omega)
  have q2 : IntKind.i64.wrap (y * (y + 1)) = y * (y + 1) := IntWalk.i64_in _ (by omega)
  have q3 : IntKind.i64.wrap ((y * (y + 1)).tdiv 2) = (y * (y + 1)).tdiv 2 := IntWalk.i64_in _ (by omega)
  have q4 : IntKind.i64.wrap (y * wt + (y * (y + 1)).tdiv 2) = y * wt + (y * (y + 1)).tdiv 2 := IntWalk.i64_in _ (by omega)
  have HV := Lib.hid (show workOf y wt = y * wt + (y * (y + 1)).tdiv 2 from rfl)
  go_enter Try.func61, Try.ntmps61
  go_wp2_with fail
  go_ret
  exact ⟨by rw [HV.out]; rfl, by (repeat (first | exact rfl | exact Below.refl _ _ | (with_reducible refine Below.drew ?_) | (with_reducible refine Below.drewN ?_ _) | (with_reducible refine Below.alloc ?_ ?_ _) | (with_reducible refine Below.setCell ?_ ?_ _) | (show _ ≤ _; focus (first | omega | (simp; done) | (simp; omega)))))⟩

set_option maxHeartbeats 2000000 in
theorem c_iWorkBy (L : List (Int × Int)) (A : Option Addr) (c : Nat) (w : World) (hA : Cs w w.heap.size A L) (hn : L.length ≤ 140737488351232) :
    Calls Try.prog 26 #[.slice A L.length c] w fun e w' => e = .returned (.int .i64 (workByV L)) ∧ Below w.heap.size w w' := by
  by_cases hc : cOk L = true
  · have H := Lib.hid hc
    have HV := Lib.hid (workByV_yes hc)
    have HE := Lib.hid (waits_yes hc)
    have hlen := cOk_len hc
    have HW := Lib.hid (fun (w' : World) (hb : Below w.heap.size w w') => c_iWaitsOf L A c w' ((hA.below hb).more hb.size) hn)
    have HC := Lib.hid (fun (B : Option Addr) (b : Nat) (w' : World) (hb : Below w.heap.size w w') (hB : Is w' w'.heap.size B (waitsTo L L.length)) => c_compared 61 (by simp [numF]) #[] (fun k => workOf (Y L k) (waitAt L k)) L (waitsTo L L.length) A B c b w' ((hA.below hb).more hb.size) hB (by rw [waitsTo_len]; omega) hn (by rw [waitsTo_len]; omega) (fun k W hk _ => by
      rw [waitsTo_len] at hk
      rw [Z_waitsTo hk]
      have b1 := cOk_bd hc hk
      have b2 := waitAt_bd hc k hk
      exact c_workAfter _ _ _ W (by omega) (by omega)))
    have HF := Lib.hid (fun (B : Option Addr) (b : Nat) (w' : World) (hB : Is w' w'.heap.size B (rowN (fun k => workOf (Y L k) (waitAt L k)) L.length)) => c_foldII 44 (by simp [stepF]) (workByTo L) (rowN (fun k => workOf (Y L k) (waitAt L k)) L.length) B b w' hB (by rw [rowN_len]; omega) (fun k W hk => by
      rw [rowN_len] at hk
      rw [rowN_Z _ hk, workByTo_of]
      have b1 := halfTo_bd hc k (by omega)
      have b2 := half_bd hc hk
      exact c_plus _ _ W (by omega) (by simp only [workOf]; omega)))
    have HA := Lib.hid (c_iCustomersOk L A c w hA hn)
    clear hc hA
    go_enter Try.func26, Try.ntmps26
    go_wp2_with fail
    refine HA.out.mono ?_
    rintro e w1 ⟨rfl, hb1⟩
    rw [H.out]
    clear HA
    go_wp2_with fail
    refine (HW.out _ hb1).mono ?_
    rintro e w2 ⟨v2, rfl, o2, hb2⟩
    have hx2 := hb1.trans (hb2.mono hb1.size)
    rw [HE.out] at o2
    obtain ⟨E2, e2, rfl, -, -, hE2⟩ := o2.form
    go_wp2_with fail
    refine (HC.out _ _ _ hx2 hE2).mono ?_
    rintro e w3 ⟨v3, rfl, o3, hb3⟩
    have hx3 := hx2.trans (hb3.mono hx2.size)
    rw [waitsTo_len] at o3
    obtain ⟨E3, e3, rfl, -, -, hE3⟩ := o3.form
    have HF3 := HF.out E3 e3 w3 hE3
    go_wp2_with fail
    refine HF3.mono ?_
    rintro e w4 ⟨rfl, hb4⟩
    go_wp2_with fail
    go_ret
    exact ⟨by rw [rowN_len, HV.out]; rfl, hx3.trans (hb4.mono hx3.size)⟩
  · have H := Lib.hid (show cOk L = false by simpa using hc)
    have HV := Lib.hid (workByV_no H.out)
    have HA := Lib.hid (c_iCustomersOk L A c w hA hn)
    clear hc hA
    go_enter Try.func26, Try.ntmps26
    go_wp2_with fail
    refine HA.out.mono ?_
    rintro e w1 ⟨rfl, hb1⟩
    rw [H.out]
    go_wp2_with fail
    go_ret
    exact ⟨by rw [HV.out]; rfl, hb1⟩

end Go.Proofs.Ytbipeoepcndecaa

namespace Go.Proofs.Ytbipeoepcndecaa
set_option linter.unusedVariables false
open Go.RowKit Go.Shelf
attribute [local go_sem] Oper.semAt_some

/-- the work of the times gone through, added -/
def wkSum (L : List (Int × Int)) (pre : List Nat) : Int := pre.foldl (fun s t => s + wk L t) 0
theorem wkSum_snoc (L : List (Int × Int)) (pre : List Nat) (t : Nat) : wkSum L (pre ++ [t]) = wkSum L pre + wk L t := by simp [wkSum]
theorem wkSum_range (L : List (Int × Int)) (k : Nat) : wkSum L (List.range k) = wkArea L k := by
  induction k with
  | zero => rfl
  | succ k ih => rw [List.range_succ, wkSum_snoc, ih]; rfl
theorem wkSum_bd {L : List (Int × Int)} (hc : cOk L = true) (pre : List Nat) : 0 ≤ wkSum L pre ∧ wkSum L pre ≤ 72 * pre.length := by
  have key : ∀ n, ∀ pre : List Nat, pre.length = n → 0 ≤ wkSum L pre ∧ wkSum L pre ≤ 72 * pre.length := by
    intro n
    induction n with
    | zero => intro pre hp; rw [List.eq_nil_of_length_eq_zero hp]; simp [wkSum]
    | succ n ih =>
      intro pre hp
      rcases List.eq_nil_or_concat pre with rfl | ⟨pre', x, rfl⟩
      · simp at hp
      · rw [List.concat_eq_append] at hp ⊢
        have i := ih pre' (by simpa using hp)
        have b := wk_bd hc x
        rw [wkSum_snoc, List.length_append]
        simp only [List.length_cons, List.length_nil]
        omega
  exact key _ pre rfl

set_option maxRecDepth 100000 in
set_option maxHeartbeats 4000000 in
theorem c_iWorkArea (L : List (Int × Int)) (A : Option Addr) (c : Nat) (w : World) (hA : Cs w w.heap.size A L) (hn : L.length ≤ 140737488351232) :
    Calls Try.prog 23 #[.slice A L.length c] w fun e w' => e = .returned (.int .i64 (workAreaV L)) ∧ Below w.heap.size w w' := by
  by_cases h : cOk L = true
  · have HV := Lib.hid (workAreaV_yes h)
    have HB := Lib.hid (fun pre => wkSum_bd h pre)
    have HWk := Lib.hid (fun t => wk_bd h t)
    have H := Lib.hid h; clear h
    refine (callsIn_wide (n := 6)).1 ?_
    refine callsIn_of_wp_marks Try.func23 rfl trivial ?_ rfl
    simp only [Try.ntmps23, List.size_toArray, List.length_cons, List.length_nil, Nat.reduceAdd, Nat.reduceSub, Array.replicate_succ, Array.replicate_zero, List.push_toArray, List.append_toArray, List.nil_append, List.cons_append]
    gi_wp2_with (refine ⟨trivial, ?_⟩; gi_at_call 41; refine (callsIn_wide.2 (c_iCustomersOk L A c _ hA hn)).mono ?_; rw [H.out]; rintro e w1 ⟨rfl, hb1⟩)
    have hs1 := hb1.size
    gi_wp2_with (refine ⟨trivial, ?_⟩; gi_at_call 54; refine (workFrom0_in _ _ trivial rfl _ _ _ _).mono ?_; rintro e w' ⟨rfl, rfl⟩)
    obtain ⟨W0, hW0⟩ : ∃ W0, (w1.alloc (.cells #[.int .i64 0] 3)).alloc (.cells #[.slice A L.length c] 23) = W0 := ⟨_, rfl⟩
    have bN0 := (Boxed.new w1 3 (.int .i64 0)).alloc (.cells #[.slice A L.length c] 23)
    have bL0 := heap_alloc_new (w1.alloc (.cells #[.int .i64 0] 3)) (.cells #[.slice A L.length c] 23)
    simp only [World.size_alloc] at bL0
    have hB0 : Below w.heap.size w ((w1.alloc (.cells #[.int .i64 0] 3)).alloc (.cells #[.slice A L.length c] 23)) := (hb1.alloc hs1 _).alloc (by simp; omega) _
    have hsz : ((w1.alloc (.cells #[.int .i64 0] 3)).alloc (.cells #[.slice A L.length c] 23)).heap.size = w1.heap.size + 2 := by simp
    rw [hW0] at bN0 bL0 hB0 hsz ⊢
    clear hW0 hb1
    refine wpIn_rangeFunc_ownH rfl (by omega) (gf := 74) (lb := #[.pointer (some ⟨w1.heap.size + 1, 0, none⟩)]) rfl trivial (enters_of Try.func74 (by kernel_rfl) rfl)
      (workFrom0_stops Fence.wide _ trivial rfl (by omega) (w1.heap.size + 1) w.heap.size c A L H.out W0 (by omega) bL0 (hA.below hB0)) Kpt.t (Kpt.b (by omega) (by omega)) (Below.refl _ _) (fun _ => rfl)
      (fun (pre : List (Fin 201)) W => Boxed W w1.heap.size 3 (.int .i64 (wkSum L (pre.map Fin.val))) ∧ (Below w.heap.size w W ∧ W0.heap.size ≤ W.heap.size))
      (fun _ _ _ => False)
      (OwnFrom.and (Own.from (boxed_own _ _ _) _) (OwnFrom.and (ownFrom_below (Nat.le_refl _) (by omega)) (fun s A B row hs hg hr => Nat.le_trans hs hg.size)))
      (fun _ _ _ _ _ h _ _ => h)
      ⟨bN0, hB0, Nat.le_refl _⟩
      (fun x a' W => a' = { tmps := #[.slice A L.length c, undef, .int .i64 0, .pointer (some ⟨w1.heap.size, 0, none⟩), undef, .int .i64 (wk L x.1), .slice A L.length c, .bool true, .bool false, .slice A L.length c, .func (.func 74) #[] #[.pointer (some ⟨w1.heap.size + 1, 0, none⟩)], .int .i64 (x.1 : Int), .int .i64 (wk L x.1), undef, undef, undef, undef], defers := [] })
      (fun x a' _ P Q row hs hg hr => hs)
      ?assign ?body ?done ?stop
    case assign =>
      rintro l pre x W K hI hK
      gi_wp2
      exact hK _ _ (KeepsFrom.refl _ _) ⟨Below.refl _ W, rfl⟩ hI rfl
    case body =>
      rintro l pre x a' W hl ⟨r, hr⟩ ⟨bN, hB1, hZ⟩ rfl hlt
      have cN := bN.cell
      have fN := bN.frozen
      have bx := x.2
      have hbd := HB.out (pre.map Fin.val)
      rw [List.length_map] at hbd
      have hwk := HWk.out x.1
      have HS := Lib.hid (wkSum_snoc L (pre.map Fin.val) x.1)
      have hs : ∀ v : Int, v = wkSum L (pre.map Fin.val) + wk L x.1 → KeepsFrom W0.heap.size W (W.setCell ⟨w1.heap.size, 0, none⟩ (.int .i64 v)) ∧ Kpt w.heap.size (w1.heap.size + 1) W (W.setCell ⟨w1.heap.size, 0, none⟩ (.int .i64 v)) ∧
          (Boxed (W.setCell ⟨w1.heap.size, 0, none⟩ (.int .i64 v)) w1.heap.size 3 (.int .i64 (wkSum L ((pre ++ [x]).map Fin.val))) ∧
            Below w.heap.size w (W.setCell ⟨w1.heap.size, 0, none⟩ (.int .i64 v)) ∧ W0.heap.size ≤ (W.setCell ⟨w1.heap.size, 0, none⟩ (.int .i64 v)).heap.size) := by
        intro v e
        subst e
        refine ⟨(KeepsOthers.setCell _ _ _).from _, ⟨(Below.refl _ W).setCell (p := ⟨w1.heap.size, 0, none⟩) (by simp; omega) _, Below.heap_setCell _ _ _ _ (show w1.heap.size + 1 ≠ w1.heap.size by omega)⟩, ?_, hB1.setCell (p := ⟨w1.heap.size, 0, none⟩) (by simp; omega) _, by simp [World.setCell]; omega⟩
        rw [List.map_append, List.map_cons, List.map_nil, HS.out]
        exact bN.set _
      have HSS := Lib.hid hs
      clear hs HS
      generalize wkSum L (List.map Fin.val pre) = sv at *
      generalize wk L x.1 = wv at *
      gi_wp2
      obtain ⟨q1, q2, q3, q4⟩ := HSS.out _ rfl
      exact ⟨q1, q2, q3, q4.1, (by have := q4.2; omega)⟩
    case done =>
      rintro D ys W hD hys ⟨bN, hB1, hZ⟩ hK
      rw [hys, wkSum_range, ← HV.out] at bN
      have cN := bN.cell
      clear hys
      gi_wp2
      refine ⟨by simp, .inl ⟨_, _, rfl, run_takeDeferred hK, ?_⟩⟩
      refine ⟨_, results_tmp rfl _ _ _, rfl, hB1.trans (belowK_b (w := w) (Nat.le_refl _) W D _ _ (by omega) hK rfl rfl)⟩
    case stop =>
      rintro D cd pre W _ _ h _
      exact h.elim
  · have hno : cOk L = false := by simpa using h
    have HV := Lib.hid (workAreaV_no hno)
    have H := Lib.hid hno; clear h hno
    go_enter Try.func23, Try.ntmps23
    go_wp2_with fail
    refine (c_iCustomersOk L A c _ hA hn).mono ?_
    rintro e w1 ⟨rfl, hb1⟩
    rw [H.out]
    go_wp2_with fail
    go_ret
    exact ⟨by rw [HV.out]; rfl, hb1⟩

end Go.Proofs.Ytbipeoepcndecaa

