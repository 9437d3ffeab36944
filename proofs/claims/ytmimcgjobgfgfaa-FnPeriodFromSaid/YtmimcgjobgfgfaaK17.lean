/- spec.LastTimes, PeriodFrom, LeftFor, DeepAt (ahead of the landing) · spec.LeftFor, DeepAt (ahead of the landing) -/
import Derived.Test.YtmimcgjobgfgfaaK10
import Derived.Test.YtmimcgjobgfgfaaK5
import Derived.Test.YtmimcgjobgfgfaaM22
namespace Go.Proofs.Ytmimcgjobgfgfaa
set_option linter.unusedVariables false
open Go.RowKit
attribute [local go_sem ↓] Go.wp_at_zero Go.wp_at_succ

def lastR (L : List (Int × Int)) : List Int := timesR L (orderR L 1)
theorem c_sLastTimes (L : List (Int × Int)) (A : Option Addr) (c : Nat) (w : World) (hA : Cs w w.heap.size A L) (hn : L.length ≤ 1000000000000) :
    Calls Try.prog 14 #[.slice A L.length c] w fun e w' => ∃ v, e = .returned v ∧ IO w' w.heap.size v (lastR L) ∧ Below w.heap.size w w' := by
  have hl : (orderR L 1).length ≤ 200 := by
    cases hp : byOk L 1 with
    | false => rw [orderR_no hp]; simp
    | true =>
      obtain ⟨hc, -⟩ : cOk L = true ∧ decide (0 ≤ (1 : Int) ∧ (1 : Int) ≤ 3) = true := by simpa [byOk] using hp
      obtain ⟨T, hT, hT2⟩ := lastLeave_nat hc
      rw [orderR_yes hp, hT, orderTo_len]; omega
  go_enter Try.func14, Try.ntmps14
  go_wp2_with fail
  refine (c_sOrderBy L A c 1 w hA (by omega)).mono ?_
  rintro e w1 ⟨v1, rfl, o1, hb1⟩
  have hs1 := hb1.size
  obtain ⟨O, d, rfl, -, -, hO⟩ := o1.form
  clear o1
  go_wp2_with fail
  refine (c_sTimesOf L (orderR L 1) A O c d _ ((hA.below hb1).more hs1) hO hn (by omega)).mono ?_
  rintro e w2 ⟨v2, rfl, o2, hb2⟩
  go_wp2_with fail
  go_ret
  exact ⟨_, rfl, o2.mono hs1, hb1.trans (hb2.mono hs1)⟩

theorem perTo_stop {L : List (Int × Int)} (hc : cOk L = true) {a m : Nat} (hm : a + 1 + m ≤ L.length) (h : a + 1 + m = L.length ∨ perTo L a m ≤ X L (a + 1 + m)) : perE L a = perTo L a m := by
  have key : ∀ d, a + 1 + (m + d) ≤ L.length → perTo L a (m + d) = perTo L a m := by
    intro d
    induction d with
    | zero => intro _; rfl
    | succ d ih =>
      intro hd
      have i := ih (by omega)
      have hx : perTo L a m ≤ X L (a + 1 + (m + d)) := by
        rcases h with h | h
        · omega
        · have := cOk_mono hc (i := a + 1 + m) (j := a + 1 + (m + d)) (by omega) (by omega)
          omega
      show (if X L (a + 1 + (m + d)) < perTo L a (m + d) then perTo L a (m + d) + Y L (a + 1 + (m + d)) else perTo L a (m + d)) = _
      rw [i, if_neg (by omega)]
  unfold perE
  have := key (L.length - (a + 1) - m) (by omega)
  rw [show m + (L.length - (a + 1) - m) = L.length - (a + 1) by omega] at this
  exact this
theorem perTo_bd {L : List (Int × Int)} (hc : cOk L = true) {a : Nat} (ha : a < L.length) : ∀ m, a + 1 + m ≤ L.length → 0 ≤ perTo L a m ∧ perTo L a m ≤ 200 := by
  intro m hm
  obtain ⟨p, h1, h2, h3, _⟩ := perTo_spec hc a m hm
  have b := sumTo_le hc (j := p) (by omega)
  have c := sumTo_le hc (j := a) (by omega)
  have e := sumTo_mono hc (i := a) (j := p) (by omega) (by omega)
  have d := cOk_bd hc ha
  omega

set_option maxRecDepth 4000 in
set_option maxHeartbeats 4000000 in
theorem c_sPeriodFrom (L : List (Int × Int)) (A : Option Addr) (c : Nat) (t : Int) (w : World) (hA : Cs w w.heap.size A L) (hn : L.length ≤ 140737488351232) :
    Calls Try.prog 19 #[.slice A L.length c, .int .i64 t] w fun e w' => e = .returned (.int .i64 (perV L t)) ∧ Below w.heap.size w w' := by
  have HC := Lib.hid (c_sCustomersOk L A c w hA hn)
  have HI := Lib.hid (fun W => c_l1In t 0 ((L.length : Int) - 1) W)
  cases hc : cOk L with
  | true =>
    by_cases ht : 0 ≤ t ∧ t ≤ (L.length : Int) - 1
    · have hd : decide (0 ≤ t ∧ t ≤ (L.length : Int) - 1) = true := decide_eq_true ht
      have hp : placeOk L t = true := by simp only [placeOk, hc, hd, Bool.and_self]
      have HV := Lib.hid (perV_yes hp)
      obtain ⟨n, rfl, hnl, -⟩ := placeOk_nat hp
      have HIt : Hid (∀ W, Calls Try.prog 46 #[.int .i64 (n : Int), .int .i64 0, .int .i64 ((L.length : Int) - 1)] W fun e w' => e = .returned (.bool true) ∧ W = w') := fun W => by have K := HI.out W; rw [hd] at K; exact K.mono fun _ _ h => ⟨h.1, h.2.symm⟩
      have H := Lib.hid hc
      have hlen := cOk_len hc
      obtain ⟨b, off, rfl, hlb, hcc⟩ := hA (by omega)
      have HCC := Lib.hid hcc
      have bd := cOk_bd hc hnl
      have HP := Lib.hid (fun m hm => perTo_bd hc hnl m hm)
      have HST := Lib.hid (fun m hm h => perTo_stop hc (a := n) (m := m) hm h)
      have HBD := Lib.hid (fun k (hk : k < L.length) => cOk_bd hc hk)
      clear hp hd ht hc HI hcc
      go_enter Try.func19, Try.ntmps19
      go_wp2_with fail
      refine HC.out.mono ?_
      rintro e w1 ⟨rfl, hb1⟩
      rw [H.out]
      have hs1 := hb1.size
      clear HC
      go_wp2_with fail
      refine (HIt.out _).mono ?_
      rintro e w' ⟨rfl, rfl⟩
      have c1 := (hb1.cell (p := ⟨b, off + n * 2, none⟩) hlb).trans (HCC.out n hnl).1
      have c2 := (hb1.cell (p := ⟨b, off + n * 2 + 1, none⟩) hlb).trans (HCC.out n hnl).2
      have p0 : (0 : Int) ≤ (n : Int) := by omega
      have p1 : (n : Int) < (L.length : Int) := by omega
      have q1 : IntKind.i64.wrap (X L n + Y L n) = X L n + Y L n := IntWalk.i64_in _ (by omega)
      clear HIt
      go_wp2_with fail
      go_quiet (fail)
      have hbq : Below w.heap.size w (w1.drewN nq) := by (repeat (first | exact hb1 | exact Below.refl _ _ | (with_reducible refine Below.drew ?_) | (with_reducible refine Below.drewN ?_ _) | (with_reducible refine Below.alloc ?_ ?_ _) | (with_reducible refine Below.setCell ?_ ?_ _) | (show _ ≤ _; focus (first | omega | (simp; done) | (simp; omega)))))
      clear q1 c1 c2 hb1 hs1 bd
      generalize w1.drewN nq = wq at *
      go_wp2_with fail
      obtain ⟨wz, hwz⟩ : ∃ x, x = wq := ⟨_, rfl⟩
      rw [← hwz] at hbq ⊢
      clear hwz
      have hsz := hbq.size
      go_loopw [5, 6] (fun ev kv wr => ∃ m : Nat, n + 1 + m ≤ L.length ∧ kv = .int .i64 ((n : Int) + 1 + m) ∧ ev = .int .i64 (perTo L n m) ∧ wr = wz) (fun _ kv _ => L.length - (intOf kv).toNat)
      case atStart => exact ⟨0, by omega, by simp, rfl, rfl⟩
      case round =>
        obtain ⟨m, hm, rfl, rfl, rfl⟩ := hrel
        have pb := HP.out m hm
        by_cases hlt : n + 1 + m < L.length
        · have c1 := (hbq.cell (p := ⟨b, off + (n + 1 + m) * 2, none⟩) hlb).trans (HCC.out _ hlt).1
          have c2 := (hbq.cell (p := ⟨b, off + (n + 1 + m) * 2 + 1, none⟩) hlb).trans (HCC.out _ hlt).2
          have r0 : (0 : Int) ≤ (n : Int) + 1 + (m : Int) := by omega
          have r1 : (n : Int) + 1 + (m : Int) < (L.length : Int) := by omega
          have r2 : ((n : Int) + 1 + (m : Int)).toNat = n + 1 + m := by omega
          have by' := HBD.out _ hlt
          by_cases hx : X L (n + 1 + m) < perTo L n m
          · have HN := Lib.hid (show perTo L n (m + 1) = perTo L n m + Y L (n + 1 + m) by simp only [perTo]; rw [if_pos hx])
            have d1 : decide (X L (n + 1 + m) < perTo L n m) = true := decide_eq_true hx
            go_wp2_with fail
            go_roundw
            case rel => exact ⟨m + 1, by omega, by go_num, by rw [HN.out], trivial⟩
            case measure => simp [intOf]; omega
          · have HE := Lib.hid (HST.out m hm (.inr (by omega)))
            have d1 : decide (X L (n + 1 + m) < perTo L n m) = false := decide_eq_false hx
            have c3 := (hbq.cell (p := ⟨b, off + n * 2, none⟩) hlb).trans (HCC.out n hnl).1
            have bn := HBD.out n hnl
            go_wp2_with fail
            go_ret
            exact ⟨by rw [HV.out, Int.toNat_natCast, HE.out]; rfl, hbq⟩
        · have r1 : ¬ (n : Int) + 1 + (m : Int) < (L.length : Int) := by omega
          have HE := Lib.hid (HST.out m hm (.inl (by omega)))
          have c3 := (hbq.cell (p := ⟨b, off + n * 2, none⟩) hlb).trans (HCC.out n hnl).1
          have bn := HBD.out n hnl
          go_wp2_with fail
          go_ret
          exact ⟨by rw [HV.out, Int.toNat_natCast, HE.out]; rfl, hbq⟩
    · have hd : decide (0 ≤ t ∧ t ≤ (L.length : Int) - 1) = false := decide_eq_false ht
      have HV := Lib.hid (perV_no (show placeOk L t = false by simp only [placeOk, hd, Bool.and_false]))
      have HIt : Hid (∀ W, Calls Try.prog 46 #[.int .i64 t, .int .i64 0, .int .i64 ((L.length : Int) - 1)] W fun e w' => e = .returned (.bool false) ∧ W = w') := fun W => by have K := HI.out W; rw [hd] at K; exact K.mono fun _ _ h => ⟨h.1, h.2.symm⟩
      have H := Lib.hid hc
      have hlen := cOk_len hc
      clear hd ht hc HI
      go_enter Try.func19, Try.ntmps19
      go_wp2_with fail
      refine HC.out.mono ?_
      rintro e w1 ⟨rfl, hb1⟩
      rw [H.out]
      go_wp2_with fail
      refine (HIt.out _).mono ?_
      rintro e w' ⟨rfl, rfl⟩
      go_wp2_with fail
      go_ret
      exact ⟨by rw [HV.out]; rfl, hb1⟩
  | false =>
    have HV := Lib.hid (perV_no (show placeOk L t = false by simp only [placeOk, hc, Bool.false_and]))
    have H := Lib.hid hc
    clear hc HI
    go_enter Try.func19, Try.ntmps19
    go_wp2_with fail
    refine HC.out.mono ?_
    rintro e w1 ⟨rfl, hb1⟩
    rw [H.out]
    go_wp2_with fail
    go_ret
    exact ⟨by rw [HV.out]; rfl, hb1⟩

end Go.Proofs.Ytmimcgjobgfgfaa

namespace Go.Proofs.Ytmimcgjobgfgfaa
set_option linter.unusedVariables false
open Go.RowKit
attribute [local go_sem ↓] Go.wp_at_zero Go.wp_at_succ

set_option maxRecDepth 4000 in
set_option maxHeartbeats 4000000 in
theorem c_sLeftFor (L : List (Int × Int)) (A : Option Addr) (c : Nat) (t : Int) (w : World) (hA : Cs w w.heap.size A L) (hn : L.length ≤ 140737488351232) :
    Calls Try.prog 23 #[.slice A L.length c, .int .i64 t] w fun e w' => e = .returned (.int .i64 (leftV L t)) ∧ Below w.heap.size w w' := by
  have HC := Lib.hid (c_sCustomersOk L A c w hA hn)
  have HI := Lib.hid (fun W => c_l1In t 0 ((L.length : Int) - 1) W)
  cases hc : cOk L with
  | true =>
    by_cases ht : 0 ≤ t ∧ t ≤ (L.length : Int) - 1
    · have hd : decide (0 ≤ t ∧ t ≤ (L.length : Int) - 1) = true := decide_eq_true ht
      have hp : placeOk L t = true := by simp only [placeOk, hc, hd, Bool.and_self]
      have HV := Lib.hid (leftV_yes hp)
      obtain ⟨n, rfl, hnl, -⟩ := placeOk_nat hp
      have HIt : Hid (∀ W, Calls Try.prog 46 #[.int .i64 (n : Int), .int .i64 0, .int .i64 ((L.length : Int) - 1)] W fun e w' => e = .returned (.bool true) ∧ W = w') := fun W => by have K := HI.out W; rw [hd] at K; exact K.mono fun _ _ h => ⟨h.1, h.2.symm⟩
      have H := Lib.hid hc
      have hlen := cOk_len hc
      have HBD := Lib.hid (fun k (hk : k < L.length) => cOk_bd hc hk)
      have HPB := Lib.hid (fun k (hk : k < L.length) => perE_bd hc hk)
      have HPK := Lib.hid (fun k (hk : k < L.length) => placeOk_mk hc hk)
      clear hp hd ht hc HI
      go_enter Try.func23, Try.ntmps23
      go_wp2_with fail
      refine HC.out.mono ?_
      rintro e w1 ⟨rfl, hb1⟩
      rw [H.out]
      have hs1 := hb1.size
      clear HC
      go_wp2_with fail
      refine (HIt.out _).mono ?_
      rintro e w' ⟨rfl, rfl⟩
      clear HIt
      go_wp2_with fail
      go_loopw [5] (fun kv wr => ∃ j : Nat, j ≤ n ∧ kv = .int .i64 ((j : Int) - 1) ∧ Hid (leftTo L (X L n) j = leftF L n) ∧ Below w.heap.size w wr) (fun kv _ => (intOf kv + 1).toNat)
      case atStart => exact ⟨n, Nat.le_refl _, rfl, rfl, hb1⟩
      case round =>
        obtain ⟨j, hj, rfl, HL, hb⟩ := hrel
        have hsz := hb.size
        by_cases h0 : 0 < j
        · obtain ⟨k, rfl⟩ : ∃ k, j = k + 1 := ⟨j - 1, by omega⟩
          have ek : ((k + 1 : Nat) : Int) - 1 = (k : Int) := by omega
          have hkl : k < L.length := by omega
          rw [ek]
          obtain ⟨b, off, rfl, hlb, hcc⟩ := hA (by omega)
          have c1 := (hb.cell (p := ⟨b, off + k * 2, none⟩) hlb).trans (hcc k hkl).1
          have c2 := (hb.cell (p := ⟨b, off + n * 2, none⟩) hlb).trans (hcc n hnl).1
          have e1 := WB.cell (B := wr.heap.size) (show b < wr.heap.size by omega) c1
          have e2 := WB.cell (B := wr.heap.size) (show b < wr.heap.size by omega) c2
          have HKP := Lib.hid (fun s : WB wr.heap.size wr => show Calls Try.prog 19 #[.slice (some ⟨b, off, none⟩) L.length c, .int .i64 (k : Int)] s.val fun e w' => e = .returned (.int .i64 (perE L k - X L k)) ∧ Below s.val.heap.size s.val w' from by
            have K := c_sPeriodFrom L (some ⟨b, off, none⟩) c (k : Int) s.val (s.cs ((hA.below hb).more hsz) (Nat.le_refl _)) hn
            rw [perV_yes (HPK.out k hkl), Int.toNat_natCast] at K
            exact K)
          have bk := HBD.out k hkl
          have bp := HPB.out k hkl
          have q1 : IntKind.i64.wrap (X L k + (perE L k - X L k)) = X L k + (perE L k - X L k) := IntWalk.i64_in _ (by omega)
          have p0 : (0 : Int) ≤ (k : Int) := by omega
          have p1 : (k : Int) < (L.length : Int) := by omega
          have p2 : (0 : Int) ≤ (n : Int) := by omega
          have p3 : (n : Int) < (L.length : Int) := by omega
          clear hcc c1 c2 h0 ek
          by_cases hx : X L n < perE L k
          · have d1 : decide (X L n < X L k + (perE L k - X L k)) = true := decide_eq_true (by omega)
            have HR := Lib.hid (show leftF L n = (k : Int) by rw [← HL.out]; simp only [leftTo]; rw [if_pos hx])
            clear hx bk bp
            go_wp2_with fail
            refine wp_region_wb wr.heap.size (by kernel_rfl) (by kernel_rfl) ?_
            repeat (go_big_quiet_step ((go_at_call 19; exact Calls.inB (Nat.le_refl _) (HKP.out _))))
            refine wpQuiet_nil ?_
            rintro w5 ⟨⟨_, hb5⟩, rfl⟩
            have hb6 := hb.trans (hb5.mono hsz)
            clear e1 e2 q1
            go_wp2_with fail
            go_ret
            exact ⟨by rw [HV.out, Int.toNat_natCast, HR.out]; rfl, hb6⟩
          · have d1 : decide (X L n < X L k + (perE L k - X L k)) = false := decide_eq_false (by omega)
            have HR := Lib.hid (show leftTo L (X L n) k = leftF L n by rw [← HL.out]; simp only [leftTo]; rw [if_neg hx])
            clear hx bk bp
            go_wp2_with fail
            refine wp_region_wb wr.heap.size (by kernel_rfl) (by kernel_rfl) ?_
            repeat (go_big_quiet_step ((go_at_call 19; exact Calls.inB (Nat.le_refl _) (HKP.out _))))
            refine wpQuiet_nil ?_
            rintro w5 ⟨⟨_, hb5⟩, rfl⟩
            have hb6 := hb.trans (hb5.mono hsz)
            clear e1 e2 q1
            go_wp2_with fail
            go_roundw
            case rel => exact ⟨k, by omega, by go_num, HR, hb6⟩
            case measure => first | (simp [intOf]; done) | (simp [intOf]; omega)
        · obtain rfl : j = 0 := by omega
          have HR := Lib.hid (show leftF L n = -1 from HL.out.symm)
          clear HL
          go_wp2_with fail
          go_ret
          exact ⟨by rw [HV.out, Int.toNat_natCast, HR.out]; rfl, hb⟩
    · have hd : decide (0 ≤ t ∧ t ≤ (L.length : Int) - 1) = false := decide_eq_false ht
      have HV := Lib.hid (leftV_no (show placeOk L t = false by simp only [placeOk, hd, Bool.and_false]))
      have HIt : Hid (∀ W, Calls Try.prog 46 #[.int .i64 t, .int .i64 0, .int .i64 ((L.length : Int) - 1)] W fun e w' => e = .returned (.bool false) ∧ W = w') := fun W => by have K := HI.out W; rw [hd] at K; exact K.mono fun _ _ h => ⟨h.1, h.2.symm⟩
      have H := Lib.hid hc
      have hlen := cOk_len hc
      clear hd ht hc HI
      go_enter Try.func23, Try.ntmps23
      go_wp2_with fail
      refine HC.out.mono ?_
      rintro e w1 ⟨rfl, hb1⟩
      rw [H.out]
      go_wp2_with fail
      refine (HIt.out _).mono ?_
      rintro e w' ⟨rfl, rfl⟩
      go_wp2_with fail
      go_ret
      exact ⟨by rw [HV.out]; rfl, hb1⟩
  | false =>
    have HV := Lib.hid (leftV_no (show placeOk L t = false by simp only [placeOk, hc, Bool.false_and]))
    have H := Lib.hid hc
    clear hc HI
    go_enter Try.func23, Try.ntmps23
    go_wp2_with fail
    refine HC.out.mono ?_
    rintro e w1 ⟨rfl, hb1⟩
    rw [H.out]
    go_wp2_with fail
    go_ret
    exact ⟨by rw [HV.out]; rfl, hb1⟩

theorem leftV_bd (L : List (Int × Int)) (t : Int) : -2 ≤ leftV L t ∧ (leftV L t = -2 ↔ placeOk L t = false) := by
  cases h : placeOk L t with
  | false => rw [leftV_no h]; simp
  | true =>
    have := leftF_lt L t.toNat
    rw [leftV_yes h]
    refine ⟨by omega, ⟨fun e => by omega, fun e => by cases e⟩⟩

set_option maxHeartbeats 4000000 in
theorem c_sDeepAt (L : List (Int × Int)) (A : Option Addr) (c : Nat) (t : Int) (w : World) (hA : Cs w w.heap.size A L) (hn : L.length ≤ 140737488351232) :
    Calls Try.prog 26 #[.slice A L.length c, .int .i64 t] w fun e w' => e = .returned (.int .i64 (deepV L t)) ∧ Below w.heap.size w w' := by
  have HK := Lib.hid (fun t W hW => c_sLeftFor L A c t W hW hn)
  cases hp : placeOk L t with
  | true =>
    have HV := Lib.hid (deepV_yes hp)
    have HLV := Lib.hid (leftV_yes hp)
    obtain ⟨n, rfl, hnl, hc⟩ := placeOk_nat hp
    have hlt := leftF_lt L n
    have hlen := cOk_len hc
    have HKt := Lib.hid (fun (a : Nat) (ha : a < L.length) W hW => show Calls Try.prog 23 #[.slice A L.length c, .int .i64 (a : Int)] W fun e w' => e = .returned (.int .i64 (leftF L a)) ∧ Below W.heap.size W w' from by
      have K := HK.out (a : Int) W hW
      rw [leftV_yes (placeOk_mk hc ha), Int.toNat_natCast] at K
      exact K)
    have HLT := Lib.hid (fun a => leftF_lt L a)
    have HDN := Lib.hid (fun a (h : leftF L a = -1) => deepF_none h)
    have HDL := Lib.hid (fun a k (h : leftF L a = (k : Nat)) => deepF_left h)
    have HDB := Lib.hid (fun a => deepF_bd L a)
    have hne : (leftF L n == -2) = false := beq_eq_false_iff_ne.2 (by omega)
    clear hp hc HK
    go_enter Try.func26, Try.ntmps26
    go_wp2_with fail
    refine (HKt.out n hnl _ hA).mono ?_
    rintro e w1 ⟨rfl, hb1⟩
    have hs1 := hb1.size
    go_wp2_with fail
    refine (HKt.out n hnl _ ((hA.below hb1).more hs1)).mono ?_
    rintro e w2 ⟨rfl, hb2⟩
    have hb3 := hb1.trans (hb2.mono hs1)
    clear hb1 hb2
    go_wp2_with fail
    go_loopw [5, 6] (fun nv kv wr => ∃ (a : Nat) (d : Int), a < L.length ∧ a ≤ n ∧ kv = .int .i64 (leftF L a) ∧ nv = .int .i64 d ∧ 1 ≤ d ∧ Hid (d + deepF L a = 1 + deepF L n) ∧ Below w.heap.size w wr) (fun _ kv _ => (intOf kv + 1).toNat)
    case atStart => exact ⟨n, 1, hnl, Nat.le_refl _, rfl, rfl, by omega, rfl, hb3⟩
    case round =>
      obtain ⟨a, d, ha, han, rfl, rfl, hd1, HD, hb⟩ := hrel
      have hsz := hb.size
      have la := HLT.out a
      have da := HDB.out a
      have dn := HDB.out n
      have hd2 := HD.out
      have hdb : d ≤ 20 := by omega
      by_cases h0 : 0 ≤ leftF L a
      · obtain ⟨k, hk⟩ := Int.eq_ofNat_of_zero_le h0
        have HX := Lib.hid (HDL.out a k hk)
        have hka : k < a := by omega
        have lk := HLT.out k
        have HKk := Lib.hid (HKt.out k (by omega) wr ((hA.below hb).more hsz))
        rw [hk]
        clear hk h0 la
        clear hd2
        go_wp2_with fail
        refine HKk.out.mono ?_
        rintro e w5 ⟨rfl, hb5⟩
        go_wp2_with fail
        go_roundw
        case rel => exact ⟨k, d + 1, by omega, by omega, rfl, by go_num, by omega, by have := HX.out; have := HD.out; show d + 1 + deepF L k = 1 + deepF L n; omega, hb.trans (hb5.mono hsz)⟩
        case measure => simp [intOf]; omega
      · have hk : leftF L a = -1 := by omega
        have HX := Lib.hid (HDN.out a hk)
        have HR := Lib.hid (show d = deepF L n by have := HX.out; omega)
        rw [hk]
        clear hk h0 la hd2
        go_wp2_with fail
        go_ret
        exact ⟨by rw [HV.out, Int.toNat_natCast, ← HR.out]; rfl, hb⟩
  | false =>
    have HV := Lib.hid (deepV_no hp)
    have K := HK.out t w hA
    rw [leftV_no hp] at K
    have HKt := Lib.hid K
    clear hp K HK
    go_enter Try.func26, Try.ntmps26
    go_wp2_with fail
    refine HKt.out.mono ?_
    rintro e w1 ⟨rfl, hb1⟩
    go_wp2_with fail
    go_ret
    exact ⟨by rw [HV.out]; rfl, hb1⟩

end Go.Proofs.Ytmimcgjobgfgfaa

