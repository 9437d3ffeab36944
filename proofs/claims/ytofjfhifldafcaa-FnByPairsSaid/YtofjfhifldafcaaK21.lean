/- spec.InOrder, spec.ByPairs (ahead of the landing) -/
import Derived.Test.YtofjfhifldafcaaK13
import Derived.Test.YtofjfhifldafcaaK20
namespace Go.Proofs.Ytofjfhifldafcaa
set_option linter.unusedVariables false
open Go.RowKit
attribute [local go_sem ↓] Go.wp_at_zero Go.wp_at_succ

theorem inOrd_snoc (L : List (Int × Int)) (o : List Int) {k : Nat} (h : k < o.length) : inOrd L (o.take (k + 1)) = inOrd L (o.take k) ++ [(X L (Z o k).toNat, Y L (Z o k).toNat)] := by
  rw [List.take_succ_eq_append_getElem h]
  simp only [inOrd, List.map_append, List.map_cons, List.map_nil, gB, Z_get h]
theorem inOrd_take_len (L : List (Int × Int)) (o : List Int) {k : Nat} (h : k ≤ o.length) : (inOrd L (o.take k)).length = k := by rw [inOrd_len, List.length_take]; omega

set_option maxRecDepth 4000 in
set_option maxHeartbeats 4000000 in
theorem c_sInOrder (L : List (Int × Int)) (o : List Int) (A O : Option Addr) (c d : Nat) (w : World) (hA : Cs w w.heap.size A L) (hO : Is w w.heap.size O o) (hn : L.length ≤ 140737488351232) (ho : o.length ≤ 140737488351232) :
    Calls Try.prog 34 #[.slice A L.length c, .slice O o.length d] w fun e w' => ∃ v, e = .returned (.tuple #[v, .bool (inOk L o)]) ∧ BO w' w.heap.size v (inV L o) ∧ Below w.heap.size w w' := by
  have hb0 : Below w.heap.size w (w.alloc (.cells #[] 27)) := by (repeat (first | exact rfl | exact Below.refl _ _ | (with_reducible refine Below.drew ?_) | (with_reducible refine Below.drewN ?_ _) | (with_reducible refine Below.alloc ?_ ?_ _) | (with_reducible refine Below.setCell ?_ ?_ _) | (show _ ≤ _; focus (first | omega | (simp; done) | (simp; omega)))))
  have own0 := BO.empty w (Nat.le_refl w.heap.size)
  have HB := Lib.hid (c_sBothOk L A c _ ((hA.below hb0).more hb0.size) hn)
  have HE := Lib.hid (fun W hW => c_sEachOnce o O d (L.length : Int) W hW ho)
  cases hbo : bOk L with
  | true =>
    rw [hbo] at HB
    cases heo : eachV o L.length with
    | true =>
      have hin : inOk L o = true := by simp [inOk, hbo, heo]
      have hl6 : o.length ≤ 6 := by have := each_len heo; have := (bOk_parts hbo).2; omega
      have HR := Lib.hid (fun k (hk : k < o.length) => each_Z heo hk)
      have HI := Lib.hid hin
      have HV := Lib.hid (inV_yes hin)
      rw [heo] at HE
      clear hbo heo hin
      go_enter Try.func34, Try.ntmps34
      go_wp2_with fail
      refine HB.out.mono ?_
      rintro e w1 ⟨rfl, hb1⟩
      have own1 := own0.below hb1 (Nat.le_refl _)
      have hx1 := hb0.trans (hb1.mono hb0.size)
      clear hb1 own0 hb0 HB
      go_wp2_with fail
      refine (HE.out _ ((hO.below hx1).more hx1.size)).mono ?_
      rintro e w2 ⟨rfl, hb2⟩
      have own2 := own1.below hb2 (Nat.le_refl _)
      have hx2 := hx1.trans (hb2.mono hx1.size)
      clear hb2 own1 hx1 HE
      go_wp2_with fail
      go_loopw [6, 7] (fun v i wr => ∃ k : Nat, k ≤ o.length ∧ i = .int .i64 k ∧ BO wr w.heap.size v (inOrd L (o.take k)) ∧ Below w.heap.size w wr) (fun _ i _ => o.length - (intOf i).toNat)
      case atStart => exact ⟨0, by omega, rfl, own2, hx2⟩
      case round =>
        obtain ⟨k, hk, rfl, hown, hb⟩ := hrel
        have hsz := hb.size
        by_cases hlt : k < o.length
        · obtain ⟨ob, oo, rfl, hob, hoc⟩ := hO (by omega)
          have c0 := (hb.cell (p := ⟨ob, oo + k, none⟩) hob).trans (hoc k hlt)
          have hz := HR.out k hlt
          obtain ⟨b, off, rfl, hlb, hc⟩ := hA (by omega)
          have c1 := (hb.cell (p := ⟨b, off + (Z o k).toNat * 2, none⟩) hlb).trans (hc (Z o k).toNat (by omega)).1
          have c2 := (hb.cell (p := ⟨b, off + (Z o k).toNat * 2 + 1, none⟩) hlb).trans (hc (Z o k).toNat (by omega)).2
          have hlen := inOrd_take_len L o (Nat.le_of_lt hlt)
          have q1 : (0 : Int) ≤ (k : Int) := by omega
          have q2 : (k : Int) < (o.length : Int) := by omega
          have q3 : (0 : Int) ≤ Z o k := hz.1
          have q4 : Z o k < (L.length : Int) := by omega
          have q5 : (inOrd L (o.take k)).length ≤ 1000000000000 := by omega
          have q6 : w.heap.size ≤ (wr.alloc (.cells #[.int .i64 (X L (Z o k).toNat), .int .i64 (Y L (Z o k).toNat)] 27)).heap.size := by simp; omega
          have hba : Below w.heap.size w (wr.alloc (.cells #[.int .i64 (X L (Z o k).toNat), .int .i64 (Y L (Z o k).toNat)] 27)) := hb.alloc hsz _
          have HS := Lib.hid (inOrd_snoc L o hlt)
          have HL := Lib.hid hlen
          clear hoc hc hz hlen
          go_wp2_with (refine app_B (by rfl) (.tmp 26) (.tmp 34) (by rfl) w.heap.size u6 (inOrd L (o.take k)) (X L (Z o k).toNat) (Y L (Z o k).toNat) wr.heap.size (by rfl) (hown.alloc _) (by rfl) (heap_alloc_new _ _) q5 q6 ?_; intro g cap w7 hown7 hgr7 hb7)
          go_roundw
          case rel => exact ⟨k + 1, by omega, by go_num, by rw [HS.out]; exact hown7, hba.trans hb7⟩
          case measure => simp [intOf]; omega
        · have hlf : ¬ ((k : Int) < (o.length : Int)) := by omega
          obtain rfl : k = o.length := by omega
          rw [List.take_length] at hown
          go_wp2_with fail
          go_ret2
          exact ⟨_, by rw [HI.out]; rfl, by rw [HV.out]; exact hown, hb⟩
    | false =>
      have hin : inOk L o = false := by simp [inOk, heo]
      have HI := Lib.hid hin
      have HV := Lib.hid (inV_no hin)
      rw [heo] at HE
      clear hbo heo hin
      go_enter Try.func34, Try.ntmps34
      go_wp2_with fail
      refine HB.out.mono ?_
      rintro e w1 ⟨rfl, hb1⟩
      have own1 := own0.below hb1 (Nat.le_refl _)
      have hx1 := hb0.trans (hb1.mono hb0.size)
      clear hb1 own0 hb0 HB
      go_wp2_with fail
      refine (HE.out _ ((hO.below hx1).more hx1.size)).mono ?_
      rintro e w2 ⟨rfl, hb2⟩
      have own2 := own1.below hb2 (Nat.le_refl _)
      have hx2 := hx1.trans (hb2.mono hx1.size)
      clear hb2 own1 hx1 HE
      go_wp2_with fail
      go_ret2
      exact ⟨_, by rw [HI.out]; rfl, by rw [HV.out]; exact own2, hx2⟩
  | false =>
    have hin : inOk L o = false := by simp [inOk, hbo]
    have HI := Lib.hid hin
    have HV := Lib.hid (inV_no hin)
    rw [hbo] at HB
    clear hbo hin HE
    go_enter Try.func34, Try.ntmps34
    go_wp2_with fail
    refine HB.out.mono ?_
    rintro e w1 ⟨rfl, hb1⟩
    have own1 := own0.below hb1 (Nat.le_refl _)
    have hx1 := hb0.trans (hb1.mono hb0.size)
    clear hb1 own0 hb0 HB
    go_wp2_with fail
    go_ret2
    exact ⟨_, by rw [HI.out]; rfl, by rw [HV.out]; exact own1, hx1⟩

def lowAt (L : List (Int × Int)) (m k : Nat) : List Int := lowTo L m ++ lowG L (m + 1 : Nat) k
def highAt (L : List (Int × Int)) (m k : Nat) : List Int := lowTo L 9 ++ (highTo L m ++ highG L (9 - m : Int) k)
theorem lowG_len (L : List (Int × Int)) (n : Int) : ∀ k, (lowG L n k).length ≤ k := by
  intro k
  induction k with
  | zero => simp [lowG]
  | succ k ih => simp only [lowG]; split <;> (try simp) <;> omega
theorem highG_len (L : List (Int × Int)) (n : Int) : ∀ k, (highG L n k).length ≤ k := by
  intro k
  induction k with
  | zero => simp [highG]
  | succ k ih => simp only [highG]; split <;> (try simp) <;> omega
theorem lowTo_len (L : List (Int × Int)) (h : L.length ≤ 6) : ∀ m, (lowTo L m).length ≤ 6 * m := by
  intro m
  induction m with
  | zero => simp [lowTo]
  | succ m ih => have := lowG_len L (m + 1 : Nat) L.length; simp only [lowTo, List.length_append]; omega
theorem highTo_len (L : List (Int × Int)) (h : L.length ≤ 6) : ∀ m, (highTo L m).length ≤ 6 * m := by
  intro m
  induction m with
  | zero => simp [highTo]
  | succ m ih => have := highG_len L (9 - m : Int) L.length; simp only [highTo, List.length_append]; omega
theorem lowAt_len {L : List (Int × Int)} (h : L.length ≤ 6) {m k : Nat} (hm : m ≤ 9) (hk : k ≤ L.length) : (lowAt L m k).length ≤ 1000 := by
  have := lowTo_len L h m; have := lowG_len L (m + 1 : Nat) k; simp only [lowAt, List.length_append]; omega
theorem highAt_len {L : List (Int × Int)} (h : L.length ≤ 6) {m k : Nat} (hm : m ≤ 9) (hk : k ≤ L.length) : (highAt L m k).length ≤ 1000 := by
  have := lowTo_len L h 9; have := highTo_len L h m; have := highG_len L (9 - m : Int) k; simp only [highAt, List.length_append]; omega
theorem lowAt_yes {L : List (Int × Int)} {m k : Nat} (h1 : X L k ≤ Y L k) (h2 : X L k = (m : Int) + 1) : lowAt L m (k + 1) = lowAt L m k ++ [(k : Int)] := by
  simp only [lowAt, lowG]; rw [if_pos ⟨h1, by omega⟩, List.append_assoc]
theorem lowAt_no {L : List (Int × Int)} {m k : Nat} (h : ¬ (X L k ≤ Y L k ∧ X L k = (m : Int) + 1)) : lowAt L m (k + 1) = lowAt L m k := by
  simp only [lowAt, lowG]; rw [if_neg (fun c => h ⟨c.1, by have := c.2; omega⟩)]
theorem highAt_yes {L : List (Int × Int)} {m k : Nat} (h1 : Y L k < X L k) (h2 : Y L k = 9 - (m : Int)) : highAt L m (k + 1) = highAt L m k ++ [(k : Int)] := by
  simp only [highAt, highG]; rw [if_pos ⟨h1, h2⟩]; simp only [List.append_assoc]
theorem highAt_no {L : List (Int × Int)} {m k : Nat} (h : ¬ (Y L k < X L k ∧ Y L k = 9 - (m : Int))) : highAt L m (k + 1) = highAt L m k := by
  simp only [highAt, highG]; rw [if_neg h]
theorem lowAt_zero (L : List (Int × Int)) : lowAt L 0 0 = [] := rfl
theorem lowAt_next (L : List (Int × Int)) (m : Nat) : lowAt L m L.length = lowAt L (m + 1) 0 := by simp [lowAt, lowTo, lowG]
theorem highAt_zero (L : List (Int × Int)) : lowAt L 9 0 = highAt L 0 0 := by simp [lowAt, highAt, lowG, highG, highTo]
theorem highAt_next (L : List (Int × Int)) (m : Nat) : highAt L m L.length = highAt L (m + 1) 0 := by simp [highAt, highTo, highG]
theorem highAt_end (L : List (Int × Int)) : highAt L 9 0 = pairsR L := by simp [highAt, highG, pairsR]

set_option maxRecDepth 4000 in
set_option maxHeartbeats 8000000 in
theorem c_sByPairs (L : List (Int × Int)) (A : Option Addr) (c : Nat) (w : World) (hA : Cs w w.heap.size A L) (hn : L.length ≤ 140737488351232) :
    Calls Try.prog 38 #[.slice A L.length c] w fun e w' => ∃ v, e = .returned v ∧ IO w' w.heap.size v (pairsV L) ∧ Below w.heap.size w w' := by
  have hb0 : Below w.heap.size w (w.alloc (.cells #[] 3)) := by (repeat (first | exact rfl | exact Below.refl _ _ | (with_reducible refine Below.drew ?_) | (with_reducible refine Below.drewN ?_ _) | (with_reducible refine Below.alloc ?_ ?_ _) | (with_reducible refine Below.setCell ?_ ?_ _) | (show _ ≤ _; focus (first | omega | (simp; done) | (simp; omega)))))
  have own0 := IO.empty w (Nat.le_refl w.heap.size)
  have HB := Lib.hid (c_sBothOk L A c _ ((hA.below hb0).more hb0.size) hn)
  cases hbo : bOk L with
  | true =>
    rw [hbo] at HB
    have hl6 := (bOk_parts hbo).2.2
    have HV := Lib.hid ((pairsV_yes hbo).trans (highAt_end L).symm)
    have HLl := Lib.hid (fun m k (hm : m ≤ 9) (hk : k ≤ L.length) => lowAt_len hl6 hm hk)
    have HLh := Lib.hid (fun m k (hm : m ≤ 9) (hk : k ≤ L.length) => highAt_len hl6 hm hk)
    have HXY := Lib.hid (bOk_parts hbo).1
    have HNl := Lib.hid (lowAt_next L)
    have HNh := Lib.hid (highAt_next L)
    have HZh := Lib.hid (highAt_zero L)
    clear hbo
    go_enter Try.func38, Try.ntmps38
    go_wp2_with fail
    refine HB.out.mono ?_
    rintro e w1 ⟨rfl, hb1⟩
    have own1 := own0.below hb1 (Nat.le_refl _)
    have hx1 := hb0.trans (hb1.mono hb0.size)
    clear hb1 own0 hb0 HB
    go_wp2_with fail
    go_loopw [3, 4] (fun v i wr => ∃ m : Nat, m ≤ 9 ∧ i = .int .i64 ((m : Int) + 1) ∧ IO wr w.heap.size v (lowAt L m 0) ∧ Below w.heap.size w wr) (fun _ i _ => (10 - intOf i).toNat)
    case atStart => exact ⟨0, by omega, rfl, by rw [lowAt_zero]; exact own1, hx1⟩
    case round =>
      obtain ⟨m, hm, rfl, hown, hb⟩ := hrel
      by_cases hlt : m < 9
      · have p1 : (m : Int) + 1 ≤ 9 := by omega
        go_wp2_with fail
        go_loopw [3, 5] (fun v i wr => ∃ k : Nat, k ≤ L.length ∧ i = .int .i64 k ∧ IO wr w.heap.size v (lowAt L m k) ∧ Below w.heap.size w wr) (fun _ i _ => L.length - (intOf i).toNat)
        case atStart => exact ⟨0, by omega, rfl, hown, hb⟩
        case round =>
          clear hb hown
          obtain ⟨k, hk, rfl, hown, hb⟩ := hrel
          have hsz := hb.size
          by_cases hkl : k < L.length
          · obtain ⟨b, off, rfl, hlb, hc⟩ := hA (by omega)
            have c1 := (hb.cell (p := ⟨b, off + k * 2, none⟩) hlb).trans (hc k hkl).1
            have c2 := (hb.cell (p := ⟨b, off + k * 2 + 1, none⟩) hlb).trans (hc k hkl).2
            have q1 : (0 : Int) ≤ (k : Int) := by omega
            have q2 : (k : Int) < (L.length : Int) := by omega
            have q5 : (lowAt L m k).length ≤ 1000000000000 := by have := HLl.out m k (by omega) hk; omega
            clear hc
            by_cases h1 : X L k ≤ Y L k
            · by_cases h2 : X L k = (m : Int) + 1
              · have HS := Lib.hid (lowAt_yes h1 h2)
                have d1 : decide (X L k ≤ Y L k) = true := decide_eq_true h1
                have d2 : (X L k == (m : Int) + 1) = true := beq_iff_eq.2 h2
                clear h1 h2
                go_wp2_with fail
                go_quiet (fail)
                clear c1 c2 d1 d2
                have hbq : Below w.heap.size w (wr.drewN nq) := by (repeat (first | exact hb | exact Below.refl _ _ | (with_reducible refine Below.drew ?_) | (with_reducible refine Below.drewN ?_ _) | (with_reducible refine Below.alloc ?_ ?_ _) | (with_reducible refine Below.setCell ?_ ?_ _) | (show _ ≤ _; focus (first | omega | (simp; done) | (simp; omega)))))
                have hownq : IO (wr.drewN nq) w.heap.size u3 (lowAt L m k) := hown
                generalize wr.drewN nq = wq at *
                clear hown hb
                have hsq := hbq.size
                have q6 : w.heap.size ≤ (wq.alloc (.cells #[.int .i64 (k : Int)] 3)).heap.size := by simp; omega
                have hba := hbq.alloc hsq (.cells #[.int .i64 (k : Int)] 3)
                go_wp2_with (refine app_I (by rfl) (.tmp 43) (.tmp 45) (by rfl) w.heap.size u3 (lowAt L m k) (k : Int) wq.heap.size (by rfl) (hownq.alloc _) (by rfl) (heap_alloc_new _ _) q5 q6 ?_; intro g cap w7 hown7 hgr7 hb7)
                go_roundw
                case rel => exact ⟨k + 1, by omega, by go_num, by rw [HS.out]; exact hown7, hba.trans hb7⟩
                case measure => simp [intOf]; omega
              · have HS := Lib.hid (lowAt_no (L := L) (m := m) (k := k) (fun h => h2 h.2))
                have d1 : decide (X L k ≤ Y L k) = true := decide_eq_true h1
                have d2 : (X L k == (m : Int) + 1) = false := beq_eq_false_iff_ne.2 h2
                clear h1 h2
                go_wp2_with fail
                go_quiet (fail)
                clear c1 c2 d1 d2
                have hbq : Below w.heap.size w (wr.drewN nq) := by (repeat (first | exact hb | exact Below.refl _ _ | (with_reducible refine Below.drew ?_) | (with_reducible refine Below.drewN ?_ _) | (with_reducible refine Below.alloc ?_ ?_ _) | (with_reducible refine Below.setCell ?_ ?_ _) | (show _ ≤ _; focus (first | omega | (simp; done) | (simp; omega)))))
                have hownq : IO (wr.drewN nq) w.heap.size u3 (lowAt L m k) := hown
                generalize wr.drewN nq = wq at *
                clear hown hb
                go_wp2_with fail
                go_roundw
                case rel => exact ⟨k + 1, by omega, by go_num, by rw [HS.out]; exact hownq, hbq⟩
                case measure => simp [intOf]; omega
            · have HS := Lib.hid (lowAt_no (L := L) (m := m) (k := k) (fun h => h1 h.1))
              have d1 : decide (X L k ≤ Y L k) = false := decide_eq_false h1
              clear h1
              go_wp2_with fail
              go_quiet (fail)
              clear c1 c2 d1
              have hbq : Below w.heap.size w (wr.drewN nq) := by (repeat (first | exact hb | exact Below.refl _ _ | (with_reducible refine Below.drew ?_) | (with_reducible refine Below.drewN ?_ _) | (with_reducible refine Below.alloc ?_ ?_ _) | (with_reducible refine Below.setCell ?_ ?_ _) | (show _ ≤ _; focus (first | omega | (simp; done) | (simp; omega)))))
              have hownq : IO (wr.drewN nq) w.heap.size u3 (lowAt L m k) := hown
              generalize wr.drewN nq = wq at *
              clear hown hb
              go_wp2_with fail
              go_roundw
              case rel => exact ⟨k + 1, by omega, by go_num, by rw [HS.out]; exact hownq, hbq⟩
              case measure => simp [intOf]; omega
          · have hlf : ¬ ((k : Int) < (L.length : Int)) := by omega
            obtain rfl : k = L.length := by omega
            go_wp2_with fail
            go_roundw
            case rel => exact ⟨m + 1, by omega, by go_num, by rw [← HNl.out]; exact hown, hb⟩
            case measure => simp [intOf]; omega
      · have p1 : ¬ (m : Int) + 1 ≤ 9 := by omega
        obtain rfl : m = 9 := by omega
        rw [HZh.out] at hown
        go_wp2_with fail
        go_loopw [3, 6] (fun v i wr => ∃ m : Nat, m ≤ 9 ∧ i = .int .i64 (9 - (m : Int)) ∧ IO wr w.heap.size v (highAt L m 0) ∧ Below w.heap.size w wr) (fun _ i _ => (intOf i).toNat)
        case atStart => exact ⟨0, by omega, rfl, hown, hb⟩
        case round =>
          clear hown hb
          obtain ⟨m, hm, rfl, hown, hb⟩ := hrel
          by_cases hlt : m < 9
          · have p3 : (1 : Int) ≤ 9 - (m : Int) := by omega
            go_wp2_with fail
            go_loopw [3, 7] (fun v i wr => ∃ k : Nat, k ≤ L.length ∧ i = .int .i64 k ∧ IO wr w.heap.size v (highAt L m k) ∧ Below w.heap.size w wr) (fun _ i _ => L.length - (intOf i).toNat)
            case atStart => exact ⟨0, by omega, rfl, hown, hb⟩
            case round =>
              clear hb hown
              obtain ⟨k, hk, rfl, hown, hb⟩ := hrel
              have hsz := hb.size
              by_cases hkl : k < L.length
              · obtain ⟨b, off, rfl, hlb, hc⟩ := hA (by omega)
                have c1 := (hb.cell (p := ⟨b, off + k * 2, none⟩) hlb).trans (hc k hkl).1
                have c2 := (hb.cell (p := ⟨b, off + k * 2 + 1, none⟩) hlb).trans (hc k hkl).2
                have q1 : (0 : Int) ≤ (k : Int) := by omega
                have q2 : (k : Int) < (L.length : Int) := by omega
                have q5 : (highAt L m k).length ≤ 1000000000000 := by have := HLh.out m k (by omega) hk; omega
                clear hc
                by_cases h1 : Y L k < X L k
                · by_cases h2 : Y L k = 9 - (m : Int)
                  · have HS := Lib.hid (highAt_yes h1 h2)
                    have d1 : decide (Y L k < X L k) = true := decide_eq_true h1
                    have d2 : (Y L k == 9 - (m : Int)) = true := beq_iff_eq.2 h2
                    clear h1 h2
                    go_wp2_with fail
                    go_quiet (fail)
                    clear c1 c2 d1 d2
                    have hbq : Below w.heap.size w (wr.drewN nq) := by (repeat (first | exact hb | exact Below.refl _ _ | (with_reducible refine Below.drew ?_) | (with_reducible refine Below.drewN ?_ _) | (with_reducible refine Below.alloc ?_ ?_ _) | (with_reducible refine Below.setCell ?_ ?_ _) | (show _ ≤ _; focus (first | omega | (simp; done) | (simp; omega)))))
                    have hownq : IO (wr.drewN nq) w.heap.size u3 (highAt L m k) := hown
                    generalize wr.drewN nq = wq at *
                    clear hown hb
                    have hsq := hbq.size
                    have q6 : w.heap.size ≤ (wq.alloc (.cells #[.int .i64 (k : Int)] 3)).heap.size := by simp; omega
                    have hba := hbq.alloc hsq (.cells #[.int .i64 (k : Int)] 3)
                    go_wp2_with (refine app_I (by rfl) (.tmp 77) (.tmp 79) (by rfl) w.heap.size u3 (highAt L m k) (k : Int) wq.heap.size (by rfl) (hownq.alloc _) (by rfl) (heap_alloc_new _ _) q5 q6 ?_; intro g cap w7 hown7 hgr7 hb7)
                    go_roundw
                    case rel => exact ⟨k + 1, by omega, by go_num, by rw [HS.out]; exact hown7, hba.trans hb7⟩
                    case measure => simp [intOf]; omega
                  · have HS := Lib.hid (highAt_no (L := L) (m := m) (k := k) (fun h => h2 h.2))
                    have d1 : decide (Y L k < X L k) = true := decide_eq_true h1
                    have d2 : (Y L k == 9 - (m : Int)) = false := beq_eq_false_iff_ne.2 h2
                    clear h1 h2
                    go_wp2_with fail
                    go_quiet (fail)
                    clear c1 c2 d1 d2
                    have hbq : Below w.heap.size w (wr.drewN nq) := by (repeat (first | exact hb | exact Below.refl _ _ | (with_reducible refine Below.drew ?_) | (with_reducible refine Below.drewN ?_ _) | (with_reducible refine Below.alloc ?_ ?_ _) | (with_reducible refine Below.setCell ?_ ?_ _) | (show _ ≤ _; focus (first | omega | (simp; done) | (simp; omega)))))
                    have hownq : IO (wr.drewN nq) w.heap.size u3 (highAt L m k) := hown
                    generalize wr.drewN nq = wq at *
                    clear hown hb
                    go_wp2_with fail
                    go_roundw
                    case rel => exact ⟨k + 1, by omega, by go_num, by rw [HS.out]; exact hownq, hbq⟩
                    case measure => simp [intOf]; omega
                · have HS := Lib.hid (highAt_no (L := L) (m := m) (k := k) (fun h => h1 h.1))
                  have d1 : decide (Y L k < X L k) = false := decide_eq_false h1
                  clear h1
                  go_wp2_with fail
                  go_quiet (fail)
                  clear c1 c2 d1
                  have hbq : Below w.heap.size w (wr.drewN nq) := by (repeat (first | exact hb | exact Below.refl _ _ | (with_reducible refine Below.drew ?_) | (with_reducible refine Below.drewN ?_ _) | (with_reducible refine Below.alloc ?_ ?_ _) | (with_reducible refine Below.setCell ?_ ?_ _) | (show _ ≤ _; focus (first | omega | (simp; done) | (simp; omega)))))
                  have hownq : IO (wr.drewN nq) w.heap.size u3 (highAt L m k) := hown
                  generalize wr.drewN nq = wq at *
                  clear hown hb
                  go_wp2_with fail
                  go_roundw
                  case rel => exact ⟨k + 1, by omega, by go_num, by rw [HS.out]; exact hownq, hbq⟩
                  case measure => simp [intOf]; omega
              · have hlf : ¬ ((k : Int) < (L.length : Int)) := by omega
                obtain rfl : k = L.length := by omega
                have q7 : IntKind.i64.wrap (9 - (m : Int) - 1) = 9 - ((m + 1 : Nat) : Int) := by rw [IntWalk.i64_in _ (by omega)]; omega
                go_wp2_with fail
                go_roundw
                case rel => exact ⟨m + 1, by omega, rfl, by rw [← HNh.out]; exact hown, hb⟩
                case measure => simp [intOf]; omega
          · have p3 : ¬ (1 : Int) ≤ 9 - (m : Int) := by omega
            obtain rfl : m = 9 := by omega
            go_wp2_with fail
            go_ret
            exact ⟨_, rfl, by rw [HV.out]; exact hown, hb⟩
  | false =>
    have HV := Lib.hid (pairsV_no hbo)
    rw [hbo] at HB
    clear hbo
    go_enter Try.func38, Try.ntmps38
    go_wp2_with fail
    refine HB.out.mono ?_
    rintro e w1 ⟨rfl, hb1⟩
    have own1 := own0.below hb1 (Nat.le_refl _)
    have hx1 := hb0.trans (hb1.mono hb0.size)
    go_wp2_with fail
    go_ret
    exact ⟨_, rfl, by rw [HV.out]; exact own1, hx1⟩

end Go.Proofs.Ytofjfhifldafcaa

