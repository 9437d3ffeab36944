/- walks of the laws of chapter 2, first part: FnLeavesOf, FnGreatestLack -/
import Derived.Test.YtkkglpohmeehlaaW2
import Derived.Test.YtkkglpohmeehlaaV3
import Derived.Test.YtkkglpohmeehlaaR2
namespace Go.Proofs.Ytkkglpohmeehlaa
set_option linter.unusedVariables false
open Go.RowKit
attribute [local go_sem ↓] Go.wp_at_zero Go.wp_at_succ

theorem pos_of_not {L : List (Int × Int)} (h : cOk L = false) : 0 < L.length := by
  cases L with
  | nil => exact absurd h (by decide)
  | cons _ _ => simp

set_option maxHeartbeats 4000000 in
theorem w_FnGreatestLack (A : Option Addr) (n c : Nat) (w : World) (h : Bs w w.heap.size A n) (hc : n ≤ c) :
    Calls Try.prog 5 #[.slice A n c] w fun e w' => e = .returned (.bool true) ∧ Below w.heap.size w w' := by
  by_cases hn : n ≤ 1048576
  · go_enter Try.func5, Try.ntmps5
    go_wp2_with fail
    refine (c_DrawGreatestLack A n c _ h hn hc).mono ?_
    rintro e w1 ⟨L, v, t, rfl, hv, hl, -, ht, hb1⟩
    obtain ⟨B, d, rfl, hd1, hd2, hB⟩ := hv.form
    have hs1 := hb1.size
    clear hv
    go_wp2_with fail
    refine (c_iGreatestLack L B d t _ hB (by omega)).mono ?_
    rintro e w2 ⟨rfl, hb2⟩
    have k2 := hb1.trans (hb2.mono hs1)
    have hs2 := k2.size
    have hB2 := (hB.below hb2).more hb2.size
    clear hb1 hb2 hB
    go_wp2_with fail
    refine (c_sGreatestLack L B d t _ hB2 (by omega)).mono ?_
    rintro e w3 ⟨rfl, hb3⟩
    have k3 := k2.trans (hb3.mono hs2)
    have hs3 := k3.size
    have hB3 := (hB2.below hb3).more hb3.size
    clear k2 hb3 hB2
    by_cases hp : placeOk L t = true
    · have hV := lackV_yes hp
      obtain ⟨m, rfl, hml, hok⟩ := placeOk_nat hp
      have hwb := waitAt_bd hok m hml
      have hnd := needOf_take hok (n := m) (by omega)
      have e1 : ((m : Int)).toNat = m := by simp
      rw [e1] at hV
      have HV := Lib.hid hV
      have HTl := Lib.hid (len_take (L := L) (n := m) (by omega))
      have HND := Lib.hid hnd
      clear hV e1 hp hnd
      rw [HV.out]
      have k1 : (0 : Int) ≤ (m : Int) := by omega
      have k2 : (m : Int) ≤ (d : Int) := by omega
      have K := c_iNeedOf (L.take m) B d w3 (hB3.take m) (by rw [HTl.out]; omega)
      rw [HTl.out, HND.out] at K
      have HK := Lib.hid K
      clear K
      obtain ⟨hw1, -, hw3⟩ := hwb
      by_cases hm : m = 0
      · subst hm
        have hz : waitAt L 0 = 0 := rfl
        rw [hz] at hw3 ⊢
        clear hz hw1
        go_wp2_with fail
        refine HK.out.mono ?_
        rintro e w4 ⟨rfl, hb4⟩
        have k4 := k3.trans (hb4.mono hs3)
        have hs4 := k4.size
        go_wp2_with fail
        refine (c_alive _).mono ?_
        rintro e w6 ⟨rfl, hb6⟩
        go_wp2_with fail
        go_ret
        exact ⟨rfl, k4.trans (hb6.mono hs4)⟩
      · have hm' : (0 : Int) < (m : Int) := by omega
        clear hm
        go_wp2_with fail
        refine HK.out.mono ?_
        rintro e w4 ⟨rfl, hb4⟩
        have k4 := k3.trans (hb4.mono hs3)
        have hs4 := k4.size
        go_wp2_with fail
        refine (c_alive _).mono ?_
        rintro e w6 ⟨rfl, hb6⟩
        go_wp2_with fail
        go_ret
        exact ⟨rfl, k4.trans (hb6.mono hs4)⟩
    · have hno : placeOk L t = false := by simpa using hp
      have HN := Lib.hid (lackV_no hno)
      clear hp hno
      rw [HN.out]
      go_wp2_with fail
      refine (c_alive _).mono ?_
      rintro e w6 ⟨rfl, hb6⟩
      go_wp2_with fail
      go_ret
      exact ⟨rfl, k3.trans (hb6.mono hs3)⟩
  · go_enter Try.func5, Try.ntmps5
    go_wp2
    go_ret
    exact ⟨rfl, Below.refl _ _⟩

theorem leaves_last {L : List (Int × Int)} (h : cOk L = true) (hn : 0 < L.length) : leaveAt L (L.length - 1) = lastLeave L := by
  rw [leaveAt_fwd h _ (by omega), lastLeave_fwd h, show L.length - 1 + 1 = L.length by omega]

set_option maxHeartbeats 4000000 in
theorem w_FnLeavesOf (A : Option Addr) (n c : Nat) (w : World) (h : Bs w w.heap.size A n) (hc : n ≤ c) :
    Calls Try.prog 4 #[.slice A n c] w fun e w' => e = .returned (.bool true) ∧ Below w.heap.size w w' := by
  by_cases hn : n ≤ 1048576
  · go_enter Try.func4, Try.ntmps4
    go_wp2_with fail
    refine (c_DrawLeavesOf A n c _ h hn hc).mono ?_
    rintro e w1 ⟨L, v, rfl, hv, hl, -, hb1⟩
    obtain ⟨B, d, rfl, hd1, hd2, hB⟩ := hv.form
    have hs1 := hb1.size
    clear hv
    go_wp2_with fail
    refine (c_iLeavesOf L B d _ hB (by omega)).mono ?_
    rintro e w2 ⟨v2, rfl, o2, hb2⟩
    have k2 := hb1.trans (hb2.mono hs1)
    have hs2 := k2.size
    have hB2 := (hB.below hb2).more hb2.size
    obtain ⟨G, g, rfl, hg1, hg2, hG⟩ := o2.form
    clear hb1 hb2 hB o2
    go_wp2_with fail
    refine (c_sLeavesOf L B d _ hB2 (by omega)).mono ?_
    rintro e w3 ⟨v3, rfl, o3, hb3⟩
    have k3 := k2.trans (hb3.mono hs2)
    have hs3 := k3.size
    have hB3 := (hB2.below hb3).more hb3.size
    have hG3 := (hG.below hb3).more hb3.size
    obtain ⟨G3, g3, rfl, -, -, hG3'⟩ := o3.form
    clear k2 hb3 hB2 o3 hG
    go_wp2_with fail
    refine (c_sameInts (leaves L) G G3 _ _ g g3 _ hG3 hG3' (by have := leaves_len L; omega)).mono ?_
    rintro e w4 ⟨rfl, hb4⟩
    have k4 := k3.trans (hb4.mono hs3)
    have hs4 := k4.size
    have hB4 := (hB3.below hb4).more hb4.size
    have hG4 := (hG3.below hb4).more hb4.size
    clear k3 hb4 hB3 hG3 hG3' hg1 hg2
    by_cases hok : cOk L = true
    · have HL := Lib.hid (leaves_yes hok)
      have HLn := Lib.hid (show (leaves L).length = L.length by rw [HL.out, leavesTo_len])
      rw [HL.out] at hG4
      rw [HLn.out]
      by_cases hL : L.length = 0
      · have hLb : ((L.length : Int) == 0) = true := beq_iff_eq.2 (by omega)
        clear hL hok
        go_wp2_with fail
        refine (c_alive _).mono ?_
        rintro e w6 ⟨rfl, hb6⟩
        go_wp2_with fail
        go_ret
        exact ⟨rfl, k4.trans (hb6.mono hs4)⟩
      · have hLb : ((L.length : Int) == 0) = false := beq_eq_false_iff_ne.2 (by omega)
        have hp : 0 < L.length := by omega
        have Hlast := Lib.hid (leaves_last hok hp)
        have Hbd := Lib.hid (fun k => @cOk_bd L k hok)
        have Hlb := Lib.hid (fun k => @leaveAt_bd L hok k)
        obtain ⟨b, off, rfl, hlb, hcl⟩ := hB4 hp
        obtain ⟨gb, go, rfl, hgb, hgc⟩ := hG4 (by rw [leavesTo_len]; omega)
        have Hgc := Lib.hid (show ∀ k, k < L.length → w4.cell? ⟨gb, go + k, none⟩ = some (.int .i64 (leaveAt L k)) from fun k hk => by rw [hgc k (by rw [leavesTo_len]; omega), Z_leavesTo hk])
        have Hcl := Lib.hid hcl
        clear hgc hcl hL hG4
        go_wp2_with fail
        go_loopw [5] (fun i wr => ∃ k m : Nat, 1 ≤ k ∧ k ≤ L.length ∧ i = .int .i64 k ∧ wr = w4.drewN m) (fun i _ => L.length - (intOf i).toNat)
        case atStart => exact ⟨1, 0, Nat.le_refl _, by omega, rfl, rfl⟩
        case round =>
          obtain ⟨k, m, hk1, hk, rfl, rfl⟩ := hrel
          by_cases hlt : k < L.length
          · have c1 := (Hcl.out k hlt).2
            have c2 := Hgc.out k hlt
            have c3 := Hgc.out (k - 1) (by omega)
            have bd := Hbd.out k hlt
            have b1 := Hlb.out k hlt
            have b2 := Hlb.out (k - 1) (by omega)
            have hst : leaveAt L (k - 1) + Y L k ≤ leaveAt L k := by
              obtain ⟨j, rfl⟩ : ∃ j, k = j + 1 := ⟨k - 1, by omega⟩
              exact leaveAt_step
            have hdt : decide (leaveAt L k < leaveAt L (k - 1) + Y L k) = false := by simp; omega
            have p1 : (0 : Int) ≤ (k : Int) - 1 := by omega
            have p2 : (k : Int) - 1 < (L.length : Int) := by omega
            have p3 : (k : Int) < (L.length : Int) := by omega
            have p4 : (0 : Int) ≤ (k : Int) := by omega
            clear hst
            go_wp2_with fail
            have q6 : ((k : Int) - 1).toNat = k - 1 := by omega
            have q7 : IntKind.i64.wrap ((k : Int) - 1) = (k : Int) - 1 := IntWalk.i64_in _ (by omega)
            have q8 : IntKind.i64.wrap (leaveAt L (k - 1) + Y L k) = leaveAt L (k - 1) + Y L k := IntWalk.i64_in _ (by omega)
            go_quiet (fail)
            clear q6 q7 q8
            go_wp2_with fail
            go_roundw
            case rel => exact ⟨k + 1, _, by omega, by omega, by go_num, rfl⟩
            case measure => simp [intOf]; omega
          · have HE := Lib.hid (show k = L.length by omega)
            have hlf : ¬ ((k : Int) < (L.length : Int)) := by omega
            have hbq : Below w4.heap.size w4 (w4.drewN m) := by (repeat (first | exact rfl | exact Below.refl _ _ | (with_reducible refine Below.drew ?_) | (with_reducible refine Below.drewN ?_ _) | (with_reducible refine Below.alloc ?_ ?_ _) | (with_reducible refine Below.setCell ?_ ?_ _) | (show _ ≤ _; focus (first | omega | (simp; done) | (simp; omega)))))
            obtain ⟨z1, z2⟩ := Hcl.out 0 hp
            have z3 := Hgc.out 0 hp
            have z4 := Hgc.out (L.length - 1) (by omega)
            rw [Nat.zero_mul, Nat.add_zero] at z1 z2
            rw [Nat.add_zero] at z3
            replace z1 := (hbq.cell (p := ⟨b, off, none⟩) hlb).trans z1
            replace z2 := (hbq.cell (p := ⟨b, off + 1, none⟩) hlb).trans z2
            replace z3 := (hbq.cell (p := ⟨gb, go, none⟩) hgb).trans z3
            replace z4 := (hbq.cell (p := ⟨gb, go + (L.length - 1), none⟩) hgb).trans z4
            have hBq : Cs (w4.drewN m) (w4.drewN m).heap.size (some ⟨b, off, none⟩) L := fun _ => ⟨b, off, rfl, hlb, Hcl.out⟩
            have hlb' : b < (w4.drewN m).heap.size := hlb
            have hgb' : gb < (w4.drewN m).heap.size := hgb
            have hsq : w.heap.size ≤ (w4.drewN m).heap.size := hs4
            generalize w4.drewN m = W at z1 z2 z3 z4 hbq hBq hlb' hgb' hsq ⊢
            have c1 := WB.cell hlb' z1
            have c2 := WB.cell hlb' z2
            have c3 := WB.cell hgb' z3
            have c4 := WB.cell hgb' z4
            clear z1 z2 z3 z4
            have bd := Hbd.out 0 hp
            have p1 : (0 : Int) ≤ (L.length : Int) - 1 := by omega
            have p2 : (L.length : Int) - 1 < (L.length : Int) := by omega
            have p3 : (0 : Int) < (L.length : Int) := by omega
            have e0 : leaveAt L 0 = X L 0 + Y L 0 := by simp [leaveAt, waitAt]
            have e1 : (leaveAt L (L.length - 1) == lastLeave L) = true := beq_iff_eq.2 Hlast.out
            have e2 : (leaveAt L 0 == X L 0 + Y L 0) = true := beq_iff_eq.2 e0
            clear e0
            go_wp2_with fail
            have q6 : ((L.length : Int) - 1).toNat = L.length - 1 := by omega
            have q7 : IntKind.i64.wrap ((L.length : Int) - 1) = (L.length : Int) - 1 := IntWalk.i64_in _ (by omega)
            have q8 : IntKind.i64.wrap (X L 0 + Y L 0) = X L 0 + Y L 0 := IntWalk.i64_in _ (by omega)
            refine wp_region_wb W.heap.size (by kernel_rfl) (by kernel_rfl) ?_
            repeat (go_big_quiet_step ((go_at_call 24; exact Calls.inB (Nat.le_refl _) (c_iLastLeave L _ d _ (WB.cs _ hBq (Nat.le_refl _)) (by omega)))))
            refine wpQuiet_nil ?_
            rintro _ ⟨⟨w5, hb5⟩, rfl⟩
            clear q6 q7 q8
            go_wp2_with fail
            go_ret
            exact ⟨rfl, (k4.trans (hbq.mono hs4)).trans (hb5.mono hsq)⟩
    · have hno : cOk L = false := by simpa using hok
      have hp := pos_of_not hno
      have hLb : ((L.length : Int) == 0) = false := beq_eq_false_iff_ne.2 (by omega)
      have hl0 : (leaves L).length = 0 := by rw [leaves_no hno]; rfl
      have H := Lib.hid hno; clear hok hno
      rw [hl0]
      clear hl0
      go_wp2_with fail
      refine (c_iCustomersOk L B d _ hB4 (by omega)).mono ?_
      rintro e w5 ⟨rfl, hb5⟩
      rw [H.out]
      have k5 := k4.trans (hb5.mono hs4)
      have hs5 := k5.size
      go_wp2_with fail
      refine (c_alive _).mono ?_
      rintro e w6 ⟨rfl, hb6⟩
      go_wp2_with fail
      go_ret
      exact ⟨rfl, k5.trans (hb6.mono hs5)⟩
  · go_enter Try.func4, Try.ntmps4
    go_wp2
    go_ret
    exact ⟨rfl, Below.refl _ _⟩

end Go.Proofs.Ytkkglpohmeehlaa

