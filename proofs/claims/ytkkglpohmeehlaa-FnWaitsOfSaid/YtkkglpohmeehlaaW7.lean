/- walks of the laws of chapter 2, third part: FnNeedingMore -/
import Derived.Test.YtkkglpohmeehlaaW6
namespace Go.Proofs.Ytkkglpohmeehlaa
set_option linter.unusedVariables false
open Go.RowKit
attribute [local go_sem ↓] Go.wp_at_zero Go.wp_at_succ

set_option maxHeartbeats 4000000 in
theorem w_FnNeedingMore (A : Option Addr) (n c : Nat) (w : World) (h : Bs w w.heap.size A n) (hc : n ≤ c) :
    Calls Try.prog 7 #[.slice A n c] w fun e w' => e = .returned (.bool true) ∧ Below w.heap.size w w' := by
  by_cases hn : n ≤ 1048576
  · go_enter Try.func7, Try.ntmps7
    go_wp2_with fail
    refine (c_DrawNeedingMore A n c _ h hn hc).mono ?_
    rintro e w1 ⟨L, v, t, rfl, hv, hl, -, ht, hb1⟩
    obtain ⟨B, d, rfl, hd1, hd2, hB⟩ := hv.form
    have hs1 := hb1.size
    clear hv
    go_wp2_with fail
    refine (c_iNeedingMore L B d t _ hB (by omega)).mono ?_
    rintro e w2 ⟨v2, rfl, o2, hb2⟩
    simp only [laterV]
    have k2 := hb1.trans (hb2.mono hs1)
    have hs2 := k2.size
    have hB2 := (hB.below hb2).more hb2.size
    obtain ⟨G, g, rfl, hg1, hg2, hG⟩ := o2.form
    clear hb1 hb2 hB o2
    go_wp2_with fail
    refine (c_sNeedingMore L B d t _ hB2 (by omega)).mono ?_
    rintro e w3 ⟨v3, rfl, o3, hb3⟩
    simp only [laterV]
    have k3 := k2.trans (hb3.mono hs2)
    have hs3 := k3.size
    have hB3 := (hB2.below hb3).more hb3.size
    have hG3 := (hG.below hb3).more hb3.size
    obtain ⟨G3, g3, rfl, -, -, hG3'⟩ := o3.form
    clear k2 hb3 hB2 o3 hG
    by_cases hm : moreOk L t = true
    · obtain ⟨hp, hq⟩ := moreOk_parts hm
      have hR := moreR_yes hm
      have HM := Lib.hid hm
      obtain ⟨m, rfl, hml, hok⟩ := placeOk_nat hp
      have e1 : ((m : Int)).toNat = m := by simp
      rw [e1] at hR hq
      rw [hR] at hG3 hG3'
      rw [hR, moreL_len]
      have K := c_sameCustomers (moreL L m) G G3 _ _ g g3 w3 hG3 hG3' (by rw [moreL_len]; omega)
      rw [moreL_len] at K
      have HK := Lib.hid K
      rw [HM.out]
      clear hp hm e1 hR K hg1 hg2
      go_wp2_with fail
      refine HK.out.mono ?_
      rintro e w4 ⟨rfl, hb4⟩
      have k4 := k3.trans (hb4.mono hs3)
      have hs4 := k4.size
      have hB4 := (hB3.below hb4).more hb4.size
      have hG4 := (hG3.below hb4).more hb4.size
      clear k3 hb4 hB3 hG3 hG3' HK
      have HWL := Lib.hid (waits_yes hok)
      have HWM := Lib.hid (waits_yes hq)
      have HWLn := Lib.hid (show (waits L).length = L.length by rw [HWL.out, waitsTo_len])
      have HWMn := Lib.hid (show (waits (moreL L m)).length = L.length by rw [HWM.out, waitsTo_len, moreL_len])
      have K := fun W (hW : Cs W W.heap.size G (moreL L m)) => c_iWaitsOf (moreL L m) G g W hW (by rw [moreL_len]; omega)
      rw [moreL_len] at K
      have HK := Lib.hid K
      clear K
      go_wp2_with fail
      refine (c_sWaitsOf L B d _ hB4 (by omega)).mono ?_
      rintro e w5 ⟨v5, rfl, o5, hb5⟩
      obtain ⟨P, p, rfl, -, hP⟩ := o5.formG
      rw [HWLn.out] at hP ⊢
      have k5 := k4.trans (hb5.mono hs4)
      have hs5 := k5.size
      have hB5 := (hB4.below hb5).more hb5.size
      have hG5 := (hG4.below hb5).more hb5.size
      clear k4 hb5 hB4 hG4 o5
      go_wp2_with fail
      refine (HK.out _ hG5).mono ?_
      rintro e w6 ⟨v6, rfl, o6, hb6⟩
      obtain ⟨R, r, rfl, -, hRr⟩ := o6.formG
      rw [HWMn.out] at hRr ⊢
      have k6 := k5.trans (hb6.mono hs5)
      have hs6 := k6.size
      have hB6 := (hB5.below hb6).more hb6.size
      have hG6 := (hG5.below hb6).more hb6.size
      have hp : 0 < L.length := by omega
      obtain ⟨pb, rfl, -, hpb, hpc⟩ := hP hp
      obtain ⟨rb, rfl, -, hrb, hrc⟩ := hRr hp
      have Hpc := Lib.hid (show ∀ k, k < L.length → w6.cell? ⟨pb, k, none⟩ = some (.int .i64 (waitAt L k)) from fun k hk => by rw [hb6.cell (p := ⟨pb, k, none⟩) hpb, hpc k hk, HWL.out, Z_waitsTo hk])
      have Hrc := Lib.hid (show ∀ k, k < L.length → w6.cell? ⟨rb, k, none⟩ = some (.int .i64 (waitAt (moreL L m) k)) from fun k hk => by rw [hrc k hk, HWM.out, Z_waitsTo (by rw [moreL_len]; exact hk)])
      clear hP hRr hpc hrc k5 hb6 hB5 hG5 o6 HK
      have Hmo := Lib.hid (fun k hk => waitAt_more (L := L) (n := m) hml k hk)
      have Hwb := Lib.hid (waitAt_bd hok)
      have HS := Lib.hid (show needOf (moreL L m) = needOf L + 1 by
        rw [needOf_yes hq, needOf_yes hok, moreL_len, sumTo_more hml _ (Nat.le_refl _), if_pos hml])
      have hnb := needOf_bd hok
      have hl8 := cOk_len hok
      clear hok hq
      go_wp2_with fail
      go_loopw [11] (fun i wr => ∃ k z : Nat, k ≤ L.length ∧ i = .int .i64 k ∧ wr = w6.drewN z) (fun i _ => L.length - (intOf i).toNat)
      case atStart => exact ⟨0, 0, Nat.zero_le _, rfl, rfl⟩
      case round =>
        obtain ⟨k, z, hk, rfl, rfl⟩ := hrel
        by_cases hlt : k < L.length
        · have c1 := Hpc.out k hlt
          have c2 := Hrc.out k hlt
          obtain ⟨x1, x2, x3⟩ := Hmo.out k hlt
          have bw := Hwb.out k hlt
          have hd1 : decide (waitAt (moreL L m) k < waitAt L k) = false := by simp; omega
          have hd2 : decide (waitAt L k + 1 < waitAt (moreL L m) k) = false := by simp; omega
          have p1 : (0 : Int) ≤ (k : Int) := by omega
          have p2 : (k : Int) < (L.length : Int) := by omega
          by_cases hkm : k ≤ m
          · have hd3 : (waitAt (moreL L m) k == waitAt L k) = true := beq_iff_eq.2 (x3 hkm)
            have hd4 : decide (k ≤ m) = true := by simp; omega
            clear x1 x2 x3 hkm
            go_wp2_with fail
            have q7 : IntKind.i64.wrap (waitAt L k + 1) = waitAt L k + 1 := IntWalk.i64_in _ (by omega)
            go_quiet (fail)
            clear q7
            go_wp2_with fail
            go_roundw
            case rel => exact ⟨k + 1, _, by omega, by go_num, rfl⟩
            case measure => simp [intOf]; omega
          · have hd4 : decide (k ≤ m) = false := by simp; omega
            clear x1 x2 x3 hkm
            go_wp2_with fail
            have q7 : IntKind.i64.wrap (waitAt L k + 1) = waitAt L k + 1 := IntWalk.i64_in _ (by omega)
            go_quiet (fail)
            clear q7
            go_wp2_with fail
            go_roundw
            case rel => exact ⟨k + 1, _, by omega, by go_num, rfl⟩
            case measure => simp [intOf]; omega
        · have hlf : ¬ ((k : Int) < (L.length : Int)) := by omega
          have hbq : Below w6.heap.size w6 (w6.drewN z) := by (repeat (first | exact rfl | exact Below.refl _ _ | (with_reducible refine Below.drew ?_) | (with_reducible refine Below.drewN ?_ _) | (with_reducible refine Below.alloc ?_ ?_ _) | (with_reducible refine Below.setCell ?_ ?_ _) | (show _ ≤ _; focus (first | omega | (simp; done) | (simp; omega)))))
          have K := c_iNeedOf (moreL L m) G g (w6.drewN z) (hG6.below hbq) (by rw [moreL_len]; omega)
          rw [moreL_len, HS.out] at K
          have HK := Lib.hid K
          clear K
          go_wp2_with fail
          refine HK.out.mono ?_
          rintro e w7 ⟨rfl, hb7⟩
          have k7 := (k6.trans (hbq.mono hs6)).trans (hb7.mono hs6)
          have hs7 := k7.size
          go_wp2_with fail
          refine (c_iNeedOf L B d _ (((hB6.below hbq).below hb7).more hb7.size) (by omega)).mono ?_
          rintro e w8 ⟨rfl, hb8⟩
          go_wp2_with fail
          go_ret
          exact ⟨rfl, k7.trans (hb8.mono hs7)⟩
    · have hno : moreOk L t = false := by simpa using hm
      have hl0 : (moreR L t).length = 0 := by rw [moreR_no hno]; rfl
      have K := c_sameCustomers (moreR L t) G G3 _ _ g g3 w3 hG3 hG3' (by omega)
      have Hok := Lib.hid hno; clear hm hno
      rw [hl0] at K
      have HK := Lib.hid K
      rw [Hok.out]
      rw [hl0]
      clear hl0 K
      go_wp2_with fail
      refine HK.out.mono ?_
      rintro e w4 ⟨rfl, hb4⟩
      have k4 := k3.trans (hb4.mono hs3)
      have hs4 := k4.size
      go_wp2_with fail
      refine (c_alive _).mono ?_
      rintro e w6 ⟨rfl, hb6⟩
      go_wp2_with fail
      go_ret
      exact ⟨rfl, k4.trans (hb6.mono hs4)⟩
  · go_enter Try.func7, Try.ntmps7
    go_wp2
    go_ret
    exact ⟨rfl, Below.refl _ _⟩

end Go.Proofs.Ytkkglpohmeehlaa

