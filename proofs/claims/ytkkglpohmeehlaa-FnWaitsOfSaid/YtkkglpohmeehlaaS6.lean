/- impl.IdleUntil, spec.IdleUntil -/
import Derived.Test.YtkkglpohmeehlaaS5
import Derived.RegionCalls
namespace Go.Proofs.Ytkkglpohmeehlaa
set_option linter.unusedVariables false
open Go.RowKit
attribute [local go_sem ↓] Go.wp_at_zero Go.wp_at_succ

set_option maxHeartbeats 2000000 in
theorem c_iIdleUntil (L : List (Int × Int)) (A : Option Addr) (c : Nat) (w : World) (hA : Cs w w.heap.size A L) (hn : L.length ≤ 140737488351232) :
    Calls Try.prog 29 #[.slice A L.length c] w fun e w' => e = .returned (.int .i64 (idleV L)) ∧ Below w.heap.size w w' := by
  by_cases h : cOk L = true
  · have HV := Lib.hid (idleV_yes h)
    have hlen := cOk_len h
    by_cases h0 : L.length = 0
    · have h0b : ((L.length : Int) == 0) = true := beq_iff_eq.2 (by omega)
      have H := Lib.hid h; clear h
      have H0 := Lib.hid h0; clear h0
      go_enter Try.func29, Try.ntmps29
      go_wp2_with fail
      refine (c_iCustomersOk L A c _ hA hn).mono ?_
      rintro e w1 ⟨rfl, hb1⟩
      rw [H.out]
      go_wp2_with fail
      go_ret
      exact ⟨by rw [HV.out, H0.out]; rfl, hb1⟩
    · have h0b : ((L.length : Int) == 0) = false := beq_eq_false_iff_ne.2 (by omega)
      have HL := Lib.hid (leaves_yes h)
      have HN := Lib.hid (show needOf L = sumTo L L.length by simp [needOf, h])
      have hid := idle_leave h (n := L.length - 1) (by omega)
      have hlb := leaveAt_bd h (k := L.length - 1) (by omega)
      have hsb := sumTo_bd h L.length (Nat.le_refl _)
      have hib := idleTo_bd h L.length (Nat.le_refl _)
      have HI := Lib.hid hid; clear hid
      have H := Lib.hid h; clear h
      have k1 : (0 : Int) ≤ (L.length : Int) - 1 := by omega
      have k2 : (L.length : Int) - 1 < (L.length : Int) := by omega
      go_enter Try.func29, Try.ntmps29
      go_wp2_with fail
      refine (c_iCustomersOk L A c _ hA hn).mono ?_
      rintro e w1 ⟨rfl, hb1⟩
      rw [H.out]
      have hs1 := hb1.size
      have hA1 := (hA.below hb1).more hs1
      go_wp2_with fail
      have q6 : ((L.length : Int) - 1).toNat = L.length - 1 := by omega
      have q7 : IntKind.i64.wrap (leaveAt L (L.length - 1) - sumTo L L.length) = leaveAt L (L.length - 1) - sumTo L L.length := IntWalk.i64_in _ (by omega)
      have q8 : IntKind.i64.wrap ((L.length : Int) - 1) = (L.length : Int) - 1 := IntWalk.i64_in _ (by omega)
      have hd : Below w1.heap.size w1 w1.drew := (Below.refl _ _).drew
      have HLn := Lib.hid (show (leaves L).length = L.length by rw [HL.out, leavesTo_len])
      go_region_with (first
        | (go_at_call 27
           first
             | (refine (c_iNeedOf L A c _ ((hA1.below hk5).more hk5.size) hn).mono ?_
                rintro e w6 ⟨rfl, hb6⟩
                rw [HN.out]
                have hk6 := hk5.trans (hb6.mono hk5.size)
                have c6 := (hb6.cell (p := ⟨gb, L.length - 1, none⟩) hgb).trans c5)
             | (refine (c_iNeedOf L A c _ ((hA1.below hd).more hd.size) hn).mono ?_
                rintro e w5 ⟨rfl, hb5⟩
                rw [HN.out]
                have hk5 := hd.trans (hb5.mono hd.size)))
        | (go_at_call 22
           first
             | (refine (c_iLeavesOf L A c _ ((hA1.below hk5).more hk5.size) hn).mono ?_
                rintro e w6 ⟨v6, rfl, o6, hb6⟩
                obtain ⟨G, g, rfl, -, hG⟩ := o6.formG
                rw [HLn.out] at hG ⊢
                obtain ⟨gb, rfl, -, hgb, hgc⟩ := hG (by omega)
                have c6 := hgc (L.length - 1) (by omega)
                rw [HL.out, Z_leavesTo (by omega)] at c6
                have hk6 := hk5.trans (hb6.mono hk5.size)
                clear hG hgc o6)
             | (refine (c_iLeavesOf L A c _ ((hA1.below hd).more hd.size) hn).mono ?_
                rintro e w5 ⟨v5, rfl, o5, hb5⟩
                obtain ⟨G, g, rfl, -, hG⟩ := o5.formG
                rw [HLn.out] at hG ⊢
                obtain ⟨gb, rfl, -, hgb, hgc⟩ := hG (by omega)
                have c5 := hgc (L.length - 1) (by omega)
                rw [HL.out, Z_leavesTo (by omega)] at c5
                have hk5 := hd.trans (hb5.mono hd.size)
                clear hG hgc o5)))
      all_goals
        clear q6 q7 q8
        go_wp2_with fail
        go_ret
        exact ⟨by rw [HV.out, ← HI.out]; rfl, hb1.trans (hk6.mono hs1)⟩
  · have hno : cOk L = false := by simpa using h
    have HV := Lib.hid (idleV_no hno)
    have H := Lib.hid hno; clear h hno
    go_enter Try.func29, Try.ntmps29
    go_wp2_with fail
    refine (c_iCustomersOk L A c _ hA hn).mono ?_
    rintro e w1 ⟨rfl, hb1⟩
    rw [H.out]
    go_wp2_with fail
    go_ret
    exact ⟨by rw [HV.out]; rfl, hb1⟩

set_option maxHeartbeats 2000000 in
theorem c_sIdleUntil (L : List (Int × Int)) (A : Option Addr) (c : Nat) (w : World) (hA : Cs w w.heap.size A L) (hn : L.length ≤ 140737488351232) :
    Calls Try.prog 30 #[.slice A L.length c] w fun e w' => e = .returned (.int .i64 (idleV L)) ∧ Below w.heap.size w w' := by
  by_cases h : cOk L = true
  · have HV := Lib.hid (idleV_yes h)
    have hlen := cOk_len h
    have HL := Lib.hid (leaves_yes h)
    have HLn := Lib.hid (show (leaves L).length = L.length by rw [HL.out, leavesTo_len])
    by_cases h0 : L.length = 0
    · have h0b : ((L.length : Int) == 0) = true := beq_iff_eq.2 (by omega)
      have H := Lib.hid h; clear h
      have H0 := Lib.hid h0; clear h0
      go_enter Try.func30, Try.ntmps30
      go_wp2_with fail
      refine (c_sCustomersOk L A c _ hA hn).mono ?_
      rintro e w1 ⟨rfl, hb1⟩
      rw [H.out]
      have hs1 := hb1.size
      go_wp2_with fail
      refine (c_sLeavesOf L A c _ ((hA.below hb1).more hs1) hn).mono ?_
      rintro e w2 ⟨v2, rfl, o2, hb2⟩
      obtain ⟨G, g, rfl, -, -⟩ := o2.formG
      rw [HLn.out]
      go_wp2_with fail
      go_ret
      exact ⟨by rw [HV.out, H0.out]; rfl, hb1.trans (hb2.mono hs1)⟩
    · have h0b : ((L.length : Int) == 0) = false := beq_eq_false_iff_ne.2 (by omega)
      have HN := Lib.hid (show needOf L = sumTo L L.length by simp [needOf, h])
      have hid := idle_leave h (n := L.length - 1) (by omega)
      have hlb := leaveAt_bd h (k := L.length - 1) (by omega)
      have hsb := sumTo_bd h L.length (Nat.le_refl _)
      have hib := idleTo_bd h L.length (Nat.le_refl _)
      have HI := Lib.hid hid; clear hid
      have H := Lib.hid h; clear h
      have k1 : (0 : Int) ≤ (L.length : Int) - 1 := by omega
      have k2 : (L.length : Int) - 1 < (L.length : Int) := by omega
      go_enter Try.func30, Try.ntmps30
      go_wp2_with fail
      refine (c_sCustomersOk L A c _ hA hn).mono ?_
      rintro e w1 ⟨rfl, hb1⟩
      rw [H.out]
      have hs1 := hb1.size
      have hA1 := (hA.below hb1).more hs1
      go_wp2_with fail
      refine (c_sLeavesOf L A c _ hA1 hn).mono ?_
      rintro e w2 ⟨v2, rfl, o2, hb2⟩
      obtain ⟨G, g, rfl, -, hG⟩ := o2.formG
      rw [HLn.out] at hG ⊢
      obtain ⟨gb, rfl, -, hgb, hgc⟩ := hG (by omega)
      have c5 := hgc (L.length - 1) (by omega)
      rw [HL.out, Z_leavesTo (by omega)] at c5
      have hk2 := hb1.trans (hb2.mono hs1)
      have hs2 := hk2.size
      have hA2 := (hA1.below hb2).more hb2.size
      clear hG hgc o2 hb2
      go_wp2_with fail
      have q6 : ((L.length : Int) - 1).toNat = L.length - 1 := by omega
      have q7 : IntKind.i64.wrap (leaveAt L (L.length - 1) - sumTo L L.length) = leaveAt L (L.length - 1) - sumTo L L.length := IntWalk.i64_in _ (by omega)
      have q8 : IntKind.i64.wrap ((L.length : Int) - 1) = (L.length : Int) - 1 := IntWalk.i64_in _ (by omega)
      have c6 := WB.cell hgb c5
      clear c5
      have K := fun W (hW : Cs W W.heap.size A L) => c_sNeedOf L A c W hW hn
      rw [HN.out] at K
      have HK := Lib.hid K; clear K
      refine wp_region_wb w2.heap.size (by kernel_rfl) (by kernel_rfl) ?_
      repeat (go_big_quiet_step ((go_at_call 62; exact Calls.inB (Nat.le_refl _) (HK.out _ (WB.cs _ hA2 (Nat.le_refl _))))))
      refine wpQuiet_nil ?_
      rintro _ ⟨⟨w5, hb5⟩, rfl⟩
      clear q6 q7 q8
      go_wp2_with fail
      go_ret
      exact ⟨by rw [HV.out, ← HI.out]; rfl, hk2.trans (hb5.mono hs2)⟩
  · have hno : cOk L = false := by simpa using h
    have HV := Lib.hid (idleV_no hno)
    have H := Lib.hid hno; clear h hno
    go_enter Try.func30, Try.ntmps30
    go_wp2_with fail
    refine (c_sCustomersOk L A c _ hA hn).mono ?_
    rintro e w1 ⟨rfl, hb1⟩
    rw [H.out]
    go_wp2_with fail
    go_ret
    exact ⟨by rw [HV.out]; rfl, hb1⟩

end Go.Proofs.Ytkkglpohmeehlaa

