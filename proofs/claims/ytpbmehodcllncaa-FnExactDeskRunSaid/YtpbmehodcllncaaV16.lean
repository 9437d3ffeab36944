/- walks of the exact laws of chapter 12, second part: FnExactDeskOk -/
import Derived.Test.YtpbmehodcllncaaX10
import Derived.Test.YtpbmehodcllncaaKU
namespace Go.Proofs.Ytpbmehodcllncaa
set_option linter.unusedVariables false
open Go.RowKit
attribute [local go_sem ↓] Go.wp_at_zero Go.wp_at_succ

/-- one of the laws' desks, as it is read -/
structure LawK (w : World) (vn vp : Value) (D : KV) : Prop where
  ks : Ks w w.heap.size vn vp D
  l1 : D.now.length ≤ 9223372036854775807
  l2 : D.past.length ≤ 9223372036854775807
  l3 : ∀ k, k < D.past.length → (LL D.past k).length ≤ 9223372036854775807
theorem small_all {D : KV} {r : Int} (h0 : 0 ≤ r) (h : r + (D.past.length : Int) + (allK D : Int) = 1048576) : (D.now.length ≤ 1048576 ∧ D.past.length ≤ 1048576 ∧ totL D.past D.past.length ≤ 1048576) ∧ (∀ k, k < D.past.length → (LL D.past k).length ≤ 1048576) ∧ SmallK D := by
  simp only [allK] at h
  have hk : ∀ k, k < D.past.length → (LL D.past k).length ≤ 1048576 := fun k hk => by have := totL_at hk; omega
  exact ⟨⟨by omega, by omega, by omega⟩, hk, by omega, by omega, fun k h => by have := hk k h; omega⟩
theorem ks_up {w W : World} {vn vp : Value} {D : KV} (h : Ks w w.heap.size vn vp D) (hb : Below w.heap.size w W) : Ks W W.heap.size vn vp D := (h.below hb).more hb.size

set_option maxRecDepth 8000 in
set_option maxHeartbeats 4000000 in
theorem w_FnExactDeskOk (D : KV) (vn vp : Value) (w : World) (hj : LawK w vn vp D) :
    Calls Try.prog 7 #[.agg #[vn, vp]] w fun e w' => e = .returned (.bool true) ∧ Below w.heap.size w w' := by
  obtain ⟨hK, l1, l2, l3⟩ := hj
  obtain ⟨X1, x1, X2, x2, rfl, rfl⟩ := (show ∃ A c A' c', vn = .slice A D.now.length c ∧ vp = .slice A' D.past.length c' from by obtain ⟨⟨A, c, e1, -, -⟩, A', c', e2, -, -⟩ := hK; exact ⟨A, c, A', c', e1, e2⟩)
  obtain ⟨w0, hw0, hz0, hb0, HC0⟩ := box_two w (.slice X1 D.now.length x1) (.slice X2 D.past.length x2) 53
  have k0 := ks_up hK hb0
  have HC := Lib.hid HC0
  obtain ⟨q0, q1⟩ := HC.out _ (Below.refl _ w0)
  have HZ := Lib.hid (c_szDesk D _ _ w0 k0 l1 l2 l3)
  clear hK HC0 l1 l2 l3
  go_enter Try.func7, Try.ntmps7
  go_wp2_with fail
  clear hw0 q0 q1
  refine HZ.out.mono ?_
  rintro e w1 ⟨r, rfl, hb1, hr1, hr2, hr3⟩
  have hx1 := hb0.trans (hb1.mono (by omega))
  by_cases hn : r < 0
  · have d1 : decide (r < 0) = true := decide_eq_true hn
    clear hr3
    go_wp2_with fail
    go_ret
    exact ⟨rfl, hx1⟩
  · have d1 : decide (r < 0) = false := decide_eq_false hn
    obtain ⟨⟨m1, m2, m3⟩, m4, hsm⟩ := small_all (by omega) (hr3 (by omega))
    clear hr3
    have HTo := Lib.hid (fun W (hb : Below w0.heap.size w0 W) => c_toDesk D _ _ W (ks_up k0 hb) m1 m2 m4)
    obtain ⟨q0, q1⟩ := HC.out _ hb1
    go_wp2_with fail
    refine (HTo.out _ hb1).mono ?_
    rintro e w2 ⟨an, ap, as2, rfl, o2, hb2⟩
    have hx2 := hb1.trans (hb2.mono hb1.size)
    clear q0 q1
    go_wp2_with fail
    refine (c_sDeskOk D _ _ w2 o2.ks hsm).mono ?_
    rintro e w3 ⟨rfl, hb3⟩
    have hx3 := hx2.trans (hb3.mono hx2.size)
    obtain ⟨q0, q1⟩ := HC.out _ hx3
    clear o2
    go_wp2_with fail
    refine (HTo.out _ hx3).mono ?_
    rintro e w4 ⟨bn, bp, bs4, rfl, o4, hb4⟩
    have hx4 := hx3.trans (hb4.mono hx3.size)
    obtain ⟨B1, b1, B2, b2, rfl, rfl⟩ := o4.slices
    obtain ⟨w5, hw5, hz5, hb5, HC5⟩ := box_two w4 (.slice B1 D.now.length b1) (.slice B2 D.past.length b2) 26
    have k5 := ks_up o4.ks hb5
    have hx5 := hx4.trans (hb5.mono hx4.size)
    have HC5 := Lib.hid HC5
    obtain ⟨q2, q3⟩ := HC5.out _ (Below.refl _ w5)
    clear q0 q1 o4
    go_wp2_with fail
    clear hw5 q2 q3
    refine (c_iDeskOk D _ _ w5 k5 hsm).mono ?_
    rintro e w6 ⟨rfl, hb6⟩
    have hx6 := hx5.trans (hb6.mono hx5.size)
    have k6 := ks_up k5 hb6
    have hne : (deskOk D != deskOk D) = false := by simp
    have HS := Lib.hid (fun W (hb : Below w6.heap.size w6 W) => show (W.cell? ⟨w4.heap.size, 0, none⟩ = some (.slice B1 D.now.length b1) ∧ W.cell? ⟨w4.heap.size, 1, none⟩ = some (.slice B2 D.past.length b2)) ∧ (W.cell? ⟨w.heap.size, 0, none⟩ = some (.slice X1 D.now.length x1) ∧ W.cell? ⟨w.heap.size, 1, none⟩ = some (.slice X2 D.past.length x2)) from ⟨HC5.out W (hb6.trans (hb.mono hb6.size)), HC.out W (hx6.trans (hb.mono hx6.size))⟩)
    obtain ⟨⟨q0, q1⟩, q2, q3⟩ := HS.out _ (Below.refl _ w6)
    go_wp2_with fail
    go_region_held3 (fun W => W.cell? ⟨w4.heap.size, 0, none⟩ = some (.slice B1 D.now.length b1) ∧ W.cell? ⟨w4.heap.size, 1, none⟩ = some (.slice B2 D.past.length b2) ∧ W.cell? ⟨w.heap.size, 0, none⟩ = some (.slice X1 D.now.length x1) ∧ W.cell? ⟨w.heap.size, 1, none⟩ = some (.slice X2 D.past.length x2))
      (first
        | go_keep
        | exact ⟨(HS.out _ hb68).1.1, (HS.out _ hb68).1.2, (HS.out _ hb68).2.1, (HS.out _ hb68).2.2⟩
        | exact ⟨(HS.out _ hb67).1.1, (HS.out _ hb67).1.2, (HS.out _ hb67).2.1, (HS.out _ hb67).2.2⟩)
      (first
        | (go_at_call 30; (with_reducible refine (HTo.out w6.drew (hx6.trans ((Below.refl _ w6).drew.mono hx6.size))).mono ?_); rintro e w7 ⟨cn, cp, cs7, rfl, o7, hb7⟩; have hb67 : Below w6.heap.size w6 w7 := (Below.refl _ w6).drew.trans hb7)
        | (go_at_call 31; refine (c_eqDesk D _ _ _ _ w7 (ks_up k6 hb67) o7.ks m1 m2 m4).mono ?_; rintro e w8 ⟨rfl, hb8⟩; have hb68 : Below w6.heap.size w6 w8 := hb67.trans (hb8.mono hb67.size)))
    go_wp2_with fail
    go_ret
    exact ⟨rfl, hb0.trans ((hx6.trans (hb68.mono hx6.size)).mono (by omega))⟩

end Go.Proofs.Ytpbmehodcllncaa

