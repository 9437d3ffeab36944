/- walks of the exact laws of chapter 12, third part: FnExactDeskNew -/
import Derived.Test.YtpbmehodcllncaaV16
namespace Go.Proofs.Ytpbmehodcllncaa
set_option linter.unusedVariables false
open Go.RowKit
attribute [local go_sem ↓] Go.wp_at_zero Go.wp_at_succ

theorem KO.keptRow {w w' : World} {base : Nat} {row : Option Nat} {vn vp : Value} {D : KV} {vs : List Value} (h : KO w base vn vp D vs) (hg : w.grownBy w' row) (hr : ∀ r, row = some r → r < base) : KO w' base vn vp D vs :=
  ⟨h.now.grownR' hg (fun k hk e => by have := owns_base h.now _ hk; have := hr k e; omega),
    h.past.kept hg (fun k hk e => by have := (h.past.base_lt _ hk).1; have := hr k e; omega) (fun j hj k hk e => by have := owns_base (h.past.inner j hj) _ hk; have := hr k e; omega), h.apn, h.api⟩
theorem small_of {D : KV} (h : deskOk D = true) : (D.now.length ≤ 1048576 ∧ D.past.length ≤ 1048576 ∧ totL D.past D.past.length ≤ 1048576) ∧ ∀ k, k < D.past.length → (LL D.past k).length ≤ 1048576 := by
  obtain ⟨h1, h2, h3⟩ := deskOk_parts h
  have h8 : ∀ k, k < D.past.length → (LL D.past k).length ≤ 8 := fun k hk => by rw [LL_get hk]; exact cOk_len (h1 _ (List.getElem_mem _))
  have ht : ∀ k, k ≤ D.past.length → totL D.past k ≤ 8 * k := by
    intro k
    induction k with
    | zero => intro _; exact Nat.le_refl _
    | succ k ih => intro hk; have := ih (by omega); have := h8 k (by omega); simp only [totL]; omega
  have := cOk_len h2
  have := ht D.past.length (Nat.le_refl _)
  exact ⟨⟨by omega, by omega, by omega⟩, fun k hk => by have := h8 k hk; omega⟩

set_option maxRecDepth 8000 in
set_option maxHeartbeats 8000000 in
theorem w_FnExactDeskNew (L : List (Int × Int)) (A : Option Addr) (c : Nat) (w : World) (hA : Cs w w.heap.size A L) (hc0 : L.length ≤ 9223372036854775807) :
    Calls Try.prog 8 #[.slice A L.length c] w fun e w' => e = .returned (.bool true) ∧ Below w.heap.size w w' := by
  go_enter Try.func8, Try.ntmps8
  go_wp2_with fail
  refine (c_szC A L.length c 1048576 w (by omega) (by omega) hc0).mono ?_
  rintro e w1 ⟨r, rfl, rfl, hr⟩
  rcases hr with ⟨rfl, hr⟩ | ⟨rfl, hr⟩
  · go_wp2_with fail
    go_ret
    exact ⟨rfl, Below.refl _ _⟩
  · have d1 : decide ((1048576 : Int) - (L.length : Int) < 0) = false := decide_eq_false (by omega)
    have hn : L.length ≤ 1048576 := by omega
    have hdk := deskOk_new L
    obtain ⟨⟨m1, m2, m3⟩, m4⟩ := small_of hdk
    have hsm := small_ok hdk
    have HTo := Lib.hid (fun W (hb : Below w.heap.size w W) => c_toCustomerS L A c W ((hA.below hb).more hb.size) hn)
    clear hdk hA hc0
    go_wp2_with fail
    refine (HTo.out w (Below.refl _ _)).mono ?_
    rintro e w1 ⟨v1, rfl, o1, hb1⟩
    obtain ⟨A1, c1, rfl, -, -, h1⟩ := o1.form
    go_wp2_with fail
    refine (c_sDeskNew L A1 c1 w1 h1 (by omega)).mono ?_
    rintro e w2 ⟨sn, sp, ss, rfl, o2, hb2⟩
    obtain ⟨S1, s1, S2, s2, rfl, rfl⟩ := o2.slices
    have hx2 := hb1.trans (hb2.mono hb1.size)
    obtain ⟨w3, hw3, hz3, hb3, HC3⟩ := box_two w2 (.slice S1 (newV L).now.length s1) (.slice S2 (newV L).past.length s2) 26
    have ks3 := ks_up o2.ks hb3
    have hx3 := hx2.trans (hb3.mono hx2.size)
    have HC3 := Lib.hid HC3
    clear o1 o2 h1 hb1 hb2 hb3 hx2
    go_wp2_with fail
    clear hw3
    refine (HTo.out w3 hx3).mono ?_
    rintro e w4 ⟨v4, rfl, o4, hb4⟩
    obtain ⟨A4, c4, rfl, hc4, -, h4⟩ := o4.form
    go_wp2_with fail
    refine (c_iDeskNew L A4 c4 w4 h4 hc4 (by omega)).mono ?_
    rintro e w5 ⟨gn, gp, gs, rfl, o5, hb5⟩
    obtain ⟨G1, g1, G2, g2, rfl, rfl⟩ := o5.slices
    have o4' := o4.below hb5 (Nat.le_refl _)
    obtain ⟨w6, hw6, hz6, hb6, HC6⟩ := box_two w5 (.slice G1 (newV L).now.length g1) (.slice G2 (newV L).past.length g2) 26
    have hs5 := hb5.size
    have hs4 := hb4.size
    have hb36 : Below w3.heap.size w3 w6 := (hb4.trans (hb5.mono hs4)).trans (hb6.mono (by omega))
    have ko6 := o5.below hb6 (Nat.le_refl _)
    have x6 := o4'.below hb6 (Nat.le_refl _)
    have hof1 : ∀ r, (Value.slice G1 (newV L).now.length g1).ownBlock = some r → r < w5.heap.size := owns_lt o5.now
    have hof2 : ∀ k, k < (newV L).past.length → ∀ r, (gs.getD k undef).ownBlock = some r → r < w5.heap.size := fun k hk => owns_lt (o5.past.inner k hk)
    have hx0 : ∀ r, (Value.slice A4 L.length c4).ownBlock = some r → w3.heap.size ≤ r ∧ r < w4.heap.size := fun r hr => ⟨owns_base o4 r hr, owns_lt o4 r hr⟩
    obtain ⟨q0, q1⟩ := HC3.out _ hb36
    obtain ⟨q2, q3⟩ := HC6 _ (Below.refl _ w6)
    have bG : w6.heap[w5.heap.size]? = some (.cells #[.slice G1 (newV L).now.length g1, .slice G2 (newV L).past.length g2] 26 (0, 0)) := by rw [← hw6]; exact heap_alloc_new _ _
    clear o5 o4 o4' h4 hb5 hb4 HC6
    generalize hD : newV L = D at *
    have HQ := Lib.hid hD
    clear hD
    have ks6 := ks_up ks3 hb36
    go_wp2_with fail
    clear hw6
    refine (c_eqDesk D _ _ _ _ w6 ko6.ks ks6 m1 m2 m4).mono ?_
    rintro e w7 ⟨rfl, hb7⟩
    have hne : (cOk L != cOk L) = false := by simp
    have hall : allK D ≤ 2097152 := by simp only [allK]; omega
    have hb37 := hb36.trans (hb7.mono hb36.size)
    have hs3 := hx3.size
    have hs6 := hb36.size
    have hs7 := hb7.size
    have ko7 := ko6.below hb7 (Nat.le_refl _)
    have x7 := x6.below hb7 (Nat.le_refl _)
    have bG7 := (hb7.block w5.heap.size (by omega)).trans bG
    have HC3w := Lib.hid (fun W (hb : Below w3.heap.size w3 W) => HC3.out W hb)
    have HE3 := Lib.hid (fun W un up (hK : Ks W W.heap.size un up D) (hb : Below w3.heap.size w3 W) => c_eqDesk D un up _ _ W hK (ks_up ks3 hb) m1 m2 m4)
    clear ks6 ko6 x6 bG q0 q1 q2 q3
    go_wp2_with fail
    refine (HTo.out w7 (hx3.trans (hb37.mono hs3))).mono ?_
    rintro e w8 ⟨v8, rfl, o8, hb8⟩
    have hs8 := hb8.size
    obtain ⟨A8, c8, rfl, -, -, h8⟩ := o8.form
    have x8 := x7.below hb8 (Nat.le_refl _)
    have hx8 := x8.isOf.2
    go_wp2_with fail
    refine (c_eqCustomerS L A4 A8 c4 c8 w8 hx8 h8 hn).mono ?_
    rintro e w9 ⟨rfl, hb9⟩
    have hs9 := hb9.size
    have hb79 := hb8.trans (hb9.mono hs8)
    have x9 := x7.below hb79 (Nat.le_refl _)
    have ko9 := ko7.below hb79 (Nat.le_refl _)
    have bG9 := (hb79.block w5.heap.size (by omega)).trans bG7
    have hb39 := hb37.trans (hb79.mono hb37.size)
    clear o8 h8 x8 hx8 x7 ko7 bG7
    go_wp2_with fail
    refine (c_markCustomerS L 1 _ _ w9 x9 hn (by omega) (by omega)).mono ?_
    rintro e w10 ⟨rfl, -, hg10⟩
    have hs10 := hg10.size
    have ko10 := ko9.keptRow hg10 (fun r hr => (hx0 r hr).2)
    have bG10 := (hg10.block w5.heap.size (by omega) (fun e => by have := (hx0 _ e.symm).2; omega)).trans bG9
    have hb310 : Below w3.heap.size w3 w10 := hb39.grown hg10 (by omega) (fun r hr => (hx0 r hr).1)
    have d2 : decide ((1 : Int) + 2 * (L.length : Int) < 0) = false := decide_eq_false (by omega)
    obtain ⟨q0, q1, -, -⟩ := two_at bG10
    obtain ⟨q2, q3⟩ := HC3.out _ hb310
    clear x9 ko9 bG9 hb79 hb39 hg10
    go_wp2_with fail
    refine (HE3.out w10 _ _ ko10.ks hb310).mono ?_
    rintro e w11 ⟨rfl, hb11⟩
    have hs11 := hb11.size
    have ko11 := ko10.below hb11 (Nat.le_refl _)
    have bG11 := (hb11.block w5.heap.size (by omega)).trans bG10
    have hb311 := hb310.trans (hb11.mono hb310.size)
    clear q0 q1 q2 q3 ko10 bG10
    obtain ⟨q0, q1, -, -⟩ := two_at bG11
    go_wp2_with fail
    refine (c_markDesk D 1 _ _ gs _ w11 ko11 m1 m2 m3 (by omega) (by omega) (by omega)).mono ?_
    rintro e w12 ⟨rfl, ko12, hb12, hB12⟩
    have hs12 := hb12.size
    have bG12 := (hB12 w5.heap.size (by omega) (fun r hr => by have := hof1 r hr; omega) (fun k hk r hr => by have := hof2 k hk r hr; omega)).trans bG11
    have hb312 : Below w3.heap.size w3 w12 := hb311.trans (hb12.mono (by omega))
    clear q0 q1 ko11 bG11 hB12
    obtain ⟨q0, q1, -, -⟩ := two_at bG12
    go_wp2_with fail
    refine (c_heldDesk D 1 _ _ w12 ko12.ks m1 m2 m3 (by omega) (by omega)).mono ?_
    rintro e w13 ⟨rfl, hb13⟩
    have hs13 := hb13.size
    have ko13 := ko12.below hb13 (Nat.le_refl _)
    have bG13 := (hb13.block w5.heap.size (by omega)).trans bG12
    have hb313 := hb312.trans (hb13.mono hb312.size)
    have d3 : decide ((1 : Int) + 2 * (allK D : Int) < 0) = false := decide_eq_false (by omega)
    have d4 : ((1 : Int) + 2 * (allK D : Int) != 1 + 2 * (allK D : Int)) = false := by simp
    clear q0 q1 ko12 bG12
    go_wp2_with fail
    refine (HTo.out w13 (hx3.trans (hb313.mono hs3))).mono ?_
    rintro e w14 ⟨v14, rfl, o14, hb14⟩
    obtain ⟨A14, c14, rfl, hc14, -, h14⟩ := o14.form
    have hs14 := hb14.size
    go_wp2_with fail
    refine (c_iDeskNew L A14 c14 w14 h14 hc14 (by omega)).mono ?_
    rintro e w15 ⟨kn, kp, ks15, rfl, o15, hb15⟩
    rw [HQ.out] at o15
    obtain ⟨K1, k1, K2, k2, rfl, rfl⟩ := o15.slices
    have hs15 := hb15.size
    obtain ⟨w16, hw16, hz16, hb16, HC16⟩ := box_two w15 (.slice K1 D.now.length k1) (.slice K2 D.past.length k2) 26
    have hb1316 : Below w13.heap.size w13 w16 := (hb14.trans (hb15.mono hs14)).trans (hb16.mono (by omega))
    have hs16 := hb1316.size
    have hb316 := hb313.trans (hb1316.mono hb313.size)
    have kk16 := ks_up o15.ks hb16
    have ko16 := ko13.below hb1316 (Nat.le_refl _)
    have bG16 := (hb1316.block w5.heap.size (by omega)).trans bG13
    obtain ⟨q0, q1⟩ := HC16 _ (Below.refl _ w16)
    obtain ⟨q2, q3⟩ := HC3.out _ hb316
    clear o14 h14 o15 HC16 ko13 bG13
    go_wp2_with fail
    clear hw16
    refine (HE3.out w16 _ _ kk16 hb316).mono ?_
    rintro e w17 ⟨rfl, hb17⟩
    have hs17 := hb17.size
    have ko17 := ko16.below hb17 (Nat.le_refl _)
    have bG17 := (hb17.block w5.heap.size (by omega)).trans bG16
    have hb317 := hb316.trans (hb17.mono hb316.size)
    clear q0 q1 q2 q3 ko16 bG16 kk16
    obtain ⟨q0, q1, -, -⟩ := two_at bG17
    go_wp2_with fail
    refine (c_heldDesk D 1 _ _ w17 ko17.ks m1 m2 m3 (by omega) (by omega)).mono ?_
    rintro e w18 ⟨rfl, hb18⟩
    go_wp2_with fail
    go_ret
    exact ⟨rfl, hx3.trans ((hb317.trans (hb18.mono hb317.size)).mono hs3)⟩

end Go.Proofs.Ytpbmehodcllncaa

