/- walks of the exact laws of chapter 12: FnExactDeskRun (made by wip/gen/v19.py) -/
import Derived.Test.YtpbmehodcllncaaV17
import Derived.Test.YtpbmehodcllncaaX11
import Derived.Deep.CutRange
namespace Go.Proofs.Ytpbmehodcllncaa
set_option linter.unusedVariables false
open Go.RowKit
attribute [local go_sem ↓] Go.wp_at_zero Go.wp_at_succ

theorem small_run {D : KV} {ds : List DV} : ((deskRun D ds).1.now.length ≤ 1048576 ∧ (deskRun D ds).1.past.length ≤ 1048576 ∧ totL (deskRun D ds).1.past (deskRun D ds).1.past.length ≤ 1048576) ∧ ∀ k, k < (deskRun D ds).1.past.length → (LL (deskRun D ds).1.past k).length ≤ 1048576 := by
  cases h : runOk D ds with
  | true =>
    rw [show deskRun D ds = runTo D ds from if_pos h]
    simp only [runOk, Bool.and_eq_true] at h
    exact small_of (runTo_ok h.1 ds)
  | false =>
    rw [deskRun_no h]
    exact ⟨⟨by simp [noK], by simp [noK], by simp [noK, totL]⟩, fun k hk => by simp [noK] at hk⟩
theorem EO.same7 {w W : World} {base : Nat} {v : Value} {L : List DV} (h : EO w base v L) (hk : ∀ r, v.ownBlock = some r → W.heap[r]? = w.heap[r]?) : EO W base v L := by
  refine ⟨h.1, ?_⟩
  rcases h.2 with h2 | ⟨g, cap, cur, rfl, hgb, hh, rest⟩
  · exact .inl h2
  · exact .inr ⟨g, cap, cur, rfl, hgb, by rw [hk g (by simp [Value.ownBlock])]; exact hh, rest⟩

set_option maxRecDepth 8000 in
set_option maxHeartbeats 16000000 in
theorem w_FnExactDeskRun (D : KV) (vn vp : Value) (ds : List DV) (F : Option Addr) (fc : Nat) (w : World) (hj : LawK w vn vp D) (hF : Ds3 w w.heap.size F ds) (hfc : ds.length ≤ fc) (hds : ds.length ≤ 9223372036854775807) :
    Calls Try.prog 10 #[.agg #[vn, vp], .slice F ds.length fc] w fun e w' => e = .returned (.bool true) ∧ Below w.heap.size w w' := by
  obtain ⟨hK, l1, l2, l3⟩ := hj
  obtain ⟨X1, x1, X2, x2, rfl, rfl⟩ := (show ∃ A c A' c', vn = .slice A D.now.length c ∧ vp = .slice A' D.past.length c' from by obtain ⟨⟨A, c, e1, -, -⟩, A', c', e2, -, -⟩ := hK; exact ⟨A, c, A', c', e1, e2⟩)
  obtain ⟨w0, hw0, hz0, hb0, HC0⟩ := box_two w (.slice X1 D.now.length x1) (.slice X2 D.past.length x2) 53
  have HFd := Lib.hid (fun W (hb : Below w.heap.size w W) => (hF.below hb).more hb.size)
  have k1 := ks_up hK hb0
  have HC := Lib.hid HC0
  obtain ⟨q0, q1⟩ := HC.out _ (Below.refl _ w0)
  have HZ := Lib.hid (c_szDesk D _ _ w0 k1 l1 l2 l3)
  clear hK HC0 l1 l2 l3
  go_enter Try.func10, Try.ntmps10
  go_wp2_with fail
  clear hw0 q0 q1
  refine HZ.out.mono ?_
  rintro e w3 ⟨r, rfl, hb3, hr1, hr2, hr3⟩
  have hx3 := hb0.trans (hb3.mono hb0.size)
  by_cases hn : r < 0
  · have d1 : decide (r < 0) = true := decide_eq_true hn
    clear hr3
    go_wp2_with fail
    go_ret
    exact ⟨rfl, hx3⟩
  · have d1 : decide (r < 0) = false := decide_eq_false hn
    obtain ⟨⟨m1, m2, m3⟩, m4, hsm⟩ := small_all (by omega) (hr3 (by omega))
    clear hr3
    go_wp2_with fail
    refine (c_szE F ds.length fc r w3 (by omega) hr2 hds).mono ?_
    rintro e w3' ⟨r4, rfl, rfl, hr4⟩
    by_cases hn4 : r4 < 0
    · have d14 : decide (r4 < 0) = true := decide_eq_true hn4
      go_wp2_with fail
      go_ret
      exact ⟨rfl, hx3⟩
    have d14 : decide (r4 < 0) = false := decide_eq_false hn4
    have hdl : ds.length ≤ 1048576 := by omega
    have HTe := Lib.hid (fun W (hb : Below w.heap.size w W) => c_toDeedS ds F fc W (HFd.out W hb) hdl)
    have HL := Lib.hid (fun W (hb : Below w3.heap.size w3 W) => HC.out W (hb3.trans (hb.mono hb3.size)))
    have HTo := Lib.hid (fun W (hb : Below w3.heap.size w3 W) => c_toDesk D _ _ W (ks_up k1 (hb3.trans (hb.mono hb3.size))) m1 m2 m4)
    have HDs := Lib.hid (fun W {un up : Value} {A : Option Addr} {c : Nat} (hK : Ks W W.heap.size un up D) (hE : Ds3 W W.heap.size A ds) => c_sDeskRun D ds un up A c W hK hsm hE (by omega))
    have hs3 := hx3.size
    obtain ⟨q0, q1⟩ := HL.out w3 (Below.refl _ _)
    go_wp2_with fail
    refine (HTo.out w3 (Below.refl _ _)).mono ?_
    rintro e wa ⟨an, ap, as2, rfl, oa, hba⟩
    obtain ⟨A1, a1, A2, a2, rfl, rfl⟩ := oa.slices
    clear q0 q1
    go_wp2_with fail
    refine (HTe.out wa (hx3.trans (hba.mono hx3.size))).mono ?_
    rintro e wb ⟨vb, rfl, ob, hbb⟩
    obtain ⟨Fb, cb, rfl, hcb, -, hEb⟩ := ob.form
    have kab := ks_up oa.ks hbb
    have hba := hba.trans (hbb.mono hba.size)
    clear ob hbb
    go_wp2_with fail
    refine (HDs.out wb kab hEb).mono ?_
    rintro e wy ⟨yn, yp, ys, rfl, oy, hby⟩
    obtain ⟨S1, s1, S2, s2, rfl, rfl⟩ := oy.slices
    obtain ⟨V5, hV5⟩ : ∃ z, wy.alloc (.cells #[.slice S1 (deskRun D ds).1.now.length s1, .slice S2 (deskRun D ds).1.past.length s2] 26) = z := ⟨_, rfl⟩
    have hbyz : Below wy.heap.size wy V5 := by rw [← hV5]; exact (Below.refl _ wy).alloc (Nat.le_refl _) _
    have b6 : V5.heap[wy.heap.size]? = some (.cells #[.slice S1 (deskRun D ds).1.now.length s1, .slice S2 (deskRun D ds).1.past.length s2] 26 (0, 0)) := by rw [← hV5]; exact heap_alloc_new _ _
    have hbV : Below w3.heap.size w3 V5 := hba.trans ((hby.trans (hbyz.mono hby.size)).mono hba.size)
    have hBy : w3.heap.size ≤ wy.heap.size := Nat.le_trans hba.size hby.size
    have oz := (oy.below hbyz (Nat.le_refl _)).mono hba.size
    obtain ⟨B6, hB6e⟩ : ∃ b, wy.heap.size = b := ⟨_, rfl⟩
    rw [hB6e] at b6 hBy
    have hB6 := hBy
    have hb6 := hbV
    have o6 := oz
    clear hbyz oy oa hby hba oz hbV hBy
    · have hl6 := (Array.getElem?_eq_some_iff.1 b6).1
      have H6 := Lib.hid (fun W (hb : Below V5.heap.size V5 W) => show W.cell? ⟨B6, 0, none⟩ = some (.slice S1 (deskRun D ds).1.now.length s1) ∧ W.cell? ⟨B6, 1, none⟩ = some (.slice S2 (deskRun D ds).1.past.length s2) from ⟨(two_at ((hb.block B6 hl6).trans b6)).1, (two_at ((hb.block B6 hl6).trans b6)).2.1⟩)
      have HL5 := Lib.hid (fun W (hb : Below V5.heap.size V5 W) => HL.out W (hb6.trans (hb.mono hb6.size)))
      have HTo5 := Lib.hid (fun W (hb : Below V5.heap.size V5 W) => HTo.out W (hb6.trans (hb.mono hb6.size)))
      have hsX := small_run (ds := ds) (D := D)
      obtain ⟨⟨p1, p2, p3⟩, p4⟩ := hsX
      have HE6 := Lib.hid (fun W {un up : Value} (hK : Ks W W.heap.size un up (deskRun D ds).1) (hb : Below V5.heap.size V5 W) => c_eqDesk (deskRun D ds).1 un up _ _ W hK (ks_up o6.ks hb) p1 p2 p4)
      have hx5 := hx3.trans (hb6.mono hs3)
      obtain ⟨q0, q1⟩ := HL5.out _ (Below.refl _ V5)
      clear HL HTo HDs b6 o6 hb6
      go_wp2_with fail
      refine (HTo5.out _ (Below.refl _ _)).mono ?_
      rintro e w8 ⟨xn, xp, xs, rfl, o8, hb8⟩
      obtain ⟨E1, e1, E2, e2, rfl, rfl⟩ := o8.slices
      clear q0 q1
      obtain ⟨w9b, hw9b, hz9b, hb9b, HC9b⟩ := box_two w8 (.slice E1 D.now.length e1) (.slice E2 D.past.length e2) 26
      have hb5b : Below V5.heap.size V5 w9b := hb8.trans (hb9b.mono hb8.size)
      clear hz9b
      go_wp2_with fail
      clear hw9b
      refine (HTe.out w9b (hx5.trans (hb5b.mono hx5.size))).mono ?_
      rintro e w9 ⟨vx, rfl, ox, hbx⟩
      obtain ⟨Fx, cx, rfl, hcx, -, hEx⟩ := ox.form
      have hb59 : Below V5.heap.size V5 w9 := hb5b.trans (hbx.mono hb5b.size)
      have x9 := (o8.below hb9b (Nat.le_refl _)).below hbx (Nat.le_refl _)
      have hx0n : ∀ r, (Value.slice E1 D.now.length e1).ownBlock = some r → r < w8.heap.size := owns_lt o8.now
      have hx0i : ∀ j, j < D.past.length → ∀ r, (xs.getD j undef).ownBlock = some r → r < w8.heap.size := fun j hj => owns_lt (o8.past.inner j hj)
      have hx1n : ∀ r, (Value.slice Fx ds.length cx).ownBlock = some r → w9b.heap.size ≤ r ∧ r < w9.heap.size := fun r hr => ⟨owns_base ox r hr, owns_lt ox r hr⟩
      have HC9 := Lib.hid (fun W (hb : Below w9.heap.size w9 W) => HC9b W (hbx.trans (hb.mono hbx.size)))
      have HK0 := Lib.hid (fun W (hb : Below w9.heap.size w9 W) => ks_up x9.ks hb)
      have HX1 := Lib.hid (fun W (hb : Below w9.heap.size w9 W) => ox.below hb (Nat.le_refl _))
      have HL := HC9
      have HDi := Lib.hid (fun W {un up : Value} {A : Option Addr} {c : Nat} (hK : Ks W W.heap.size un up D) (hE : Ds3 W W.heap.size A ds) (hcap : ds.length ≤ c) => c_iDeskRun D ds un up A c W hK hsm hE hcap (by omega))
      have hs5 := hx5.size
      have hs59 := hb59.size
      have hs8b : w8.heap.size ≤ w9b.heap.size := hb9b.size
      have hs9b : w9b.heap.size ≤ w9.heap.size := hbx.size
      have hs58 : V5.heap.size ≤ w9b.heap.size := hb5b.size
      clear hb8 hb9b HC9b hbx ox
      obtain ⟨q0, q1⟩ := HC9.out w9 (Below.refl _ _)
      go_wp2_with fail
      refine (HDi.out w9 x9.ks hEx hcx).mono ?_
      rintro e wy ⟨gn, gp, gs, rfl, oy, hby⟩
      obtain ⟨G1, g1, G2, g2, rfl, rfl⟩ := oy.slices
      obtain ⟨V9, hV9⟩ : ∃ z, wy.alloc (.cells #[.slice G1 (deskRun D ds).1.now.length g1, .slice G2 (deskRun D ds).1.past.length g2] 26) = z := ⟨_, rfl⟩
      have hbyz : Below wy.heap.size wy V9 := by rw [← hV9]; exact (Below.refl _ wy).alloc (Nat.le_refl _) _
      have b9 : V9.heap[wy.heap.size]? = some (.cells #[.slice G1 (deskRun D ds).1.now.length g1, .slice G2 (deskRun D ds).1.past.length g2] 26 (0, 0)) := by rw [← hV9]; exact heap_alloc_new _ _
      have hb9 : Below w9.heap.size w9 V9 := hby.trans (hbyz.mono hby.size)
      have hB9 : w9.heap.size ≤ wy.heap.size := hby.size
      have n1 : ∀ r, (Value.slice G1 (deskRun D ds).1.now.length g1).ownBlock = some r → r ≠ wy.heap.size := fun r hr => by have := owns_lt oy.now r hr; omega
      have n2 : ∀ j, j < (deskRun D ds).1.past.length → ∀ r, (gs.getD j undef).ownBlock = some r → r ≠ wy.heap.size := fun j hj r hr => by have := owns_lt (oy.past.inner j hj) r hr; omega
      have o9 := oy.below hbyz (Nat.le_refl _)
      clear q0 q1
      obtain ⟨B9, hB9e⟩ : ∃ b, wy.heap.size = b := ⟨_, rfl⟩
      rw [hB9e] at b9 hB9 n1 n2
      clear hbyz oy hby
      · have hl9 := (Array.getElem?_eq_some_iff.1 b9).1
        have hb69 : Below V5.heap.size V5 V9 := hb59.trans (hb9.mono hs59)
        have hs9 := hb9.size
        have hs69 := hb69.size
        have hne : ((deskRun D ds).2 != (deskRun D ds).2) = false := by simp
        obtain ⟨q0, q1⟩ := H6.out V9 hb69
        obtain ⟨q2, q3, -, -⟩ := two_at b9
        go_wp2_with fail
        refine (HE6.out V9 o9.ks hb69).mono ?_
        rintro e w10 ⟨rfl, hb10⟩
        have hs10 := hb10.size
        have hb910 : Below w9.heap.size w9 w10 := hb9.trans (hb10.mono hs9)
        have hb610 : Below V5.heap.size V5 w10 := hb69.trans (hb10.mono hs69)
        clear q0 q1 q2 q3
        have HS := Lib.hid (fun W (hb : Below w10.heap.size w10 W) => show (W.cell? ⟨w8.heap.size, 0, none⟩ = some (.slice E1 D.now.length e1) ∧ W.cell? ⟨w8.heap.size, 1, none⟩ = some (.slice E2 D.past.length e2)) ∧ (W.cell? ⟨w.heap.size, 0, none⟩ = some (.slice X1 D.now.length x1) ∧ W.cell? ⟨w.heap.size, 1, none⟩ = some (.slice X2 D.past.length x2)) from ⟨⟨(HL.out W (hb910.trans (hb.mono hb910.size))).1, (HL.out W (hb910.trans (hb.mono hb910.size))).2⟩, (HL5.out W (hb610.trans (hb.mono hb610.size))).1, (HL5.out W (hb610.trans (hb.mono hb610.size))).2⟩)
        obtain ⟨⟨q0, q1⟩, q2, q3⟩ := HS.out _ (Below.refl _ w10)
        go_wp2_with fail
        go_region_held3 (fun W => W.cell? ⟨w8.heap.size, 0, none⟩ = some (.slice E1 D.now.length e1) ∧ W.cell? ⟨w8.heap.size, 1, none⟩ = some (.slice E2 D.past.length e2) ∧ W.cell? ⟨w.heap.size, 0, none⟩ = some (.slice X1 D.now.length x1) ∧ W.cell? ⟨w.heap.size, 1, none⟩ = some (.slice X2 D.past.length x2))
          (first
            | go_keep
            | exact ⟨(HS.out _ hb1012a).1.1, (HS.out _ hb1012a).1.2, (HS.out _ hb1012a).2.1, (HS.out _ hb1012a).2.2⟩
            | exact ⟨(HS.out _ hb1011).1.1, (HS.out _ hb1011).1.2, (HS.out _ hb1011).2.1, (HS.out _ hb1011).2.2⟩)
          (first
            | (go_at_call 30; (with_reducible refine (HTo5.out w10.drew (hb610.trans ((Below.refl _ w10).drew.mono hb610.size))).mono ?_); rintro e w11 ⟨cn, cp, cs7, rfl, o11, hb11⟩; have hb1011 : Below w10.heap.size w10 w11 := (Below.refl _ w10).drew.trans hb11)
            | (go_at_call 31; refine (c_eqDesk D _ _ _ _ w11 (HK0.out _ (hb910.trans (hb1011.mono hb910.size))) o11.ks m1 m2 m4).mono ?_; rintro e w12a ⟨rfl, hb12⟩; have hb1012a : Below w10.heap.size w10 w12a := hb1011.trans (hb12.mono hb1011.size)))
        have hb912a : Below w9.heap.size w9 w12a := hb910.trans (hb1012a.mono hb910.size)
        have hb612a : Below V5.heap.size V5 w12a := hb610.trans (hb1012a.mono hb610.size)
        clear q0 q1 q2 q3
        go_wp2_with fail
        refine (HTe.out w12a (hx5.trans (hb612a.mono hx5.size))).mono ?_
        rintro e w12b ⟨vt, rfl, ot, hbt⟩
        obtain ⟨Ft, ct, rfl, hct, -, hEt⟩ := ot.form
        go_wp2_with fail
        refine (c_eqDeedS ds Fx Ft cx ct w12b (HX1.out w12b (hb912a.trans (hbt.mono hb912a.size))).isOf.2 hEt hdl).mono ?_
        rintro e w12 ⟨rfl, hbu⟩
        have hb1012 : Below w10.heap.size w10 w12 := hb1012a.trans ((hbt.trans (hbu.mono hbt.size)).mono hb1012a.size)
        clear ot hbt hbu
        have hs12 := hb1012.size
        have hb912 : Below w9.heap.size w9 w12 := hb910.trans (hb1012.mono hb910.size)
        have hb612 : Below V5.heap.size V5 w12 := hb610.trans (hb1012.mono hb610.size)
        have hb99 : Below V9.heap.size V9 w12 := hb10.trans (hb1012.mono hs10)
        have x12 := x9.below hb912 (Nat.le_refl _)
        have o12 := o9.below hb99 (Nat.le_refl _)
        have b12 := (hb99.block B9 hl9).trans b9
        have hall : allK D ≤ 2097152 := by simp only [allK]; omega
        have hallX : allK (deskRun D ds).1 ≤ 2097152 := by simp only [allK]; omega
        have d2 : decide ((1 : Int) + 2 * (allK D : Int) + 3 * (ds.length : Int) < 0) = false := decide_eq_false (by omega)
        have d3 : decide ((1 : Int) + 2 * (allK (deskRun D ds).1 : Int) < 0) = false := decide_eq_false (by omega)
        have d4 : ((1 : Int) + 2 * (allK (deskRun D ds).1 : Int) != 1 + 2 * (allK (deskRun D ds).1 : Int)) = false := by simp
        have HL12 := HL.out w12 hb912
        have ox12 := HX1.out w12 hb912
        clear HS o9 b9 x9
        obtain ⟨q0, q1⟩ := HL12
        go_wp2_with fail
        refine (c_markDesk D 1 _ _ xs _ w12 x12 m1 m2 m3 (by omega) (by omega) (by omega)).mono ?_
        rintro e w13a ⟨rfl, -, hb13a, hB13⟩
        have hs13a := hb13a.size
        have o13a := o12.sameB hs13a (fun j hj hj2 => hB13 j hj2 (fun r hr => by have := hx0n r hr; omega) (fun i hi r hr => by have := hx0i i hi r hr; omega))
        have b13a := (hB13 B9 (by omega) (fun r hr => by have := hx0n r hr; omega) (fun i hi r hr => by have := hx0i i hi r hr; omega)).trans b12
        have ox13 := ox12.same7 (W := w13a) (fun r1 hr1 => hB13 r1 (by have := hx1n r1 hr1; omega) (fun r hr => by have := hx0n r hr; have := hx1n r1 hr1; omega) (fun i hi r hr => by have := hx0i i hi r hr; have := hx1n r1 hr1; omega))
        have hb613a : Below V5.heap.size V5 w13a := hb612.trans hb13a
        clear q0 q1 x12 o12 b12 hB13 ox12
        go_wp2_with fail
        refine (c_markDeedS ds (1 + 2 * (allK D : Int)) _ _ w13a ox13 hdl (by omega) (by omega)).mono ?_
        rintro e w13 ⟨rfl, -, hg13⟩
        have hs13 := hg13.size
        have o13 := o13a.keptRow hg13 (fun r hr => by have := hx1n r hr; omega)
        have b13 := (hg13.block B9 (by have := (Array.getElem?_eq_some_iff.1 b13a).1; omega) (fun e => by have := hx1n B9 e.symm; omega)).trans b13a
        have hb613 : Below V5.heap.size V5 w13 := hb613a.grown hg13 hb613a.size (fun r hr => by have := hx1n r hr; omega)
        clear o13a b13a ox13
        obtain ⟨q0, q1⟩ := H6.out w13 hb613
        obtain ⟨q2, q3, -, -⟩ := two_at b13
        go_wp2_with fail
        refine (HE6.out w13 o13.ks hb613).mono ?_
        rintro e w14 ⟨rfl, hb14⟩
        have hs14 := hb14.size
        have o14 := o13.below hb14 (Nat.le_refl _)
        have b14 := (hb14.block B9 (by omega)).trans b13
        have hb614 : Below V5.heap.size V5 w14 := hb613.trans (hb14.mono hb613.size)
        clear q0 q1 q2 q3 o13 b13
        obtain ⟨q2, q3, -, -⟩ := two_at b14
        go_wp2_with fail
        refine (c_markDesk (deskRun D ds).1 1 _ _ gs _ w14 o14 p1 p2 p3 (by omega) (by omega) (by omega)).mono ?_
        rintro e w15 ⟨rfl, o15, hb15, hB15⟩
        have hs15 := hb15.size
        have b15 := (hB15 B9 (by omega) n1 n2).trans b14
        have hb615 : Below V5.heap.size V5 w15 := hb614.trans (hb15.mono hs59)
        clear q2 q3 o14 b14 hB15
        obtain ⟨q2, q3, -, -⟩ := two_at b15
        go_wp2_with fail
        refine (c_heldDesk (deskRun D ds).1 1 _ _ w15 o15.ks p1 p2 p3 (by omega) (by omega)).mono ?_
        rintro e w16 ⟨rfl, hb16⟩
        have hs16 := hb16.size
        have o16 := o15.below hb16 (Nat.le_refl _)
        have b16 := (hb16.block B9 (by omega)).trans b15
        have hb616 : Below V5.heap.size V5 w16 := hb615.trans (hb16.mono hb615.size)
        clear q2 q3 o15 b15 HL
        have HL := Lib.hid (fun W (hb : Below w16.heap.size w16 W) => HL5.out W (hb616.trans (hb.mono hb616.size)))
        have HTo := Lib.hid (fun W (hb : Below w16.heap.size w16 W) => HTo5.out W (hb616.trans (hb.mono hb616.size)))
        obtain ⟨q0, q1⟩ := HL.out w16 (Below.refl _ _)
        go_wp2_with fail
        refine (HTo.out w16 (Below.refl _ _)).mono ?_
        rintro e wa ⟨an, ap, as2, rfl, oa, hba⟩
        obtain ⟨A1, a1, A2, a2, rfl, rfl⟩ := oa.slices
        clear q0 q1
        go_wp2_with fail
        refine (HTe.out wa ((hx5.trans ((hb616.trans (hba.mono hb616.size)).mono hx5.size)))).mono ?_
        rintro e wb ⟨vb, rfl, ob, hbb⟩
        obtain ⟨Fb, cb, rfl, hcb, -, hEb⟩ := ob.form
        have kab := ks_up oa.ks hbb
        have hba := hba.trans (hbb.mono hba.size)
        clear ob hbb
        go_wp2_with fail
        refine (HDi.out wb kab hEb hcb).mono ?_
        rintro e wy ⟨yn, yp, ys, rfl, oy, hby⟩
        obtain ⟨J1, j1, J2, j2, rfl, rfl⟩ := oy.slices
        obtain ⟨V24, hV24⟩ : ∃ z, wy.alloc (.cells #[.slice J1 (deskRun D ds).1.now.length j1, .slice J2 (deskRun D ds).1.past.length j2] 26) = z := ⟨_, rfl⟩
        have hbyz : Below wy.heap.size wy V24 := by rw [← hV24]; exact (Below.refl _ wy).alloc (Nat.le_refl _) _
        have bh : V24.heap[wy.heap.size]? = some (.cells #[.slice J1 (deskRun D ds).1.now.length j1, .slice J2 (deskRun D ds).1.past.length j2] 26 (0, 0)) := by rw [← hV24]; exact heap_alloc_new _ _
        have hbV : Below w16.heap.size w16 V24 := hba.trans ((hby.trans (hbyz.mono hby.size)).mono hba.size)
        have hBy : w16.heap.size ≤ wy.heap.size := Nat.le_trans hba.size hby.size
        have oz := (oy.below hbyz (Nat.le_refl _)).mono hba.size
        have hbh := hbV
        have oh := oz
        clear hbyz oy oa hby hba oz hbV
        · have hsh := hbh.size
          have hb624 : Below V5.heap.size V5 V24 := hb616.trans (hbh.mono hb616.size)
          obtain ⟨q0, q1⟩ := H6.out V24 hb624
          obtain ⟨q2, q3, -, -⟩ := two_at bh
          go_wp2_with fail
          refine (HE6.out V24 oh.ks hb624).mono ?_
          rintro e w25 ⟨rfl, hb25⟩
          have hb1625 : Below w16.heap.size w16 w25 := hbh.trans (hb25.mono hsh)
          have o25 := o16.below hb1625 (Nat.le_refl _)
          have b25 := (hb1625.block B9 (by omega)).trans b16
          clear q0 q1 q2 q3 o16 b16
          obtain ⟨q2, q3, -, -⟩ := two_at b25
          go_wp2_with fail
          refine (c_heldDesk (deskRun D ds).1 1 _ _ w25 o25.ks p1 p2 p3 (by omega) (by omega)).mono ?_
          rintro e w26 ⟨rfl, hb26⟩
          go_wp2_with fail
          go_ret
          exact ⟨rfl, hx5.trans (((hb616.trans (hb1625.mono hb616.size)).trans (hb26.mono (hb616.trans (hb1625.mono hb616.size)).size)).mono hs5)⟩

end Go.Proofs.Ytpbmehodcllncaa

