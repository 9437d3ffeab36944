/- walks of the laws of chapter 12, second part: FnDeskDo -/
import Derived.Test.YtpbmehodcllncaaJ30
namespace Go.Proofs.Ytpbmehodcllncaa
set_option linter.unusedVariables false
open Go.RowKit
attribute [local go_sem ↓] Go.wp_at_zero Go.wp_at_succ

theorem deed_laid (w : World) (k a b : Int) : ∃ w', w.alloc (.cells #[.int .i64 k, .int .i64 a, .int .i64 b] 40) = w' ∧ w'.heap.size = w.heap.size + 1 ∧ Below w.heap.size w w' ∧ ∀ W, Below w'.heap.size w' W → (W.cell? ⟨w.heap.size, 0, none⟩ = some (.int .i64 k) ∧ W.cell? ⟨w.heap.size, 1, none⟩ = some (.int .i64 a) ∧ W.cell? ⟨w.heap.size, 2, none⟩ = some (.int .i64 b)) := by
  refine ⟨_, rfl, by simp, (Below.refl _ w).alloc (Nat.le_refl _) _, fun W hb => ?_⟩
  have h := (hb.block w.heap.size (by simp)).trans (heap_alloc_new w (.cells #[.int .i64 k, .int .i64 a, .int .i64 b] 40))
  exact ⟨cell_of_row _ _ 0 _ _ _ h, cell_of_row _ _ 1 _ _ _ h, cell_of_row _ _ 2 _ _ _ h⟩

theorem Ks.up {w W : World} {vn vp : Value} {D : KV} (h : Ks w w.heap.size vn vp D) (hb : Below w.heap.size w W) : Ks W W.heap.size vn vp D := (h.below hb).more hb.size
theorem Ks.csn {w : World} {B : Nat} {A : Option Addr} {n c : Nat} {vp : Value} {D : KV} (h : Ks w B (.slice A n c) vp D) : Cs w B A D.now ∧ D.now.length ≤ c := by
  obtain ⟨⟨A1, c1, e1, hc1, hcs⟩, -⟩ := h
  injection e1 with e1 e2 e3
  subst e1 e3
  exact ⟨hcs, hc1⟩
theorem do_small {D : KV} {d : DV} (hs : SmallK D) : SmallK (deskDo D d).1 := by
  cases h : deskOk D with
  | true => exact small_ok (deskDo_ok h)
  | false => rw [do_no h]; exact small_zero

set_option maxRecDepth 8000 in
set_option maxHeartbeats 8000000 in
theorem w_FnDeskDo (A : Option Addr) (n c : Nat) (w : World) (h : Bs w w.heap.size A n) (hc : n ≤ c) :
    Calls Try.prog 5 #[.slice A n c] w fun e w' => e = .returned (.bool true) ∧ Below w.heap.size w w' := by
  by_cases hn : n ≤ 1048576
  · go_enter Try.func5, Try.ntmps5
    go_wp2_with fail
    refine (c_DrawDeskDo A n c _ h hn hc).mono ?_
    rintro e w1 ⟨vn, vp, D, k, a, b, rfl, hD, hk, ha, hb, hb1⟩
    have hs1 := hb1.size
    obtain ⟨X1, x1, X2, x2, rfl, rfl⟩ := hD.now.slices
    obtain ⟨w2, hw2, hz2, hb2, HC2⟩ := desk_laid w1 (.slice X1 D.now.length x1) (.slice X2 D.past.length x2)
    obtain ⟨w3, hw3, hz3, hb3, HC3⟩ := deed_laid w2 k a b
    have hsm := hD.small
    have k1 := hD.now
    have hb13 : Below w1.heap.size w1 w3 := hb2.trans (hb3.mono (by omega))
    have k3 := k1.up hb13
    have hx3 := hb1.trans (hb13.mono hs1)
    have HC2 := Lib.hid (fun W (hb : Below w3.heap.size w3 W) => HC2 W (hb3.trans (hb.mono (by omega))))
    rw [hz2] at HC3
    have HC3 := Lib.hid HC3
    obtain ⟨q0, q1⟩ := HC2.out _ (Below.refl _ w3)
    obtain ⟨q2, q3, q4⟩ := HC3.out _ (Below.refl _ w3)
    have HD1 := Lib.hid (c_iDeskDo D _ _ k a b w3 k3 hsm)
    clear h hD hb1 hb2 hb3 k1
    go_wp2_with fail
    clear hw3 hw2
    refine HD1.out.mono ?_
    rintro e w4 ⟨xn, xp, xs, rfl, o4, hb4⟩
    obtain ⟨Y1, y1, Y2, y2, rfl, rfl⟩ := o4.slices
    have smX := do_small (d := ⟨k, a, b⟩) hsm
    obtain ⟨w5, hw5, hz5, hb5, HC5⟩ := desk_laid w4 (.slice Y1 (deskDo D ⟨k, a, b⟩).1.now.length y1) (.slice Y2 (deskDo D ⟨k, a, b⟩).1.past.length y2)
    have hb35 : Below w3.heap.size w3 w5 := hb4.trans (hb5.mono hb4.size)
    have kx5 := o4.ks.up hb5
    have k5 := k3.up hb35
    have HC5 := Lib.hid HC5
    have HD2 := Lib.hid (c_sDeskDo D _ _ k a b w5 k5 hsm)
    obtain ⟨q5, q6⟩ := HC2.out _ hb35
    obtain ⟨q7, q8, q9⟩ := HC3.out _ hb35
    clear q0 q1 q2 q3 q4 HD1 o4 hb4 hb5 k3
    go_wp2_with fail
    clear hw5 q5 q6 q7 q8 q9
    refine HD2.out.mono ?_
    rintro e w6 ⟨zn, zp, zs, rfl, o6, hb6⟩
    obtain ⟨Z1, z1, Z2, z2, rfl, rfl⟩ := o6.slices
    obtain ⟨w7, hw7, hz7, hb7, HC7⟩ := desk_laid w6 (.slice Z1 (deskDo D ⟨k, a, b⟩).1.now.length z1) (.slice Z2 (deskDo D ⟨k, a, b⟩).1.past.length z2)
    have hb57 : Below w5.heap.size w5 w7 := hb6.trans (hb7.mono hb6.size)
    have kz7 := o6.ks.up hb7
    have k7 := k5.up hb57
    have kx7 := kx5.up hb57
    have hb37 := hb35.trans (hb57.mono hb35.size)
    have HC7 := Lib.hid HC7
    have HS7 := Lib.hid (c_sameDesk _ _ _ _ _ _ w7 kx7 kz7 smX smX)
    obtain ⟨q0, q1⟩ := HC5.out _ hb57
    obtain ⟨q2, q3⟩ := HC7.out _ (Below.refl _ w7)
    clear HD2 o6 hb6 hb7 kx5 k5
    go_wp2_with fail
    clear hw7 q0 q1 q2 q3
    refine HS7.out.mono ?_
    rintro e w8 ⟨rfl, hb8⟩
    rw [eqK_self]
    have hb38 := hb37.trans (hb8.mono hb37.size)
    have hb58 := hb57.trans (hb8.mono hb57.size)
    have k8 := k7.up hb8
    have kx8 := kx7.up hb8
    have hx8 := hx3.trans (hb38.mono (by have := hx3.size; omega))
    clear HS7 HC7 kz7 hb8 k7 kx7
    obtain ⟨q0, q1⟩ := HC2.out _ hb38
    obtain ⟨q2, q3⟩ := HC5.out _ hb58
    obtain ⟨q4, q5, q6⟩ := HC3.out _ hb38
    have hbb : ∀ x : Bool, (x != x) = false := fun x => by cases x <;> rfl
    have hne := hbb (deskDo D ⟨k, a, b⟩).2
    clear hbb
    cases ho : (deskDo D ⟨k, a, b⟩).2 with
    | false =>
      have HSD := Lib.hid (c_sameDesk _ _ _ _ _ _ w8 kx8 k8 smX hsm)
      have HOk := Lib.hid (fun W (hb : Below w8.heap.size w8 W) => c_iDeskOk D _ _ W (k8.up hb) hsm)
      have HC2' := Lib.hid (fun W (hb : Below w8.heap.size w8 W) => HC2.out W (hb38.trans (hb.mono hb38.size)))
      rw [ho] at hne
      clear kx8 k8
      go_wp2_with fail
      refine HSD.out.mono ?_
      rintro e w9 ⟨rfl, hb9⟩
      clear q0 q1 q2 q3 q4 q5 q6
      have hx9 := hx8.trans (hb9.mono hx8.size)
      cases hok : deskOk D with
      | true =>
        have hX : (deskDo D ⟨k, a, b⟩).1 = D := deskDo_not hok ho
        have HE := Lib.hid (show eqK (deskDo D ⟨k, a, b⟩).1 D = true by rw [hX]; exact eqK_self D)
        rw [HE.out]
        clear hX
        go_wp2_with fail
        refine (c_alive _).mono ?_
        rintro e w10 ⟨rfl, hb10⟩
        go_wp2_with fail
        go_ret
        exact ⟨rfl, hx9.trans (hb10.mono hx9.size)⟩
      | false =>
        have HF := Lib.hid hok
        cases he : eqK (deskDo D ⟨k, a, b⟩).1 D with
        | true =>
          go_wp2_with fail
          refine (c_alive _).mono ?_
          rintro e w10 ⟨rfl, hb10⟩
          go_wp2_with fail
          go_ret
          exact ⟨rfl, hx9.trans (hb10.mono hx9.size)⟩
        | false =>
          obtain ⟨q0, q1⟩ := HC2'.out _ hb9
          go_wp2_with fail
          refine (HOk.out _ hb9).mono ?_
          rintro e w10 ⟨rfl, hb10⟩
          rw [HF.out]
          have hx10 := hx9.trans (hb10.mono hx9.size)
          go_wp2_with fail
          refine (c_alive _).mono ?_
          rintro e w11 ⟨rfl, hb11⟩
          go_wp2_with fail
          go_ret
          exact ⟨rfl, hx10.trans (hb11.mono hx10.size)⟩
    | true =>
      have hok : deskOk D = true := by
        cases h : deskOk D with
        | true => rfl
        | false => rw [do_no h] at ho; cases ho
      have hXok := deskDo_ok (d := ⟨k, a, b⟩) hok
      have hneed := desk_need hok ho
      have hundo := desk_undo (d := ⟨k, a, b⟩) hok ho
      have smB := do_small (d := ⟨4, 0, 0⟩) smX
      have HDB := Lib.hid (c_iDeskDo _ _ _ 4 0 0 w8 kx8 smX)
      rw [ho] at hne
      go_wp2_with fail
      refine HDB.out.mono ?_
      rintro e w9 ⟨bn, bp, bs9, rfl, o9, hb9⟩
      obtain ⟨E1, e1, E2, e2, rfl, rfl⟩ := o9.slices
      clear q0 q1 q2 q3 q4 q5 q6 HDB
      obtain ⟨w10, hw10, hz10, hb10, HC10⟩ := desk_laid w9 (.slice E1 (deskDo (deskDo D ⟨k, a, b⟩).1 ⟨4, 0, 0⟩).1.now.length e1) (.slice E2 (deskDo (deskDo D ⟨k, a, b⟩).1 ⟨4, 0, 0⟩).1.past.length e2)
      have hb810 : Below w8.heap.size w8 w10 := hb9.trans (hb10.mono hb9.size)
      have kb10 := o9.ks.up hb10
      have k10 := k8.up hb810
      have kx10 := kx8.up hb810
      have hx10 := hx8.trans (hb810.mono hx8.size)
      have HX10 := Lib.hid hx10
      have HC2' := Lib.hid (fun W (hb : Below w10.heap.size w10 W) => HC2.out W ((hb38.trans (hb810.mono hb38.size)).trans (hb.mono (by have := hb38.size; have := hb810.size; omega))))
      have HC3' := Lib.hid (fun W (hb : Below w10.heap.size w10 W) => HC3.out W ((hb38.trans (hb810.mono hb38.size)).trans (hb.mono (by have := hb38.size; have := hb810.size; omega))))
      have HC5' := Lib.hid (fun W (hb : Below w10.heap.size w10 W) => HC5.out W ((hb58.trans (hb810.mono hb58.size)).trans (hb.mono (by have := hb58.size; have := hb810.size; omega))))
      have HC10 := Lib.hid HC10
      have HN1 := Lib.hid (fun W (hb : Below w10.heap.size w10 W) => c_iNeedOf D.now X1 x1 W (k10.up hb).csn.1 (by have := hsm.1; omega))
      have HN2 := Lib.hid (fun W (hb : Below w10.heap.size w10 W) => c_iNeedOf (deskDo D ⟨k, a, b⟩).1.now Y1 y1 W (kx10.up hb).csn.1 (by have := smX.1; omega))
      have HOk := Lib.hid (fun W (hb : Below w10.heap.size w10 W) => c_iDeskOk (deskDo D ⟨k, a, b⟩).1 _ _ W (kx10.up hb) smX)
      rw [hXok] at HOk
      have HSB := Lib.hid (fun W (hb : Below w10.heap.size w10 W) => c_sameDesk (deskDo (deskDo D ⟨k, a, b⟩).1 ⟨4, 0, 0⟩).1 D _ _ _ _ W (kb10.up hb) (k10.up hb) smB hsm)
      obtain ⟨q0, q1⟩ := HC2'.out _ (Below.refl _ w10)
      clear HC2 HC3 HC5 o9 hb9 hb10 k8 kx8 hb38 hb58 hx8 hx10 kb10 k10 kx10 hb35 hb57 hb37 hx3
      go_wp2_with fail
      clear hw10
      refine (HN1.out _ (Below.refl _ _)).mono ?_
      rintro e w11 ⟨rfl, hb11⟩
      obtain ⟨q2, q3⟩ := HC5'.out _ hb11
      clear q0 q1
      go_wp2_with fail
      refine (HN2.out _ hb11).mono ?_
      rintro e w12 ⟨rfl, hb12⟩
      have hb112 := hb11.trans (hb12.mono hb11.size)
      clear q2 q3 HN1 HN2 hb12
      obtain ⟨q0, q1⟩ := HC2'.out _ hb112
      obtain ⟨q2, q3⟩ := HC5'.out _ hb112
      obtain ⟨q4, q5, q6⟩ := HC3'.out _ hb112
      have HOk12 := HOk.out _ hb112
      clear HOk
      generalize needOf D.now = nd at hneed
      generalize needOf (deskDo D ⟨k, a, b⟩).1.now = nx at hneed
      obtain ⟨hn1, hn2⟩ := hneed
      have HZ := Lib.hid (show w.heap.size ≤ w10.heap.size from HX10.out.size)
      by_cases k4 : k = 4
      · subst k4
        clear hundo hn1 hn2
        go_wp2_with fail
        refine HOk12.mono ?_
        rintro e w13 ⟨rfl, hb13⟩
        have hb113 := hb112.trans (hb13.mono hb112.size)
        clear q0 q1 q2 q3 q4 q5 q6
        obtain ⟨q0, q1⟩ := HC2'.out _ hb113
        obtain ⟨q4, q5, q6⟩ := HC3'.out _ hb113
        obtain ⟨q7, q8⟩ := HC10.out _ hb113
        go_wp2_with fail
        refine (c_alive _).mono ?_
        rintro e w14 ⟨rfl, hb14⟩
        go_wp2_with fail
        go_ret
        exact ⟨rfl, HX10.out.trans ((hb113.trans (hb14.mono hb113.size)).mono HZ.out)⟩
      · have hk4 : (⟨k, a, b⟩ : DV).k ≠ 4 := k4
        by_cases k2 : k = 2
        · subst k2
          have hlt : nd < nx := hn1 (.inr rfl)
          clear hn1 hn2 k4
          by_cases h8 : D.past.length < 8
          · have g8 : decide ((8 : Int) ≤ (D.past.length : Int)) = false := decide_eq_false (by omega)
            have hu := hundo hk4 h8
            have hcan := congrArg Prod.snd hu
            have HEQ := Lib.hid (show eqK (deskDo (deskDo D ⟨2, a, b⟩).1 ⟨4, 0, 0⟩).1 D = true by rw [hu]; exact eqK_self D)
            clear hu hundo
            go_wp2_with fail
            refine HOk12.mono ?_
            rintro e w13 ⟨rfl, hb13⟩
            have hb113 := hb112.trans (hb13.mono hb112.size)
            clear q0 q1 q2 q3 q4 q5 q6
            obtain ⟨q0, q1⟩ := HC2'.out _ hb113
            obtain ⟨q4, q5, q6⟩ := HC3'.out _ hb113
            obtain ⟨q7, q8⟩ := HC10.out _ hb113
            go_wp2_with fail
            refine (HSB.out _ hb113).mono ?_
            rintro e w14 ⟨rfl, hb14⟩
            rw [HEQ.out]
            have hb114 := hb113.trans (hb14.mono hb113.size)
            clear q0 q1 q4 q5 q6 q7 q8
            obtain ⟨q4, q5, q6⟩ := HC3'.out _ hb114
            go_wp2_with fail
            refine (c_alive _).mono ?_
            rintro e w15 ⟨rfl, hb15⟩
            go_wp2_with fail
            go_ret
            exact ⟨rfl, HX10.out.trans ((hb114.trans (hb15.mono hb114.size)).mono HZ.out)⟩
          · have g8 : decide ((8 : Int) ≤ (D.past.length : Int)) = true := decide_eq_true (by omega)
            clear hundo
            go_wp2_with fail
            refine HOk12.mono ?_
            rintro e w13 ⟨rfl, hb13⟩
            have hb113 := hb112.trans (hb13.mono hb112.size)
            clear q0 q1 q2 q3 q4 q5 q6
            obtain ⟨q0, q1⟩ := HC2'.out _ hb113
            obtain ⟨q4, q5, q6⟩ := HC3'.out _ hb113
            obtain ⟨q7, q8⟩ := HC10.out _ hb113
            go_wp2_with fail
            refine (c_alive _).mono ?_
            rintro e w14 ⟨rfl, hb14⟩
            go_wp2_with fail
            go_ret
            exact ⟨rfl, HX10.out.trans ((hb113.trans (hb14.mono hb113.size)).mono HZ.out)⟩
        · by_cases k0 : k = 0
          · subst k0
            have hlt : nd < nx := hn1 (.inl rfl)
            clear hn1 hn2 k4 k2
            by_cases h8 : D.past.length < 8
            · have g8 : decide ((8 : Int) ≤ (D.past.length : Int)) = false := decide_eq_false (by omega)
              have hu := hundo hk4 h8
              have hcan := congrArg Prod.snd hu
              have HEQ := Lib.hid (show eqK (deskDo (deskDo D ⟨0, a, b⟩).1 ⟨4, 0, 0⟩).1 D = true by rw [hu]; exact eqK_self D)
              clear hu hundo
              go_wp2_with fail
              refine HOk12.mono ?_
              rintro e w13 ⟨rfl, hb13⟩
              have hb113 := hb112.trans (hb13.mono hb112.size)
              clear q0 q1 q2 q3 q4 q5 q6
              obtain ⟨q0, q1⟩ := HC2'.out _ hb113
              obtain ⟨q4, q5, q6⟩ := HC3'.out _ hb113
              obtain ⟨q7, q8⟩ := HC10.out _ hb113
              go_wp2_with fail
              refine (HSB.out _ hb113).mono ?_
              rintro e w14 ⟨rfl, hb14⟩
              rw [HEQ.out]
              have hb114 := hb113.trans (hb14.mono hb113.size)
              clear q0 q1 q4 q5 q6 q7 q8
              obtain ⟨q4, q5, q6⟩ := HC3'.out _ hb114
              go_wp2_with fail
              refine (c_alive _).mono ?_
              rintro e w15 ⟨rfl, hb15⟩
              go_wp2_with fail
              go_ret
              exact ⟨rfl, HX10.out.trans ((hb114.trans (hb15.mono hb114.size)).mono HZ.out)⟩
            · have g8 : decide ((8 : Int) ≤ (D.past.length : Int)) = true := decide_eq_true (by omega)
              clear hundo
              go_wp2_with fail
              refine HOk12.mono ?_
              rintro e w13 ⟨rfl, hb13⟩
              have hb113 := hb112.trans (hb13.mono hb112.size)
              clear q0 q1 q2 q3 q4 q5 q6
              obtain ⟨q0, q1⟩ := HC2'.out _ hb113
              obtain ⟨q4, q5, q6⟩ := HC3'.out _ hb113
              obtain ⟨q7, q8⟩ := HC10.out _ hb113
              go_wp2_with fail
              refine (c_alive _).mono ?_
              rintro e w14 ⟨rfl, hb14⟩
              go_wp2_with fail
              go_ret
              exact ⟨rfl, HX10.out.trans ((hb113.trans (hb14.mono hb113.size)).mono HZ.out)⟩
          · by_cases k3 : k = 3
            · subst k3
              have heq : (nx == nd) = true := beq_iff_eq.2 (hn2 rfl)
              clear hn1 hn2 k4 k2 k0
              by_cases h8 : D.past.length < 8
              · have g8 : decide ((8 : Int) ≤ (D.past.length : Int)) = false := decide_eq_false (by omega)
                have hu := hundo hk4 h8
                have hcan := congrArg Prod.snd hu
                have HEQ := Lib.hid (show eqK (deskDo (deskDo D ⟨3, a, b⟩).1 ⟨4, 0, 0⟩).1 D = true by rw [hu]; exact eqK_self D)
                clear hu hundo
                go_wp2_with fail
                refine HOk12.mono ?_
                rintro e w13 ⟨rfl, hb13⟩
                have hb113 := hb112.trans (hb13.mono hb112.size)
                clear q0 q1 q2 q3 q4 q5 q6
                obtain ⟨q0, q1⟩ := HC2'.out _ hb113
                obtain ⟨q4, q5, q6⟩ := HC3'.out _ hb113
                obtain ⟨q7, q8⟩ := HC10.out _ hb113
                go_wp2_with fail
                refine (HSB.out _ hb113).mono ?_
                rintro e w14 ⟨rfl, hb14⟩
                rw [HEQ.out]
                have hb114 := hb113.trans (hb14.mono hb113.size)
                clear q0 q1 q4 q5 q6 q7 q8
                obtain ⟨q4, q5, q6⟩ := HC3'.out _ hb114
                go_wp2_with fail
                refine (c_alive _).mono ?_
                rintro e w15 ⟨rfl, hb15⟩
                go_wp2_with fail
                go_ret
                exact ⟨rfl, HX10.out.trans ((hb114.trans (hb15.mono hb114.size)).mono HZ.out)⟩
              · have g8 : decide ((8 : Int) ≤ (D.past.length : Int)) = true := decide_eq_true (by omega)
                clear hundo
                go_wp2_with fail
                refine HOk12.mono ?_
                rintro e w13 ⟨rfl, hb13⟩
                have hb113 := hb112.trans (hb13.mono hb112.size)
                clear q0 q1 q2 q3 q4 q5 q6
                obtain ⟨q0, q1⟩ := HC2'.out _ hb113
                obtain ⟨q4, q5, q6⟩ := HC3'.out _ hb113
                obtain ⟨q7, q8⟩ := HC10.out _ hb113
                go_wp2_with fail
                refine (c_alive _).mono ?_
                rintro e w14 ⟨rfl, hb14⟩
                go_wp2_with fail
                go_ret
                exact ⟨rfl, HX10.out.trans ((hb113.trans (hb14.mono hb113.size)).mono HZ.out)⟩
            · have f2 : (k != 2) = true := bne_iff_ne.2 k2
              have f0 : (k != 0) = true := bne_iff_ne.2 k0
              have f3 : (k != 3) = true := bne_iff_ne.2 k3
              have f4 : (k == 4) = false := beq_eq_false_iff_ne.2 k4
              clear hn1 hn2 k2 k0 k3
              by_cases h8 : D.past.length < 8
              · have g8 : decide ((8 : Int) ≤ (D.past.length : Int)) = false := decide_eq_false (by omega)
                have hu := hundo hk4 h8
                have hcan := congrArg Prod.snd hu
                have HEQ := Lib.hid (show eqK (deskDo (deskDo D ⟨k, a, b⟩).1 ⟨4, 0, 0⟩).1 D = true by rw [hu]; exact eqK_self D)
                clear hu hundo
                go_wp2_with fail
                refine HOk12.mono ?_
                rintro e w13 ⟨rfl, hb13⟩
                have hb113 := hb112.trans (hb13.mono hb112.size)
                clear q0 q1 q2 q3 q4 q5 q6
                obtain ⟨q0, q1⟩ := HC2'.out _ hb113
                obtain ⟨q4, q5, q6⟩ := HC3'.out _ hb113
                obtain ⟨q7, q8⟩ := HC10.out _ hb113
                go_wp2_with fail
                refine (HSB.out _ hb113).mono ?_
                rintro e w14 ⟨rfl, hb14⟩
                rw [HEQ.out]
                have hb114 := hb113.trans (hb14.mono hb113.size)
                clear q0 q1 q4 q5 q6 q7 q8
                obtain ⟨q4, q5, q6⟩ := HC3'.out _ hb114
                go_wp2_with fail
                refine (c_alive _).mono ?_
                rintro e w15 ⟨rfl, hb15⟩
                go_wp2_with fail
                go_ret
                exact ⟨rfl, HX10.out.trans ((hb114.trans (hb15.mono hb114.size)).mono HZ.out)⟩
              · have g8 : decide ((8 : Int) ≤ (D.past.length : Int)) = true := decide_eq_true (by omega)
                clear hundo
                go_wp2_with fail
                refine HOk12.mono ?_
                rintro e w13 ⟨rfl, hb13⟩
                have hb113 := hb112.trans (hb13.mono hb112.size)
                clear q0 q1 q2 q3 q4 q5 q6
                obtain ⟨q0, q1⟩ := HC2'.out _ hb113
                obtain ⟨q4, q5, q6⟩ := HC3'.out _ hb113
                obtain ⟨q7, q8⟩ := HC10.out _ hb113
                go_wp2_with fail
                refine (c_alive _).mono ?_
                rintro e w14 ⟨rfl, hb14⟩
                go_wp2_with fail
                go_ret
                exact ⟨rfl, HX10.out.trans ((hb113.trans (hb14.mono hb113.size)).mono HZ.out)⟩
  · have hn' : (1048576 : Int) < (n : Int) := by omega
    go_enter Try.func5, Try.ntmps5
    go_wp2_with fail
    go_ret
    exact ⟨rfl, Below.refl _ _⟩

end Go.Proofs.Ytpbmehodcllncaa

