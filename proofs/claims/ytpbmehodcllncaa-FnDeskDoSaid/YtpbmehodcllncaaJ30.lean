/- walks of the laws of chapter 12, first part: FnDeskOk, FnDeskNew -/
import Derived.Test.YtpbmehodcllncaaKU
import Derived.Test.YtpbmehodcllncaaI13
import Derived.Test.YtpbmehodcllncaaK37
namespace Go.Proofs.Ytpbmehodcllncaa
set_option linter.unusedVariables false
open Go.RowKit
attribute [local go_sem ↓] Go.wp_at_zero Go.wp_at_succ

theorem cOk_zero : cOk [(0, 0)] = false := by decide
theorem ks_now {w : World} {B : Nat} {A : Option Addr} {L : List (Int × Int)} {c : Nat} (h : Cs w B A L) (hc : L.length ≤ c) : Ks w B (.slice A L.length c) (.slice none 0 0) ⟨L, []⟩ := ⟨⟨A, c, rfl, hc, h⟩, none, 0, rfl, Nat.le_refl _, Css.nil _ _ _⟩

set_option maxRecDepth 8000 in
set_option maxHeartbeats 4000000 in
theorem w_FnDeskOk (A : Option Addr) (n c : Nat) (w : World) (h : Bs w w.heap.size A n) (hc : n ≤ c) :
    Calls Try.prog 3 #[.slice A n c] w fun e w' => e = .returned (.bool true) ∧ Below w.heap.size w w' := by
  by_cases hn : n ≤ 1048576
  · go_enter Try.func3, Try.ntmps3
    go_wp2_with fail
    refine (c_DrawDeskOk A n c _ h hn hc).mono ?_
    rintro e w1 ⟨vn, vp, D, rfl, hD, hb1⟩
    have hs1 := hb1.size
    obtain ⟨X1, x1, X2, x2, rfl, rfl⟩ := hD.now.slices
    obtain ⟨w2, hw2⟩ : ∃ z, w1.alloc (.cells #[.slice X1 D.now.length x1, .slice X2 D.past.length x2] 26) = z := ⟨_, rfl⟩
    have hb2 : Below w1.heap.size w1 w2 := by rw [← hw2]; exact (Below.refl _ w1).alloc (Nat.le_refl _) _
    have bD : w2.heap[w1.heap.size]? = some (.cells #[.slice X1 D.now.length x1, .slice X2 D.past.length x2] 26 (0, 0)) := by rw [← hw2]; exact heap_alloc_new _ _
    have hz2 : w2.heap.size = w1.heap.size + 1 := by rw [← hw2]; simp
    have hsm := hD.small
    have hK2 := (hD.below hb2 (Nat.le_refl _)).now
    have hx2 := hb1.trans (hb2.mono hs1)
    have HC := Lib.hid (fun W (hb : Below w2.heap.size w2 W) => two_at ((hb.block w1.heap.size (by omega)).trans bD))
    have HI := Lib.hid (fun W (hb : Below w2.heap.size w2 W) => c_iDeskOk D _ _ W ((hK2.below hb).more hb.size) hsm)
    have HS := Lib.hid (fun W (hb : Below w2.heap.size w2 W) => c_sDeskOk D _ _ W ((hK2.below hb).more hb.size) hsm)
    have HN := Lib.hid (fun (ho : deskOk D = true) W (hb : Below w2.heap.size w2 W) => show Calls Try.prog 12 #[.agg #[.slice X1 D.now.length x1, .slice none 0 0]] W fun e w' => e = .returned (.bool true) ∧ Below W.heap.size W w' from by
      obtain ⟨⟨A1, c1, e1, hc1, hcs⟩, -⟩ := (hK2.below hb).more hb.size
      injection e1 with e1 e2 e3
      subst e1 e3
      have K := c_iDeskOk ⟨D.now, []⟩ _ _ W (ks_now hcs hc1) ⟨hsm.1, by simp, fun k hk => by simp at hk⟩
      rw [deskOk_now ho] at K
      exact K)
    have HZ := Lib.hid (fun (W : World) => show Calls Try.prog 12 #[.agg #[.slice (some ⟨W.heap.size, 0, none⟩) 1 1, .slice none 0 0]] (W.alloc (.cells #[.int .i64 0, .int .i64 0] 30)) fun e w' => e = .returned (.bool false) ∧ Below (W.alloc (.cells #[.int .i64 0, .int .i64 0] 30)).heap.size (W.alloc (.cells #[.int .i64 0, .int .i64 0] 30)) w' from by
      have K := c_iDeskOk ⟨[(0, 0)], []⟩ _ _ (W.alloc (.cells #[.int .i64 0, .int .i64 0] 30)) (ks_now (c := 1) (cells1 W 0 0) (by simp)) ⟨by simp, by simp, fun k hk => by simp at hk⟩
      have e : deskOk ⟨[(0, 0)], []⟩ = false := by decide
      rw [e] at K
      exact K)
    clear h hD hK2 bD hb1
    obtain ⟨q0, q1, -, -⟩ := HC.out _ (Below.refl _ w2)
    go_wp2_with fail
    clear hw2
    refine (HI.out _ (Below.refl _ _)).mono ?_
    rintro e w3 ⟨rfl, hb3⟩
    obtain ⟨q2, q3, -, -⟩ := HC.out _ hb3
    clear q0 q1
    have hne : (deskOk D != deskOk D) = false := by simp
    go_wp2_with fail
    refine (HS.out _ hb3).mono ?_
    rintro e w4 ⟨rfl, hb4⟩
    have hx4 := hb3.trans (hb4.mono hb3.size)
    obtain ⟨q4, q5, -, -⟩ := HC.out _ hx4
    clear q2 q3
    cases ho : deskOk D with
    | true =>
      go_wp2_with fail
      refine (HN.out ho _ hx4).mono ?_
      rintro e w5 ⟨rfl, hb5⟩
      have hx5 := hx4.trans (hb5.mono hx4.size)
      go_wp2_with fail
      refine (HZ.out _).mono ?_
      rintro e w6 ⟨rfl, hb6⟩
      have hx6 : Below w2.heap.size w2 w6 := (hx5.alloc hx5.size _).trans (hb6.mono (by have := hx5.size; simp; omega))
      go_wp2_with fail
      refine (c_alive _).mono ?_
      rintro e w7 ⟨rfl, hb7⟩
      go_wp2_with fail
      go_ret
      exact ⟨rfl, hx2.trans ((hx6.trans (hb7.mono hx6.size)).mono (by omega))⟩
    | false =>
      go_wp2_with fail
      refine (HZ.out _).mono ?_
      rintro e w6 ⟨rfl, hb6⟩
      have hx6 : Below w2.heap.size w2 w6 := (hx4.alloc hx4.size _).trans (hb6.mono (by have := hx4.size; simp; omega))
      go_wp2_with fail
      refine (c_alive _).mono ?_
      rintro e w7 ⟨rfl, hb7⟩
      go_wp2_with fail
      go_ret
      exact ⟨rfl, hx2.trans ((hx6.trans (hb7.mono hx6.size)).mono (by omega))⟩
  · have hn' : (1048576 : Int) < (n : Int) := by omega
    go_enter Try.func3, Try.ntmps3
    go_wp2_with fail
    go_ret
    exact ⟨rfl, Below.refl _ _⟩

/-- a desk's block behind w: what is read of it, in whatever world that keeps what lay there -/
theorem desk_laid (w : World) (x y : Value) : ∃ w', w.alloc (.cells #[x, y] 26) = w' ∧ w'.heap.size = w.heap.size + 1 ∧ Below w.heap.size w w' ∧ ∀ W, Below w'.heap.size w' W → (W.cell? ⟨w.heap.size, 0, none⟩ = some x ∧ W.cell? ⟨w.heap.size, 1, none⟩ = some y) := by
  refine ⟨_, rfl, by simp, (Below.refl _ w).alloc (Nat.le_refl _) _, fun W hb => ?_⟩
  have h := two_at ((hb.block w.heap.size (by simp)).trans (heap_alloc_new w (.cells #[x, y] 26)))
  exact ⟨h.1, h.2.1⟩
theorem small_new {L : List (Int × Int)} : SmallK (newV L) := small_ok (deskOk_new L)

set_option maxRecDepth 8000 in
set_option maxHeartbeats 4000000 in
theorem w_FnDeskNew (A : Option Addr) (n c : Nat) (w : World) (h : Bs w w.heap.size A n) (hc : n ≤ c) :
    Calls Try.prog 4 #[.slice A n c] w fun e w' => e = .returned (.bool true) ∧ Below w.heap.size w w' := by
  by_cases hn : n ≤ 1048576
  · go_enter Try.func4, Try.ntmps4
    go_wp2_with fail
    refine (c_DrawDeskNew A n c _ h hn hc).mono ?_
    rintro e w1 ⟨L, v, rfl, hv, hl, -, hb1⟩
    have hs1 := hb1.size
    obtain ⟨G, g, rfl, hcap, -, hG⟩ := hv.form
    clear hv h
    go_wp2_with fail
    refine (c_iDeskNew L G g w1 hG hcap (by omega)).mono ?_
    rintro e w2 ⟨vn, vp, vs, rfl, o2, hb2⟩
    have hs2 := hb2.size
    have hx2 := hb1.trans (hb2.mono hs1)
    obtain ⟨N1, n1, N2, n2, rfl, rfl⟩ := o2.slices
    obtain ⟨w3, hw3, hz3, hb3, HC3⟩ := desk_laid w2 (.slice N1 (newV L).now.length n1) (.slice N2 (newV L).past.length n2)
    have k3 := (o2.ks.below hb3).more (show w2.heap.size ≤ w3.heap.size by omega)
    have g3 := ((hG.below hb2).more hs2).below hb3 |>.more (show w2.heap.size ≤ w3.heap.size by omega)
    have hx3 := hx2.trans (hb3.mono (by omega))
    have HC3 := Lib.hid HC3
    clear o2 hb2 hG hb1
    go_wp2_with fail
    clear hw3
    refine (c_sDeskNew L G g w3 g3 (by omega)).mono ?_
    rintro e w4 ⟨un, up, us, rfl, o4, hb4⟩
    have hs4 := hb4.size
    have hx4 := hx3.trans (hb4.mono (by omega))
    obtain ⟨M1, m1, M2, m2, rfl, rfl⟩ := o4.slices
    obtain ⟨w5, hw5, hz5, hb5, HC5⟩ := desk_laid w4 (.slice M1 (newV L).now.length m1) (.slice M2 (newV L).past.length m2)
    have hb35 : Below w3.heap.size w3 w5 := hb4.trans (hb5.mono hs4)
    have k5 := (k3.below hb35).more hb35.size
    have l5 := (o4.ks.below hb5).more (show w4.heap.size ≤ w5.heap.size by omega)
    have g5 := (g3.below hb35).more hb35.size
    have hx5 := hx4.trans (hb5.mono (by omega))
    have HC5 := Lib.hid HC5
    have HX5 := Lib.hid hx5
    clear o4 k3 g3 hx2 hx3 hx4 hb3
    obtain ⟨q0, q1⟩ := HC3.out _ hb35
    obtain ⟨q2, q3⟩ := HC5.out _ (Below.refl _ _)
    have HA := Lib.hid (fun W (hb : Below w5.heap.size w5 W) => c_sameDesk (newV L) (newV L) _ _ _ _ W ((k5.below hb).more hb.size) ((l5.below hb).more hb.size) small_new small_new)
    have H3 := Lib.hid (fun W (hb : Below w5.heap.size w5 W) => HC3.out W (hb35.trans (hb.mono hb35.size)))
    have HO := Lib.hid (fun W (hb : Below w5.heap.size w5 W) => c_iDeskOk (newV L) _ _ W ((k5.below hb).more hb.size) small_new)
    have HN := Lib.hid (fun W (hb : Below w5.heap.size w5 W) => c_noDesk (newV L) _ _ W ((k5.below hb).more hb.size) small_new)
    have HK := Lib.hid (fun W (hb : Below w5.heap.size w5 W) => c_iCustomersOk L G g W ((g5.below hb).more hb.size) (by omega))
    have HE := Lib.hid (fun (hn : (newV L).now = L) W (hb : Below w5.heap.size w5 W) => show Calls Try.prog 21 #[.slice N1 (newV L).now.length n1, .slice G L.length g] W fun e w' => e = .returned (.bool true) ∧ Below W.heap.size W w' from by
      obtain ⟨⟨A1, c1, e1, hc1, hcs⟩, -⟩ := (k5.below hb).more hb.size
      injection e1 with e1 e2 e3
      subst e1 e3
      have K := c_sameCus (newV L).now L N1 G W.heap.size W.heap.size n1 g W hcs ((g5.below hb).more hb.size) (by have := (small_new (L := L)).1; omega) (by omega)
      rw [hn, decide_eq_true rfl] at K
      rw [hn]
      exact K)
    clear k5 l5 g5 hb4 hb5 hb35
    go_wp2_with fail
    clear hw5 q0 q1 q2 q3
    refine (HA.out _ (Below.refl _ _)).mono ?_
    rintro e w6 ⟨rfl, hb6⟩
    rw [eqK_self]
    obtain ⟨q0, q1⟩ := H3.out _ hb6
    cases ho : cOk L with
    | true =>
      have hnow : (newV L).now = L := by rw [newV_yes ho]
      have hpast : (newV L).past.length = 0 := by rw [newV_yes ho]; rfl
      have HP := Lib.hid hpast
      have HNw := Lib.hid hnow
      have hpz : (((newV L).past.length : Int) == 0) = true := beq_iff_eq.2 (by omega)
      have HOk := Lib.hid (deskOk_new L)
      clear ho hnow hpast
      go_wp2_with fail
      refine (HO.out _ hb6).mono ?_
      rintro e w7 ⟨rfl, hb7⟩
      rw [HOk.out]
      have hx7 := hb6.trans (hb7.mono hb6.size)
      obtain ⟨q2, q3⟩ := H3.out _ hx7
      clear q0 q1
      go_wp2_with fail
      refine (HE.out HNw.out _ hx7).mono ?_
      rintro e w8 ⟨rfl, hb8⟩
      have hx8 := hx7.trans (hb8.mono hx7.size)
      obtain ⟨q4, q5⟩ := H3.out _ hx8
      clear q2 q3
      go_wp2_with fail
      refine (c_alive _).mono ?_
      rintro e w9 ⟨rfl, hb9⟩
      go_wp2_with fail
      go_ret
      exact ⟨rfl, HX5.out.trans ((hx8.trans (hb9.mono hx8.size)).mono (by omega))⟩
    | false =>
      have hnk : eqK (newV L) noK = true := by rw [newV_no ho]; exact eqK_self _
      have HNk := Lib.hid hnk
      have HOc := Lib.hid ho
      clear ho hnk
      go_wp2_with fail
      refine (HN.out _ hb6).mono ?_
      rintro e w7 ⟨rfl, hb7⟩
      rw [HNk.out]
      have hx7 := hb6.trans (hb7.mono hb6.size)
      go_wp2_with fail
      refine (HK.out _ hx7).mono ?_
      rintro e w8 ⟨rfl, hb8⟩
      rw [HOc.out]
      have hx8 := hx7.trans (hb8.mono hx7.size)
      go_wp2_with fail
      refine (c_alive _).mono ?_
      rintro e w9 ⟨rfl, hb9⟩
      go_wp2_with fail
      go_ret
      exact ⟨rfl, HX5.out.trans ((hx8.trans (hb9.mono hx8.size)).mono (by omega))⟩
  · have hn' : (1048576 : Int) < (n : Int) := by omega
    go_enter Try.func4, Try.ntmps4
    go_wp2_with fail
    go_ret
    exact ⟨rfl, Below.refl _ _⟩

end Go.Proofs.Ytpbmehodcllncaa

