/- spec.SwappedAt (ahead of the landing) -/
import Derived.Test.YtckebkaaokfonaaK13
import Derived.Test.YtckebkaaokfonaaO2
import Derived.Test.YtckebkaaokfonaaG
namespace Go.Proofs.Ytckebkaaokfonaa
set_option linter.unusedVariables false
open Go.RowKit
attribute [local go_sem ↓] Go.wp_at_zero Go.wp_at_succ

def swapV (v : Value) (b : Bool) : Value := .tuple #[v, .bool b]

set_option maxRecDepth 4000 in
set_option maxHeartbeats 4000000 in
theorem c_sSwappedAt (o : List Int) (O : Option Addr) (d : Nat) (t : Int) (w : World) (hO : Is w w.heap.size O o) (ho : o.length ≤ 1000000000) :
    Calls Try.prog 35 #[.slice O o.length d, .int .i64 t] w fun e w' => ∃ v, e = .returned (swapV v (swapOk o t)) ∧ IO w' w.heap.size v (swapR o t) ∧ Below w.heap.size w w' := by
  have hw2 : IntKind.i64.wrap ((o.length : Int) - 2) = (o.length : Int) - 2 := IntWalk.i64_in _ (by omega)
  have HE := Lib.hid (c_sEachOnce o O d (o.length : Int) w hO (by omega))
  have HI := Lib.hid (fun W => c_l1In t 0 ((o.length : Int) - 2) W)
  cases he : eachV o (o.length : Int) with
  | true =>
    by_cases ht : 0 ≤ t ∧ t ≤ (o.length : Int) - 2
    · obtain ⟨k, rfl⟩ := Int.eq_ofNat_of_zero_le ht.1
      have hk : k + 1 < o.length := by omega
      have hok : swapOk o (k : Int) = true := by simp [swapOk, he, ht]
      have H := Lib.hid hok
      have HR := Lib.hid (show swapR o (k : Int) = (o.set k (Z o (k + 1))).set (k + 1) (Z o k) by rw [swapR_yes hok]; rfl)
      have H1 := Lib.hid he
      have H2 := Lib.hid (decide_eq_true ht)
      clear hok he ht
      go_enter Try.func35, Try.ntmps35
      go_wp2_with fail
      refine HE.out.mono ?_
      rintro e w1 ⟨rfl, hb1⟩
      rw [H1.out]
      have hs1 := hb1.size
      have hO1 := (hO.below hb1).more hs1
      go_wp2_with fail
      refine (HI.out _).mono ?_
      rintro e w' ⟨rfl, rfl⟩
      rw [H2.out]
      have ho0 := IO.empty w' (Nat.le_refl w'.heap.size)
      have hO2 := hO1.below (show Below w'.heap.size w' (w'.alloc (.cells #[] 3)) by (repeat (first | exact rfl | exact Below.refl _ _ | (with_reducible refine Below.drew ?_) | (with_reducible refine Below.drewN ?_ _) | (with_reducible refine Below.alloc ?_ ?_ _) | (with_reducible refine Below.setCell ?_ ?_ _) | (show _ ≤ _; focus (first | omega | (simp; done) | (simp; omega))))))
      go_wp2_with (refine app_II ?_ (.tmp 22) (.tmp 23) ?_ w'.heap.size (.slice (some ⟨w'.heap.size, 0, none⟩) 0 0) [] o O d w'.heap.size ?_ ?_ ?_ ?_ ?_ ?_ ?_; rfl; rfl; rfl; exact ho0; rfl; exact hO2; (simp; omega); simp; intro G cap w7 hown hgr hb7)
      rw [List.nil_append] at hown
      rw [show ([] : List Int).length + o.length = o.length by simp] at hown
      obtain ⟨G', g, e, -, hG⟩ := hown.formG
      injection e with e1 _ e3
      subst e1 e3
      obtain ⟨gb, rfl, -, hgl, -⟩ := hG (by omega)
      obtain ⟨-, hcl, hfr⟩ := hown.cells
      have c0 := hcl k (by omega)
      have c1 := hcl (k + 1) hk
      have f0 := hfr k
      have f1 := hfr (k + 1)
      have p0 : (0 : Int) ≤ (k : Int) := by omega
      have p1 : (k : Int) < (o.length : Int) := by omega
      have p2 : (0 : Int) ≤ (k : Int) + 1 := by omega
      have p3 : (k : Int) + 1 < (o.length : Int) := by omega
      have p4 : ((k : Int) + 1).toNat = k + 1 := by omega
      have hst := (hown.store k (Z o (k + 1))).store (k + 1) (Z o k)
      obtain ⟨-, hcl2, hfr2⟩ := (hown.store k (Z o (k + 1))).cells
      have c3 := hcl2 (k + 1) (by omega)
      have f3 := hfr2 (k + 1)
      rw [← HR.out] at hst
      clear hcl hfr hcl2 hfr2 hG
      go_wp2_with fail
      go_ret2
      have hgs := (grown_set w7 gb k (.int .i64 (Z o (k + 1)))).trans (grown_set _ gb (k + 1) (.int .i64 (Z o k)))
      have hbs := ((Below.refl w'.heap.size w').trans (show Below w'.heap.size w' (w'.alloc (.cells #[] 3)) by (repeat (first | exact rfl | exact Below.refl _ _ | (with_reducible refine Below.drew ?_) | (with_reducible refine Below.drewN ?_ _) | (with_reducible refine Below.alloc ?_ ?_ _) | (with_reducible refine Below.setCell ?_ ?_ _) | (show _ ≤ _; focus (first | omega | (simp; done) | (simp; omega))))))).trans hb7
      refine ⟨.slice (some ⟨gb, 0, none⟩) o.length cap, by rw [H.out]; rfl, hst.mono hs1, ?_⟩
      exact hb1.trans ((hbs.trans ((Below.refl _ _).grown hgs hbs.size (owns_base hown))).mono hs1)
    · have hok : swapOk o t = false := by simp [swapOk, ht]
      have H := Lib.hid hok
      have HR := Lib.hid (swapR_no hok)
      have H1 := Lib.hid he
      have H2 := Lib.hid (decide_eq_false ht)
      clear hok he ht
      go_enter Try.func35, Try.ntmps35
      go_wp2_with fail
      refine HE.out.mono ?_
      rintro e w1 ⟨rfl, hb1⟩
      rw [H1.out]
      have hs1 := hb1.size
      go_wp2_with fail
      refine (HI.out _).mono ?_
      rintro e w' ⟨rfl, rfl⟩
      rw [H2.out]
      go_wp2_with fail
      go_ret2
      exact ⟨_, by rw [H.out]; rfl, by rw [HR.out]; exact (IO.empty w' (Nat.le_refl _)).mono hs1, hb1.trans ((show Below w'.heap.size w' (w'.alloc (.cells #[] 3)) by (repeat (first | exact rfl | exact Below.refl _ _ | (with_reducible refine Below.drew ?_) | (with_reducible refine Below.drewN ?_ _) | (with_reducible refine Below.alloc ?_ ?_ _) | (with_reducible refine Below.setCell ?_ ?_ _) | (show _ ≤ _; focus (first | omega | (simp; done) | (simp; omega)))))).mono hs1)⟩
  | false =>
    have hok : swapOk o t = false := by simp [swapOk, he]
    have H := Lib.hid hok
    have HR := Lib.hid (swapR_no hok)
    have H1 := Lib.hid he
    clear hok he
    go_enter Try.func35, Try.ntmps35
    go_wp2_with fail
    refine HE.out.mono ?_
    rintro e w' ⟨rfl, hb1⟩
    rw [H1.out]
    have hs1 := hb1.size
    go_wp2_with fail
    go_ret2
    exact ⟨_, by rw [H.out]; rfl, by rw [HR.out]; exact (IO.empty w' (Nat.le_refl _)).mono hs1, hb1.trans ((show Below w'.heap.size w' (w'.alloc (.cells #[] 3)) by (repeat (first | exact rfl | exact Below.refl _ _ | (with_reducible refine Below.drew ?_) | (with_reducible refine Below.drewN ?_ _) | (with_reducible refine Below.alloc ?_ ?_ _) | (with_reducible refine Below.setCell ?_ ?_ _) | (show _ ≤ _; focus (first | omega | (simp; done) | (simp; omega)))))).mono hs1)⟩

end Go.Proofs.Ytckebkaaokfonaa

