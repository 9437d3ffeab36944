/- impl.workFrom0: a function that yields the times 0, 1, .. 200, each with the work then; the list lies in a box. · impl.WorkAt, by a range over the function of XN1. · impl.ServedBy, by a range over the function of XN1 that breaks. -/
import Derived.Test.YtmimcgjobgfgfaaR
import Derived.Test.YtmimcgjobgfgfaaK1
import Derived.Test.YtmimcgjobgfgfaaR2
namespace Go.Proofs.Ytmimcgjobgfgfaa
set_option linter.unusedVariables false
open Go.RowKit Go.Shelf
attribute [local go_sem] Oper.semAt_some

/-- the work in the midst of a time's arrivals: those up to j have been added -/
def wkTo (L : List (Int × Int)) (t : Nat) (j : Nat) : Int := carry L t + (sumTo L j - sumTo L (cnt L ((t : Int) - 1)))
theorem wkTo_first (L : List (Int × Int)) (t : Nat) : wkTo L t (cnt L ((t : Int) - 1)) = carry L t := by unfold wkTo; omega
theorem wkTo_last {L : List (Int × Int)} (h : cOk L = true) (t : Nat) : wkTo L t (cnt L t) = wk L t := by
  have a := arr_cnt h (t : Int)
  have b := wk_carry L t
  unfold wkTo; omega
theorem wkTo_succ (L : List (Int × Int)) (t j : Nat) : wkTo L t (j + 1) = wkTo L t j + Y L j := by simp only [wkTo, sumTo]; omega
theorem carry_bd {L : List (Int × Int)} (h : cOk L = true) (t : Nat) : 0 ≤ carry L t ∧ carry L t ≤ 72 := by
  cases t with
  | zero => simp [carry]
  | succ u => have := wk_bd h u; simp only [carry]; omega
theorem wkTo_bd {L : List (Int × Int)} (h : cOk L = true) (t j : Nat) (hj : j ≤ L.length) : -72 ≤ wkTo L t j ∧ wkTo L t j ≤ 144 := by
  have := carry_bd h t
  have := sumTo_le h hj
  have := sumTo_le h (cnt_le L ((t : Int) - 1))
  unfold wkTo; omega
theorem cnt_zero {L : List (Int × Int)} (h : cOk L = true) : cnt L (((0 : Nat) : Int) - 1) = 0 := cnt_neg h

end Go.Proofs.Ytmimcgjobgfgfaa

namespace Go.Proofs.Ytmimcgjobgfgfaa
set_option linter.unusedVariables false
open Go.RowKit Go.Shelf
attribute [local go_sem] Oper.semAt_some

theorem momentOk_no {L : List (Int × Int)} {t : Int} (h : cOk L = false) : momentOk L t = false := by simp [momentOk, h]
theorem workV_at {L : List (Int × Int)} (h : cOk L = true) (x : Fin 201) : workV L (x.1 : Int) = wk L x.1 := by
  have hx := x.2
  rw [workV_yes (by simp [momentOk, h]; omega)]; simp
theorem workV_out {L : List (Int × Int)} {t : Int} {ys : List (Fin 201)} (hy : ys.map Fin.val = List.range 201) (h : ∀ x ∈ ys, (x.1 : Int) ≠ t) : workV L t = -1 := by
  refine workV_no ?_
  refine Bool.eq_false_iff.2 fun hm => ?_
  obtain ⟨n, rfl, hn, -⟩ := momentOk_nat hm
  have hmem : n ∈ ys.map Fin.val := by rw [hy]; exact List.mem_range.2 (by omega)
  obtain ⟨x, hx, e⟩ := List.mem_map.1 hmem
  exact h x hx (by rw [e])

end Go.Proofs.Ytmimcgjobgfgfaa

namespace Go.Proofs.Ytmimcgjobgfgfaa
set_option linter.unusedVariables false
open Go.RowKit Go.Shelf
attribute [local go_sem] Oper.semAt_some

/-- the units with work, of the times gone through -/
def srvOf (L : List (Int × Int)) (pre : List Nat) : Int := pre.foldl (fun s t => s + (if 0 < wk L t then 1 else 0)) 0
theorem srvOf_snoc (L : List (Int × Int)) (pre : List Nat) (t : Nat) : srvOf L (pre ++ [t]) = srvOf L pre + (if 0 < wk L t then 1 else 0) := by simp [srvOf]
theorem srvOf_range (L : List (Int × Int)) (k : Nat) : srvOf L (List.range k) = srv L k := by
  induction k with
  | zero => rfl
  | succ k ih => rw [List.range_succ, srvOf_snoc, ih]; rfl
theorem srvOf_bd (L : List (Int × Int)) (pre : List Nat) : 0 ≤ srvOf L pre ∧ srvOf L pre ≤ pre.length := by
  have key : ∀ n, ∀ pre : List Nat, pre.length = n → 0 ≤ srvOf L pre ∧ srvOf L pre ≤ pre.length := by
    intro n
    induction n with
    | zero => intro pre hp; rw [List.eq_nil_of_length_eq_zero hp]; simp [srvOf]
    | succ n ih =>
      intro pre hp
      rcases List.eq_nil_or_concat pre with rfl | ⟨pre', x, rfl⟩
      · simp at hp
      · rw [List.concat_eq_append] at hp ⊢
        have i := ih pre' (by simpa using hp)
        rw [srvOf_snoc, List.length_append]
        split <;> simp <;> omega
  exact key _ pre rfl

end Go.Proofs.Ytmimcgjobgfgfaa

