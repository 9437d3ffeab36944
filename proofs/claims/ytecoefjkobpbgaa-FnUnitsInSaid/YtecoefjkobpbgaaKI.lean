/- The methods of busyPeriod; slices of periods that a call owns; withPeriod · impl.busyPeriods, by a range over the function of XN1 that merges periods. · impl.BusyOf · impl.ComeIn · The contracts of chapter 3's functions of the program: XN2 (WorkAt), XN3 (ServedBy), XN6 (BusyOf), XN7 (ComeIn). -/
import Derived.Test.YtecoefjkobpbgaaN1
import Derived.Test.YtecoefjkobpbgaaK1
import Derived.Test.YtecoefjkobpbgaaV1
namespace Go.Proofs.Ytecoefjkobpbgaa
set_option linter.unusedVariables false
open Go.RowKit
attribute [local go_sem ↓] Go.wp_at_zero Go.wp_at_succ

theorem grown_via {w w5 w7 : World} {row : Option Nat} (hb : Below w.heap.size w w5) (h : w5.grownBy w7 row) : w.grownBy w7 row :=
  ⟨h.os.trans hb.os, h.tape.trans hb.tape, h.output.trans hb.output, Nat.le_trans hb.size h.size, fun k hk hne => (h.block k (Nat.lt_of_lt_of_le hk hb.size) hne).trans (hb.block k hk)⟩

end Go.Proofs.Ytecoefjkobpbgaa

namespace Go.Proofs.Ytecoefjkobpbgaa
set_option linter.unusedVariables false
open Go.RowKit Go.Shelf
attribute [local go_sem] Oper.semAt_some

def busyOf (L : List (Int × Int)) (pre : List Nat) : List (Int × Int) := pre.foldl (fun B t => if wk L t = 0 then B else busyNext B t) []
theorem busyOf_snoc (L : List (Int × Int)) (pre : List Nat) (t : Nat) : busyOf L (pre ++ [t]) = if wk L t = 0 then busyOf L pre else busyNext (busyOf L pre) t := by simp [busyOf]
theorem busyOf_range (L : List (Int × Int)) (k : Nat) : busyOf L (List.range k) = busyT L k := by
  induction k with
  | zero => rfl
  | succ k ih => rw [List.range_succ, busyOf_snoc, ih]; rfl
theorem busyNext_len (B : List (Int × Int)) (t : Int) : (busyNext B t).length ≤ B.length + 1 := by
  simp only [busyNext]
  split
  · rw [List.length_set]; omega
  · simp
theorem busyOf_len (L : List (Int × Int)) (pre : List Nat) : (busyOf L pre).length ≤ pre.length := by
  have key : ∀ n, ∀ pre : List Nat, pre.length = n → (busyOf L pre).length ≤ pre.length := by
    intro n
    induction n with
    | zero => intro pre hp; rw [List.eq_nil_of_length_eq_zero hp]; simp [busyOf]
    | succ n ih =>
      intro pre hp
      rcases List.eq_nil_or_concat pre with rfl | ⟨pre', x, rfl⟩
      · simp at hp
      · rw [List.concat_eq_append] at hp ⊢
        have i := ih pre' (by simpa using hp)
        rw [busyOf_snoc, List.length_append]
        have := busyNext_len (busyOf L pre') x
        split <;> simp <;> omega
  exact key _ pre rfl
theorem busyOf_all {L : List (Int × Int)} (h : cOk L = true) : busyOf L (List.range 201) = busyP L := by
  have hl := lastLeave_bd h
  have e := wk_end h (t := 200) (by omega)
  rw [busyOf_range, busyP_yes h]
  show (if wk L 200 = 0 then busyT L 200 else busyNext (busyT L 200) 200) = _
  rw [if_pos e]

end Go.Proofs.Ytecoefjkobpbgaa

namespace Go.Proofs.Ytecoefjkobpbgaa
set_option linter.unusedVariables false
open Go.RowKit
attribute [local go_sem ↓] Go.wp_at_zero Go.wp_at_succ

theorem rows_take {B : List (Int × Int)} {k : Nat} (h : k < B.length) : rows (B.take (k + 1)) = rows (B.take k) ++ [[X B k, Y B k]] := by
  have e : B.take (k + 1) = B.take k ++ [B[k]] := by rw [List.take_add_one]; simp [h]
  rw [e, rows_app]
  simp [X, Y, h]

end Go.Proofs.Ytecoefjkobpbgaa

namespace Go.Proofs.Ytecoefjkobpbgaa
set_option linter.unusedVariables false
open Go.RowKit
attribute [local go_sem ↓] Go.wp_at_zero Go.wp_at_succ

end Go.Proofs.Ytecoefjkobpbgaa

namespace Go.Proofs.Ytecoefjkobpbgaa
set_option linter.unusedVariables false

end Go.Proofs.Ytecoefjkobpbgaa

