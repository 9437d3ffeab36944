/- spec.l3Work, spec.WorkAt, spec.ServedBy · spec.BusyOf · spec.ComeIn -/
import Derived.Test.YtecoefjkobpbgaaB
import Derived.Test.YtecoefjkobpbgaaO
import Derived.Test.YtecoefjkobpbgaaM
namespace Go.Proofs.Ytecoefjkobpbgaa
set_option linter.unusedVariables false
open Go.RowKit
attribute [local go_sem ↓] Go.wp_at_zero Go.wp_at_succ

theorem Z_workTo {L : List (Int × Int)} {n k : Nat} (h : k < n) : Z (workTo L n) k = wk L k := by simp [Z, workTo, h]

end Go.Proofs.Ytecoefjkobpbgaa

namespace Go.Proofs.Ytecoefjkobpbgaa
set_option linter.unusedVariables false
open Go.RowKit
attribute [local go_sem ↓] Go.wp_at_zero Go.wp_at_succ

def rows (B : List (Int × Int)) : List (List Int) := B.map fun c => [c.1, c.2]
theorem rows_len (B : List (Int × Int)) : (rows B).length = B.length := by simp [rows]
theorem rows_app (B : List (Int × Int)) (c : Int × Int) : rows (B ++ [c]) = rows B ++ [[c.1, c.2]] := by simp [rows]
theorem rows_set (B : List (Int × Int)) (n : Nat) (c : Int × Int) : rows (B.set n c) = (rows B).set n [c.1, c.2] := by simp [rows]
theorem rows_get {B : List (Int × Int)} {k : Nat} (h : k < B.length) : (rows B).getD k [] = [X B k, Y B k] := by simp [rows, X, Y, h]
theorem heap_new2' (w : World) (o p : Obj) : ((w.alloc o).alloc p).heap[w.heap.size + 1]? = some p := by
  have h := heap_alloc_new (w.alloc o) p
  rwa [show (w.alloc o).heap.size = w.heap.size + 1 by simp] at h
theorem alloc_setLow (w : World) (o : Obj) (g k : Nat) (u : Value) (h : g < w.heap.size) : (w.alloc o).setCell ⟨g, k, none⟩ u = (w.setCell ⟨g, k, none⟩ u).alloc o := by
  simp only [World.alloc, World.setCell]
  congr 1
  apply Array.ext_getElem?
  intro i
  simp only [Array.getElem?_modify, Array.getElem?_push, Array.size_modify]
  by_cases e : i = w.heap.size
  · subst e; simp; omega
  · simp [e]
theorem IO.lit2 (w : World) {base : Nat} (hb : base ≤ w.heap.size) (x y : Int) : IO (w.alloc (.cells #[.int .i64 x, .int .i64 y] 3)) base (.slice (some ⟨w.heap.size, 0, none⟩) 2 2) [x, y] :=
  ⟨rfl, .inr ⟨w.heap.size, 2, #[.int .i64 x, .int .i64 y], rfl, hb, heap_alloc_new _ _, Nat.le_refl _, by simp [maxLen], rfl, rfl⟩⟩
theorem Mid.setOut {lo hi g k : Nat} {w1 w : World} {u : Value} (h : Mid lo hi w1 w) (hg : g = lo ∨ hi ≤ g) : Mid lo hi w1 (w.setCell ⟨g, k, none⟩ u) := fun b h1 h2 =>
  (Below.heap_setCell _ _ _ _ (by show b ≠ g; omega)).trans (h b h1 h2)
/-- a row of the busy periods: its header and its two numbers -/
theorem IOO.pair {w : World} {base : Nat} {v : Value} {B : List (Int × Int)} {vs : List Value} (h : IOO w base v (rows B) vs) {k : Nat} (hk : k < B.length) :
    ∃ ib ic, vs.getD k undef = .slice (some ⟨ib, 0, none⟩) 2 ic ∧ base ≤ ib ∧ ib < w.heap.size ∧ w.cell? ⟨ib, 0, none⟩ = some (.int .i64 (X B k)) ∧ w.cell? ⟨ib, 1, none⟩ = some (.int .i64 (Y B k)) := by
  have hi := h.inner k (by rw [rows_len]; exact hk)
  rw [rows_get hk] at hi
  obtain ⟨A, c, hv, _, hc⟩ := hi.formG
  obtain ⟨ib, rfl, h1, h2, h3⟩ := hc (by simp)
  exact ⟨ib, c, hv, h1, h2, h3 0 (by simp), h3 1 (by simp)⟩

end Go.Proofs.Ytecoefjkobpbgaa

namespace Go.Proofs.Ytecoefjkobpbgaa
set_option linter.unusedVariables false
open Go.RowKit
attribute [local go_sem ↓] Go.wp_at_zero Go.wp_at_succ

def perOk (L : List (Int × Int)) (t : Int) : Bool := decide (0 ≤ t ∧ t ≤ ((busyP L).length : Int) - 1)
def comeR (L : List (Int × Int)) (t : Int) : List Int := if perOk L t = true then places L (X (busyP L) t.toNat) (Y (busyP L) t.toNat) else []
theorem comeR_yes {L : List (Int × Int)} {t : Int} (h : perOk L t = true) : comeR L t = places L (X (busyP L) t.toNat) (Y (busyP L) t.toNat) := if_pos h
theorem comeR_no {L : List (Int × Int)} {t : Int} (h : perOk L t = false) : comeR L t = [] := by simp [comeR, h]
theorem perOk_nat {L : List (Int × Int)} {t : Int} (h : perOk L t = true) : ∃ n : Nat, t = n ∧ n < (busyP L).length ∧ cOk L = true := by
  have h2 : 0 ≤ t ∧ t ≤ ((busyP L).length : Int) - 1 := of_decide_eq_true h
  refine ⟨t.toNat, by omega, by omega, ?_⟩
  by_cases hc : cOk L = true
  · exact hc
  · rw [busyP_no (by simpa using hc)] at h2
    simp at h2; omega
theorem busyP_inv {L : List (Int × Int)} (h : cOk L = true) : BInv L 200 (busyP L) := by rw [busyP_yes h]; exact busyT_inv L 200
theorem busyP_len (L : List (Int × Int)) : (busyP L).length ≤ 200 := by
  unfold busyP; split
  · exact busyT_len L 200
  · simp

end Go.Proofs.Ytecoefjkobpbgaa

