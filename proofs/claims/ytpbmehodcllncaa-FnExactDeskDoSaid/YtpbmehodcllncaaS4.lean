/- GreatestLack -/
import Derived.Test.YtpbmehodcllncaaS3
namespace Go.Proofs.Ytpbmehodcllncaa
set_option linter.unusedVariables false
open Go.RowKit
attribute [local go_sem ↓] Go.wp_at_zero Go.wp_at_succ

set_option maxHeartbeats 400000 in
theorem c_isPlace (L : List (Int × Int)) (A : Option Addr) (c : Nat) (t : Int) (w : World) (hn : L.length ≤ 140737488351232) :
    Calls Try.prog 90 #[.slice A L.length c, .int .i64 t] w fun e w' => e = .returned (.bool (decide (0 ≤ t ∧ t ≤ (L.length : Int) - 1))) ∧ w = w' := by
  go_enter Try.func90, Try.ntmps90
  go_wp2_with fail
  refine (c_within _ _ _ _).mono ?_
  rintro e w' ⟨rfl, rfl⟩
  go_wp2_with fail
  go_ret
  exact ⟨by simp, rfl⟩

theorem heap_new2 (w : World) (o p : Obj) : ((w.alloc o).alloc p).heap[w.heap.size + 1]? = some p := by
  have h := heap_alloc_new (w.alloc o) p
  rwa [show (w.alloc o).heap.size = w.heap.size + 1 by simp] at h

theorem box_kept {w w' : World} {base : Nat} {v : Value} {xs : List Int} {o p : Obj} (hown : IO w base v xs) (hg : ((w.alloc o).alloc p).grownBy w' v.ownBlock) : w'.heap[w.heap.size]? = some o := by
  rw [hg.block w.heap.size (by simp; omega) (fun e => by have := owns_lt hown _ e.symm; omega), Below.heap_alloc _ _ _ (by simp)]
  exact heap_alloc_new _ _

def preTo (L : List (Int × Int)) (k : Nat) : List Int := (List.range k).map (pre L)
theorem preTo_len (L : List (Int × Int)) (k : Nat) : (preTo L k).length = k := by simp [preTo]
theorem preTo_succ (L : List (Int × Int)) (k : Nat) : preTo L (k + 1) = preTo L k ++ [pre L k] := by simp [preTo, List.range_succ]
theorem Z_preTo {L : List (Int × Int)} {n k : Nat} (h : k < n) : Z (preTo L n) k = pre L k := by simp [Z, preTo, h]

end Go.Proofs.Ytpbmehodcllncaa

