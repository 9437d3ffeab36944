/- slices.Backward over customers; impl.LastLeave -/
import Derived.Test.YtofjfhifldafcaaC
import Derived.Test.YtofjfhifldafcaaM
import Derived.RangeFuncNested
import Derived.RangeFuncBound
import Derived.RangeFuncCalls
import Derived.RangeFuncLeaves
import Derived.RangeFuncBox
import Derived.Shelf.Abstract
import Derived.Shelf.RegionOpen
import Derived.OwnWalkIn
import Derived.TacticsInMore
import Derived.LoopNIn
import Derived.LoopIn
namespace Go.Proofs.Ytofjfhifldafcaa
set_option linter.unusedVariables false
open Go.RowKit Go.Shelf
attribute [local go_sem] Oper.semAt_some

/-- what a round keeps: all below B but .., and block Bs -/
def Kpt (B Bs : Nat) (W W' : World) : Prop := Below B W W' ∧ W'.heap[Bs]? = W.heap[Bs]?
theorem Kpt.t {B Bs : Nat} {A C D : World} (h : Kpt B Bs A C) (k : Kpt B Bs C D) : Kpt B Bs A D := ⟨h.1.trans k.1, k.2.trans h.2⟩
theorem Kpt.b {B Bs : Nat} {w : World} (hn : B ≤ w.heap.size) (hs : Bs < w.heap.size) (W : World) (l : Nat) (o o' : Obj) (hl : w.heap.size ≤ l) (h : W.heap[l]? = some o) (h1 : o.isCells = false) (h2 : o.isWalk = false) : Kpt B Bs W (W.putObj l o') :=
  ⟨belowK_b hn W l o o' hl h h1 h2, by
    have hg := grownBy_putObj' W l o'
    have := (Array.getElem?_eq_some_iff.1 h).1
    exact hg.block Bs (by omega) (by simp; omega)⟩

/-- the places from the last one to the first one, the first k of them -/
def downTo (n k : Nat) : List Nat := (List.range k).map fun j => n - 1 - j
theorem downTo_succ (n k : Nat) : downTo n (k + 1) = downTo n k ++ [n - 1 - k] := by simp [downTo, List.range_succ]
theorem downTo_len (n k : Nat) : (downTo n k).length = k := by simp [downTo]

end Go.Proofs.Ytofjfhifldafcaa

