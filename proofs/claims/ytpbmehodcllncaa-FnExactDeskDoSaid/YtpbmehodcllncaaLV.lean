/- What the library's functions that the program calls ask of the library's package-level variables: nothing, where it calls none of these. -/
import Derived.Test.YtpbmehodcllncaaG
import Derived.Lib.LaidTab
import Derived.Lib.ItoaNum
namespace Go.Proofs.Ytpbmehodcllncaa
set_option linter.unusedVariables false
open Go.RowKit

theorem var_same {P : Program} {w w' : World} {name : String} {g : Nat} (hg : P.globalNamed name = some g) (h : w'.heap[g]? = w.heap[g]?) : w'.var? P name = w.var? P name := by
  simp only [World.var?, hg, Option.bind_some, h]
def LV1 (w : World) (B : Nat) : Prop := True
theorem LV1.below {w w' : World} {B : Nat} (h : LV1 w B) (hb : Below B w w') : LV1 w' B := trivial
theorem LV1.more {w : World} {B B' : Nat} (h : LV1 w B) (hB : B ≤ B') : LV1 w B' := trivial
def LV2 (w : World) (B : Nat) : Prop := True
theorem LV2.below {w w' : World} {B : Nat} (h : LV2 w B) (hb : Below B w w') : LV2 w' B := trivial
theorem LV2.more {w : World} {B B' : Nat} (h : LV2 w B) (hB : B ≤ B') : LV2 w B' := trivial
def LV3 (w : World) (B : Nat) : Prop := True
theorem LV3.below {w w' : World} {B : Nat} (h : LV3 w B) (hb : Below B w w') : LV3 w' B := trivial
theorem LV3.more {w : World} {B B' : Nat} (h : LV3 w B) (hB : B ≤ B') : LV3 w B' := trivial
/-- the variables that the program's library functions read hold what they are laid with, below block B -/
def LV (w : World) (B : Nat) : Prop := LV1 w B ∧ LV2 w B ∧ LV3 w B
theorem LV.below {w w' : World} {B : Nat} (h : LV w B) (hb : Below B w w') : LV w' B := ⟨h.1.below hb, h.2.1.below hb, h.2.2.below hb⟩
theorem LV.more {w : World} {B B' : Nat} (h : LV w B) (hB : B ≤ B') : LV w B' := ⟨h.1.more hB, h.2.1.more hB, h.2.2.more hB⟩
/-- at a later world -/
theorem LV.at {w w' : World} (h : LV w w.heap.size) (hb : Below w.heap.size w w') : LV w' w'.heap.size := (h.below hb).more hb.size

end Go.Proofs.Ytpbmehodcllncaa

