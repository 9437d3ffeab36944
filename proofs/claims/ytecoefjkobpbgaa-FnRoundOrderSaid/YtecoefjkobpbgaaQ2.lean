/- A region that draws its order, inside a fence: operations that read or call (memory below B stays). -/
import Derived.Test.YtecoefjkobpbgaaO
import Derived.Sort.BigQuietIn
import Derived.RangeFuncNested
namespace Go.Proofs.Ytecoefjkobpbgaa
set_option linter.unusedVariables false
open Go.RowKit

theorem wpIn_region_wb {F : Fence} {n : Nat} {P : Program} {id : Nat} {Q : Exit → Act → World → Prop} {a : Act} {w : World} {l : List Oper} (B : Nat) (hro : F.round = none) (hm : P.follows .mixedOrders = true) (hB : Region.lexB .any l.toArray = true)
    (h : wpQuietIn F n P l.toArray (fun w' => ∃ s : WB B w, w' = s.val) (fun a' => ∀ w', (∃ s : WB B w, w' = s.val) → Q .normal a' w') l a) : (Code.region id l.toArray true).wpIn F n P Q a w :=
  wpIn_region_quiet (C := fun w' => ∃ s : WB B w, w' = s.val) hro hm hB ⟨⟨w.drew, (Below.refl _ _).drew⟩, rfl⟩ (by simpa using h)
/-- a callee that makes memory, within such a region -/
theorem CallsIn.inB {F : Fence} {n : Nat} {P : Program} {f : FuncId} {args : Array Value} {B : Nat} {w : World} {s : WB B w} {v : Value} (hB : B ≤ w.heap.size)
    (h : CallsIn F n P f args s.val fun e w' => e = .returned v ∧ Below s.val.heap.size s.val w') : CallsIn F n P f args s.val fun e w'' => e = .returned v ∧ ∃ s' : WB B w, w'' = s'.val :=
  h.mono fun _ w' ⟨he, hb⟩ => ⟨he, ⟨w', s.below.trans (hb.mono (Nat.le_trans hB s.below.size))⟩, rfl⟩

end Go.Proofs.Ytecoefjkobpbgaa

