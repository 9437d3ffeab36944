/- A region that draws its order, that reads what lay there and calls functions that make memory: one walk in the text's order. -/
import Derived.Test.YtjjncpimelpfiaaO
namespace Go.Proofs.Ytjjncpimelpfiaa
set_option linter.unusedVariables false
open Go.RowKit

/-- a world that is as w was below B -/
structure WB (B : Nat) (w : World) where
  val : World
  below : Below B w val
instance (B : Nat) (w : World) : Nonempty (WB B w) := ⟨⟨w, Below.refl _ _⟩⟩
theorem wp_region_wb {P : Program} {id : Nat} {Q : Exit → Act → World → Prop} {a : Act} {w : World} {l : List Oper} (B : Nat) (hm : P.follows .mixedOrders = true) (hB : Region.lexB .any l.toArray = true)
    (h : wpQuiet P l.toArray (fun w' => ∃ s : WB B w, w' = s.val) (fun a' => ∀ w', (∃ s : WB B w, w' = s.val) → Q .normal a' w') l a) : (Code.region id l.toArray true).wp P Q a w :=
  wp_region_quiet (C := fun w' => ∃ s : WB B w, w' = s.val) hm hB ⟨⟨w.drew, (Below.refl _ _).drew⟩, rfl⟩ (by simpa using h)
/-- a callee that makes memory, within such a region -/
theorem Calls.inB {P : Program} {f : FuncId} {args : Array Value} {B : Nat} {w : World} {s : WB B w} {v : Value} (hB : B ≤ w.heap.size)
    (h : Calls P f args s.val fun e w' => e = .returned v ∧ Below s.val.heap.size s.val w') : Calls P f args s.val fun e w'' => e = .returned v ∧ ∃ s' : WB B w, w'' = s'.val :=
  h.mono fun _ w' ⟨he, hb⟩ => ⟨he, ⟨w', s.below.trans (hb.mono (Nat.le_trans hB s.below.size))⟩, rfl⟩
theorem WB.cs {B : Nat} {w : World} (s : WB B w) {A : Option Addr} {L : List (Int × Int)} (h : Cs w B A L) (hB : B ≤ w.heap.size) : Cs s.val s.val.heap.size A L :=
  (h.below s.below).more (Nat.le_trans hB s.below.size)
theorem WB.is {B : Nat} {w : World} (s : WB B w) {A : Option Addr} {L : List Int} (h : Is w B A L) (hB : B ≤ w.heap.size) : Is s.val s.val.heap.size A L :=
  (h.below s.below).more (Nat.le_trans hB s.below.size)
theorem WB.cell {B : Nat} {w : World} {b o : Nat} {v : Value} (hb : b < B) (h : w.cell? ⟨b, o, none⟩ = some v) : ∀ s : WB B w, s.val.cell? ⟨b, o, none⟩ = some v :=
  fun s => (s.below.cell (p := ⟨b, o, none⟩) hb).trans h

end Go.Proofs.Ytjjncpimelpfiaa

