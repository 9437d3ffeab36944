/-
  No cell of these rows narrows 'for every input' (looked for: loops, veiled, ifaces, maps, wideKeys, modest, calm, conditions, laid).
  DERIVED. THE GIVEN ROWS OF THIS SEAT. 10 by the template 'for every input the law returns true; each argument reads behind the call as it read before'; 0 by the template 'total and deterministic' (their statements: YtkkglpohmeehlaaTotals.lean).
  GIVEN WITH THE SEED: the statements are not yours to turn. If you find one false, say at which input.
  Laid BY PROGRAM, IN A SANDBOX (cutbox-rows.mjs): the forced cells as the released guide's own fill.sh prints them over the translation de9af11396ad70ce… (all of the seat's roots in one cut). By AI agents, Wed Nov 11 2026. No macro, syntax, notation, axiom, sorry.
-/
import Derived.Test.YtkkglpohmeehlaaChecked
import GoSem.Claim
import GoSem.ClaimJoined
import GoSem.ClaimMapViews
import Derived.JoinedTies
import Derived.KernelRfl
namespace Go.Proofs.Ytkkglpohmeehlaa
/- THE CELL 'sum', in the pinned program and in every row, IS THE sha256 OF THE DUMP (.gsa) THAT YtkkglpohmeehlaaProg.lean LOADS. Nothing in Lean hashes anything: it is a label: what it is worth is what the hold of that sum in a sandbox is worth. -/
noncomputable def Try.pinned : Pinned := { name := "ytkkglpohmeehlaa", sum := "de9af11396ad70ce882b0b058fe7c4177bb65d95591cfb1e70190e0dce5e0299", checked := Try.checked }
namespace Rows
def none {H : Type} : Left H := { results := [], args := [] }

/-- 'laws.FnWaitsOf': WHATEVER THE INPUT: true; the input reads as it did. -/
def fnWaitsOfSpec : ChangeSpec := { name := "fnWaitsOf", fn := fun _ => fun
  | [d] => { results := [.lit (.bool true)], args := [d] }
  | _ => none }
def fnWaitsOfRow : OpenClaim := { program := "ytkkglpohmeehlaa", sum := "de9af11396ad70ce882b0b058fe7c4177bb65d95591cfb1e70190e0dce5e0299", func := "loop.example/onecounter/laws.FnWaitsOf", spec := "fnWaitsOf", unfollowed := true, recurses := true, apart := false }
def FnWaitsOfSaid : Prop := fnWaitsOfRow.holds Try.pinned (OpenSpec.ofChange fnWaitsOfSpec)

/-- ITS FALSE NEIGHBOUR: 'it returns false'. Refute it at one input. -/
def fnWaitsOfWrong : ChangeSpec := { name := "fnWaitsOf", fn := fun _ => fun
  | [d] => { results := [.lit (.bool false)], args := [d] }
  | _ => none }
def FnWaitsOfWrongFalsely : Prop := fnWaitsOfRow.holds Try.pinned (OpenSpec.ofChange fnWaitsOfWrong)

/-- 'laws.FnLeavesOf': WHATEVER THE INPUT: true; the input reads as it did. -/
def fnLeavesOfSpec : ChangeSpec := { name := "fnLeavesOf", fn := fun _ => fun
  | [d] => { results := [.lit (.bool true)], args := [d] }
  | _ => none }
def fnLeavesOfRow : OpenClaim := { program := "ytkkglpohmeehlaa", sum := "de9af11396ad70ce882b0b058fe7c4177bb65d95591cfb1e70190e0dce5e0299", func := "loop.example/onecounter/laws.FnLeavesOf", spec := "fnLeavesOf", unfollowed := true, recurses := true, apart := false }
def FnLeavesOfSaid : Prop := fnLeavesOfRow.holds Try.pinned (OpenSpec.ofChange fnLeavesOfSpec)

/-- ITS FALSE NEIGHBOUR: 'it returns false'. Refute it at one input. -/
def fnLeavesOfWrong : ChangeSpec := { name := "fnLeavesOf", fn := fun _ => fun
  | [d] => { results := [.lit (.bool false)], args := [d] }
  | _ => none }
def FnLeavesOfWrongFalsely : Prop := fnLeavesOfRow.holds Try.pinned (OpenSpec.ofChange fnLeavesOfWrong)

/-- 'laws.FnGreatestLack': WHATEVER THE INPUT: true; the input reads as it did. -/
def fnGreatestLackSpec : ChangeSpec := { name := "fnGreatestLack", fn := fun _ => fun
  | [d] => { results := [.lit (.bool true)], args := [d] }
  | _ => none }
def fnGreatestLackRow : OpenClaim := { program := "ytkkglpohmeehlaa", sum := "de9af11396ad70ce882b0b058fe7c4177bb65d95591cfb1e70190e0dce5e0299", func := "loop.example/onecounter/laws.FnGreatestLack", spec := "fnGreatestLack", unfollowed := true, recurses := true, apart := false }
def FnGreatestLackSaid : Prop := fnGreatestLackRow.holds Try.pinned (OpenSpec.ofChange fnGreatestLackSpec)

/-- ITS FALSE NEIGHBOUR: 'it returns false'. Refute it at one input. -/
def fnGreatestLackWrong : ChangeSpec := { name := "fnGreatestLack", fn := fun _ => fun
  | [d] => { results := [.lit (.bool false)], args := [d] }
  | _ => none }
def FnGreatestLackWrongFalsely : Prop := fnGreatestLackRow.holds Try.pinned (OpenSpec.ofChange fnGreatestLackWrong)

/-- 'laws.FnIdleUntil': WHATEVER THE INPUT: true; the input reads as it did. -/
def fnIdleUntilSpec : ChangeSpec := { name := "fnIdleUntil", fn := fun _ => fun
  | [d] => { results := [.lit (.bool true)], args := [d] }
  | _ => none }
def fnIdleUntilRow : OpenClaim := { program := "ytkkglpohmeehlaa", sum := "de9af11396ad70ce882b0b058fe7c4177bb65d95591cfb1e70190e0dce5e0299", func := "loop.example/onecounter/laws.FnIdleUntil", spec := "fnIdleUntil", unfollowed := true, recurses := true, apart := false }
def FnIdleUntilSaid : Prop := fnIdleUntilRow.holds Try.pinned (OpenSpec.ofChange fnIdleUntilSpec)

/-- ITS FALSE NEIGHBOUR: 'it returns false'. Refute it at one input. -/
def fnIdleUntilWrong : ChangeSpec := { name := "fnIdleUntil", fn := fun _ => fun
  | [d] => { results := [.lit (.bool false)], args := [d] }
  | _ => none }
def FnIdleUntilWrongFalsely : Prop := fnIdleUntilRow.holds Try.pinned (OpenSpec.ofChange fnIdleUntilWrong)

/-- 'laws.FnNeedingMore': WHATEVER THE INPUT: true; the input reads as it did. -/
def fnNeedingMoreSpec : ChangeSpec := { name := "fnNeedingMore", fn := fun _ => fun
  | [d] => { results := [.lit (.bool true)], args := [d] }
  | _ => none }
def fnNeedingMoreRow : OpenClaim := { program := "ytkkglpohmeehlaa", sum := "de9af11396ad70ce882b0b058fe7c4177bb65d95591cfb1e70190e0dce5e0299", func := "loop.example/onecounter/laws.FnNeedingMore", spec := "fnNeedingMore", unfollowed := true, recurses := true, apart := false }
def FnNeedingMoreSaid : Prop := fnNeedingMoreRow.holds Try.pinned (OpenSpec.ofChange fnNeedingMoreSpec)

/-- ITS FALSE NEIGHBOUR: 'it returns false'. Refute it at one input. -/
def fnNeedingMoreWrong : ChangeSpec := { name := "fnNeedingMore", fn := fun _ => fun
  | [d] => { results := [.lit (.bool false)], args := [d] }
  | _ => none }
def FnNeedingMoreWrongFalsely : Prop := fnNeedingMoreRow.holds Try.pinned (OpenSpec.ofChange fnNeedingMoreWrong)

/-- 'laws.FnExactWaitsOf': WHATEVER THE INPUT: true; the input reads as it did. -/
def fnExactWaitsOfSpec : ChangeSpec := { name := "fnExactWaitsOf", fn := fun _ => fun
  | [d] => { results := [.lit (.bool true)], args := [d] }
  | _ => none }
def fnExactWaitsOfRow : OpenClaim := { program := "ytkkglpohmeehlaa", sum := "de9af11396ad70ce882b0b058fe7c4177bb65d95591cfb1e70190e0dce5e0299", func := "loop.example/onecounter/laws.FnExactWaitsOf", spec := "fnExactWaitsOf", unfollowed := true, recurses := true, apart := false }
def FnExactWaitsOfSaid : Prop := fnExactWaitsOfRow.holds Try.pinned (OpenSpec.ofChange fnExactWaitsOfSpec)

/-- ITS FALSE NEIGHBOUR: 'it returns false'. Refute it at one input. -/
def fnExactWaitsOfWrong : ChangeSpec := { name := "fnExactWaitsOf", fn := fun _ => fun
  | [d] => { results := [.lit (.bool false)], args := [d] }
  | _ => none }
def FnExactWaitsOfWrongFalsely : Prop := fnExactWaitsOfRow.holds Try.pinned (OpenSpec.ofChange fnExactWaitsOfWrong)

/-- 'laws.FnExactLeavesOf': WHATEVER THE INPUT: true; the input reads as it did. -/
def fnExactLeavesOfSpec : ChangeSpec := { name := "fnExactLeavesOf", fn := fun _ => fun
  | [d] => { results := [.lit (.bool true)], args := [d] }
  | _ => none }
def fnExactLeavesOfRow : OpenClaim := { program := "ytkkglpohmeehlaa", sum := "de9af11396ad70ce882b0b058fe7c4177bb65d95591cfb1e70190e0dce5e0299", func := "loop.example/onecounter/laws.FnExactLeavesOf", spec := "fnExactLeavesOf", unfollowed := true, recurses := true, apart := false }
def FnExactLeavesOfSaid : Prop := fnExactLeavesOfRow.holds Try.pinned (OpenSpec.ofChange fnExactLeavesOfSpec)

/-- ITS FALSE NEIGHBOUR: 'it returns false'. Refute it at one input. -/
def fnExactLeavesOfWrong : ChangeSpec := { name := "fnExactLeavesOf", fn := fun _ => fun
  | [d] => { results := [.lit (.bool false)], args := [d] }
  | _ => none }
def FnExactLeavesOfWrongFalsely : Prop := fnExactLeavesOfRow.holds Try.pinned (OpenSpec.ofChange fnExactLeavesOfWrong)

/-- 'laws.FnExactGreatestLack': WHATEVER THE INPUT: true; the input reads as it did. -/
def fnExactGreatestLackSpec : ChangeSpec := { name := "fnExactGreatestLack", fn := fun _ => fun
  | [d1, d2] => { results := [.lit (.bool true)], args := [d1, d2] }
  | _ => none }
def fnExactGreatestLackRow : OpenClaim := { program := "ytkkglpohmeehlaa", sum := "de9af11396ad70ce882b0b058fe7c4177bb65d95591cfb1e70190e0dce5e0299", func := "loop.example/onecounter/laws.FnExactGreatestLack", spec := "fnExactGreatestLack", apart := false }
def FnExactGreatestLackSaid : Prop := fnExactGreatestLackRow.holds Try.pinned (OpenSpec.ofChange fnExactGreatestLackSpec)

/-- ITS FALSE NEIGHBOUR: 'it returns false'. Refute it at one input. -/
def fnExactGreatestLackWrong : ChangeSpec := { name := "fnExactGreatestLack", fn := fun _ => fun
  | [d1, d2] => { results := [.lit (.bool false)], args := [d1, d2] }
  | _ => none }
def FnExactGreatestLackWrongFalsely : Prop := fnExactGreatestLackRow.holds Try.pinned (OpenSpec.ofChange fnExactGreatestLackWrong)

/-- 'laws.FnExactIdleUntil': WHATEVER THE INPUT: true; the input reads as it did. -/
def fnExactIdleUntilSpec : ChangeSpec := { name := "fnExactIdleUntil", fn := fun _ => fun
  | [d] => { results := [.lit (.bool true)], args := [d] }
  | _ => none }
def fnExactIdleUntilRow : OpenClaim := { program := "ytkkglpohmeehlaa", sum := "de9af11396ad70ce882b0b058fe7c4177bb65d95591cfb1e70190e0dce5e0299", func := "loop.example/onecounter/laws.FnExactIdleUntil", spec := "fnExactIdleUntil", unfollowed := true, recurses := true, apart := false }
def FnExactIdleUntilSaid : Prop := fnExactIdleUntilRow.holds Try.pinned (OpenSpec.ofChange fnExactIdleUntilSpec)

/-- ITS FALSE NEIGHBOUR: 'it returns false'. Refute it at one input. -/
def fnExactIdleUntilWrong : ChangeSpec := { name := "fnExactIdleUntil", fn := fun _ => fun
  | [d] => { results := [.lit (.bool false)], args := [d] }
  | _ => none }
def FnExactIdleUntilWrongFalsely : Prop := fnExactIdleUntilRow.holds Try.pinned (OpenSpec.ofChange fnExactIdleUntilWrong)

/-- 'laws.FnExactNeedingMore': WHATEVER THE INPUT: true; the input reads as it did. -/
def fnExactNeedingMoreSpec : ChangeSpec := { name := "fnExactNeedingMore", fn := fun _ => fun
  | [d1, d2] => { results := [.lit (.bool true)], args := [d1, d2] }
  | _ => none }
def fnExactNeedingMoreRow : OpenClaim := { program := "ytkkglpohmeehlaa", sum := "de9af11396ad70ce882b0b058fe7c4177bb65d95591cfb1e70190e0dce5e0299", func := "loop.example/onecounter/laws.FnExactNeedingMore", spec := "fnExactNeedingMore", apart := false }
def FnExactNeedingMoreSaid : Prop := fnExactNeedingMoreRow.holds Try.pinned (OpenSpec.ofChange fnExactNeedingMoreSpec)

/-- ITS FALSE NEIGHBOUR: 'it returns false'. Refute it at one input. -/
def fnExactNeedingMoreWrong : ChangeSpec := { name := "fnExactNeedingMore", fn := fun _ => fun
  | [d1, d2] => { results := [.lit (.bool false)], args := [d1, d2] }
  | _ => none }
def FnExactNeedingMoreWrongFalsely : Prop := fnExactNeedingMoreRow.holds Try.pinned (OpenSpec.ofChange fnExactNeedingMoreWrong)

/- THE SECOND FORM. 'bulk': how many values and letters a reading holds, each counted each time it is reached (what is shared counts as often as it is met; a slice's spare places count too). A statement '..UptoSaid' is the law's where the arguments, and the package variables that the reading takes, are together of bulk at most 1048576: NARROWER than '..Said'. Prove '..Said' where nothing that the law and all that it calls make is longer than what came in: it says more and counts as full. Else prove '..UptoSaid'. A law counts once. -/
mutual
def uptoBulk {H : Type} : DataW H → Nat
  | .lit (.string bytes) => bytes.length + 1
  | .lit _ => 1
  | .nil => 1
  | .ptr d => uptoBulk d + 1
  | .slice elems spare => uptoBulkAll elems + uptoBulkAll spare + 1
  | .agg parts => uptoBulkAll parts + 1
  | .iface _ d => uptoBulk d + 1
  | .map entries => uptoBulkEntries entries + 1
  | .held _ => 1
def uptoBulkAll {H : Type} : List (DataW H) → Nat
  | [] => 0
  | d :: r => uptoBulk d + uptoBulkAll r
def uptoBulkEntries {H : Type} : List (Lit × DataW H) → Nat
  | [] => 0
  | x :: r => uptoBulkEntry x + uptoBulkEntries r
def uptoBulkEntry {H : Type} : Lit × DataW H → Nat
  | (.string bytes, d) => bytes.length + uptoBulk d + 1
  | (_, d) => uptoBulk d + 1
 end
def uptoSmall : (H : Type) → List (DataW H) → Bool := fun _ ds => decide (uptoBulkAll ds ≤ 1048576)
def OpenSpec.upto (s : _root_.Go.ChangeSpec) : _root_.Go.OpenSpec := { _root_.Go.OpenSpec.ofChange s with cond := some uptoSmall }

/-- 'laws.FnWaitsOf', WHERE WHAT IT READS IS OF BULK AT MOST 1048576: true; the input reads as it did. -/
def fnWaitsOfUptoRow : OpenClaim := { program := "ytkkglpohmeehlaa", sum := "de9af11396ad70ce882b0b058fe7c4177bb65d95591cfb1e70190e0dce5e0299", func := "loop.example/onecounter/laws.FnWaitsOf", spec := "fnWaitsOf", unfollowed := true, recurses := true, apart := false, narrowed := true }
def FnWaitsOfUptoSaid : Prop := fnWaitsOfUptoRow.holds Try.pinned (OpenSpec.upto fnWaitsOfSpec)

/-- 'laws.FnLeavesOf', WHERE WHAT IT READS IS OF BULK AT MOST 1048576: true; the input reads as it did. -/
def fnLeavesOfUptoRow : OpenClaim := { program := "ytkkglpohmeehlaa", sum := "de9af11396ad70ce882b0b058fe7c4177bb65d95591cfb1e70190e0dce5e0299", func := "loop.example/onecounter/laws.FnLeavesOf", spec := "fnLeavesOf", unfollowed := true, recurses := true, apart := false, narrowed := true }
def FnLeavesOfUptoSaid : Prop := fnLeavesOfUptoRow.holds Try.pinned (OpenSpec.upto fnLeavesOfSpec)

/-- 'laws.FnGreatestLack', WHERE WHAT IT READS IS OF BULK AT MOST 1048576: true; the input reads as it did. -/
def fnGreatestLackUptoRow : OpenClaim := { program := "ytkkglpohmeehlaa", sum := "de9af11396ad70ce882b0b058fe7c4177bb65d95591cfb1e70190e0dce5e0299", func := "loop.example/onecounter/laws.FnGreatestLack", spec := "fnGreatestLack", unfollowed := true, recurses := true, apart := false, narrowed := true }
def FnGreatestLackUptoSaid : Prop := fnGreatestLackUptoRow.holds Try.pinned (OpenSpec.upto fnGreatestLackSpec)

/-- 'laws.FnIdleUntil', WHERE WHAT IT READS IS OF BULK AT MOST 1048576: true; the input reads as it did. -/
def fnIdleUntilUptoRow : OpenClaim := { program := "ytkkglpohmeehlaa", sum := "de9af11396ad70ce882b0b058fe7c4177bb65d95591cfb1e70190e0dce5e0299", func := "loop.example/onecounter/laws.FnIdleUntil", spec := "fnIdleUntil", unfollowed := true, recurses := true, apart := false, narrowed := true }
def FnIdleUntilUptoSaid : Prop := fnIdleUntilUptoRow.holds Try.pinned (OpenSpec.upto fnIdleUntilSpec)

/-- 'laws.FnNeedingMore', WHERE WHAT IT READS IS OF BULK AT MOST 1048576: true; the input reads as it did. -/
def fnNeedingMoreUptoRow : OpenClaim := { program := "ytkkglpohmeehlaa", sum := "de9af11396ad70ce882b0b058fe7c4177bb65d95591cfb1e70190e0dce5e0299", func := "loop.example/onecounter/laws.FnNeedingMore", spec := "fnNeedingMore", unfollowed := true, recurses := true, apart := false, narrowed := true }
def FnNeedingMoreUptoSaid : Prop := fnNeedingMoreUptoRow.holds Try.pinned (OpenSpec.upto fnNeedingMoreSpec)

/-- 'laws.FnExactWaitsOf', WHERE WHAT IT READS IS OF BULK AT MOST 1048576: true; the input reads as it did. -/
def fnExactWaitsOfUptoRow : OpenClaim := { program := "ytkkglpohmeehlaa", sum := "de9af11396ad70ce882b0b058fe7c4177bb65d95591cfb1e70190e0dce5e0299", func := "loop.example/onecounter/laws.FnExactWaitsOf", spec := "fnExactWaitsOf", unfollowed := true, recurses := true, apart := false, narrowed := true }
def FnExactWaitsOfUptoSaid : Prop := fnExactWaitsOfUptoRow.holds Try.pinned (OpenSpec.upto fnExactWaitsOfSpec)

/-- 'laws.FnExactLeavesOf', WHERE WHAT IT READS IS OF BULK AT MOST 1048576: true; the input reads as it did. -/
def fnExactLeavesOfUptoRow : OpenClaim := { program := "ytkkglpohmeehlaa", sum := "de9af11396ad70ce882b0b058fe7c4177bb65d95591cfb1e70190e0dce5e0299", func := "loop.example/onecounter/laws.FnExactLeavesOf", spec := "fnExactLeavesOf", unfollowed := true, recurses := true, apart := false, narrowed := true }
def FnExactLeavesOfUptoSaid : Prop := fnExactLeavesOfUptoRow.holds Try.pinned (OpenSpec.upto fnExactLeavesOfSpec)

/-- 'laws.FnExactGreatestLack', WHERE WHAT IT READS IS OF BULK AT MOST 1048576: true; the input reads as it did. -/
def fnExactGreatestLackUptoRow : OpenClaim := { program := "ytkkglpohmeehlaa", sum := "de9af11396ad70ce882b0b058fe7c4177bb65d95591cfb1e70190e0dce5e0299", func := "loop.example/onecounter/laws.FnExactGreatestLack", spec := "fnExactGreatestLack", apart := false, narrowed := true }
def FnExactGreatestLackUptoSaid : Prop := fnExactGreatestLackUptoRow.holds Try.pinned (OpenSpec.upto fnExactGreatestLackSpec)

/-- 'laws.FnExactIdleUntil', WHERE WHAT IT READS IS OF BULK AT MOST 1048576: true; the input reads as it did. -/
def fnExactIdleUntilUptoRow : OpenClaim := { program := "ytkkglpohmeehlaa", sum := "de9af11396ad70ce882b0b058fe7c4177bb65d95591cfb1e70190e0dce5e0299", func := "loop.example/onecounter/laws.FnExactIdleUntil", spec := "fnExactIdleUntil", unfollowed := true, recurses := true, apart := false, narrowed := true }
def FnExactIdleUntilUptoSaid : Prop := fnExactIdleUntilUptoRow.holds Try.pinned (OpenSpec.upto fnExactIdleUntilSpec)

/-- 'laws.FnExactNeedingMore', WHERE WHAT IT READS IS OF BULK AT MOST 1048576: true; the input reads as it did. -/
def fnExactNeedingMoreUptoRow : OpenClaim := { program := "ytkkglpohmeehlaa", sum := "de9af11396ad70ce882b0b058fe7c4177bb65d95591cfb1e70190e0dce5e0299", func := "loop.example/onecounter/laws.FnExactNeedingMore", spec := "fnExactNeedingMore", apart := false, narrowed := true }
def FnExactNeedingMoreUptoSaid : Prop := fnExactNeedingMoreUptoRow.holds Try.pinned (OpenSpec.upto fnExactNeedingMoreSpec)

end Rows
end Go.Proofs.Ytkkglpohmeehlaa
