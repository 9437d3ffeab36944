/-
  No cell of these rows narrows 'for every input' (looked for: loops, veiled, ifaces, maps, wideKeys, modest, calm, conditions, laid).
  DERIVED. THE GIVEN ROWS OF THIS SEAT. 8 by the template 'for every input the law returns true; each argument reads behind the call as it read before'; 0 by the template 'total and deterministic' (their statements: YthoendonhkffkaaTotals.lean).
  GIVEN WITH THE SEED: the statements are not yours to turn. If you find one false, say at which input.
  Laid BY PROGRAM, IN A SANDBOX (cutbox-rows.mjs): the forced cells as the released guide's own fill.sh prints them over the translation e4240b218dbbdbf5… (all of the seat's roots in one cut). By AI agents, Wed Nov 11 2026. No macro, syntax, notation, axiom, sorry.
-/
import Derived.Test.YthoendonhkffkaaChecked
import GoSem.Claim
import GoSem.ClaimJoined
import GoSem.ClaimMapViews
import Derived.JoinedTies
import Derived.KernelRfl
namespace Go.Proofs.Ythoendonhkffkaa
/- THE CELL 'sum', in the pinned program and in every row, IS THE sha256 OF THE DUMP (.gsa) THAT YthoendonhkffkaaProg.lean LOADS. Nothing in Lean hashes anything: it is a label: what it is worth is what the hold of that sum in a sandbox is worth. -/
noncomputable def Try.pinned : Pinned := { name := "ythoendonhkffkaa", sum := "e4240b218dbbdbf5a48e38c0fdc0fa24fb08524cc3d3a86c578cd1c4a6ca647f", checked := Try.checked }
namespace Rows
def none {H : Type} : Left H := { results := [], args := [] }

/-- 'laws.FnBeginsOf': WHATEVER THE INPUT: true; the input reads as it did. -/
def fnBeginsOfSpec : ChangeSpec := { name := "fnBeginsOf", fn := fun _ => fun
  | [d] => { results := [.lit (.bool true)], args := [d] }
  | _ => none }
def fnBeginsOfRow : OpenClaim := { program := "ythoendonhkffkaa", sum := "e4240b218dbbdbf5a48e38c0fdc0fa24fb08524cc3d3a86c578cd1c4a6ca647f", func := "loop.example/onecounter/laws.FnBeginsOf", spec := "fnBeginsOf", unfollowed := true, recurses := true, apart := false }
def FnBeginsOfSaid : Prop := fnBeginsOfRow.holds Try.pinned (OpenSpec.ofChange fnBeginsOfSpec)

/-- ITS FALSE NEIGHBOUR: 'it returns false'. Refute it at one input. -/
def fnBeginsOfWrong : ChangeSpec := { name := "fnBeginsOf", fn := fun _ => fun
  | [d] => { results := [.lit (.bool false)], args := [d] }
  | _ => none }
def FnBeginsOfWrongFalsely : Prop := fnBeginsOfRow.holds Try.pinned (OpenSpec.ofChange fnBeginsOfWrong)

/-- 'laws.FnLeavesBeside': WHATEVER THE INPUT: true; the input reads as it did. -/
def fnLeavesBesideSpec : ChangeSpec := { name := "fnLeavesBeside", fn := fun _ => fun
  | [d] => { results := [.lit (.bool true)], args := [d] }
  | _ => none }
def fnLeavesBesideRow : OpenClaim := { program := "ythoendonhkffkaa", sum := "e4240b218dbbdbf5a48e38c0fdc0fa24fb08524cc3d3a86c578cd1c4a6ca647f", func := "loop.example/onecounter/laws.FnLeavesBeside", spec := "fnLeavesBeside", unfollowed := true, recurses := true, apart := false }
def FnLeavesBesideSaid : Prop := fnLeavesBesideRow.holds Try.pinned (OpenSpec.ofChange fnLeavesBesideSpec)

/-- ITS FALSE NEIGHBOUR: 'it returns false'. Refute it at one input. -/
def fnLeavesBesideWrong : ChangeSpec := { name := "fnLeavesBeside", fn := fun _ => fun
  | [d] => { results := [.lit (.bool false)], args := [d] }
  | _ => none }
def FnLeavesBesideWrongFalsely : Prop := fnLeavesBesideRow.holds Try.pinned (OpenSpec.ofChange fnLeavesBesideWrong)

/-- 'laws.FnServedAt': WHATEVER THE INPUT: true; the input reads as it did. -/
def fnServedAtSpec : ChangeSpec := { name := "fnServedAt", fn := fun _ => fun
  | [d] => { results := [.lit (.bool true)], args := [d] }
  | _ => none }
def fnServedAtRow : OpenClaim := { program := "ythoendonhkffkaa", sum := "e4240b218dbbdbf5a48e38c0fdc0fa24fb08524cc3d3a86c578cd1c4a6ca647f", func := "loop.example/onecounter/laws.FnServedAt", spec := "fnServedAt", apart := false }
def FnServedAtSaid : Prop := fnServedAtRow.holds Try.pinned (OpenSpec.ofChange fnServedAtSpec)

/-- ITS FALSE NEIGHBOUR: 'it returns false'. Refute it at one input. -/
def fnServedAtWrong : ChangeSpec := { name := "fnServedAt", fn := fun _ => fun
  | [d] => { results := [.lit (.bool false)], args := [d] }
  | _ => none }
def FnServedAtWrongFalsely : Prop := fnServedAtRow.holds Try.pinned (OpenSpec.ofChange fnServedAtWrong)

/-- 'laws.FnWaitSum': WHATEVER THE INPUT: true; the input reads as it did. -/
def fnWaitSumSpec : ChangeSpec := { name := "fnWaitSum", fn := fun _ => fun
  | [d] => { results := [.lit (.bool true)], args := [d] }
  | _ => none }
def fnWaitSumRow : OpenClaim := { program := "ythoendonhkffkaa", sum := "e4240b218dbbdbf5a48e38c0fdc0fa24fb08524cc3d3a86c578cd1c4a6ca647f", func := "loop.example/onecounter/laws.FnWaitSum", spec := "fnWaitSum", unfollowed := true, recurses := true, apart := false }
def FnWaitSumSaid : Prop := fnWaitSumRow.holds Try.pinned (OpenSpec.ofChange fnWaitSumSpec)

/-- ITS FALSE NEIGHBOUR: 'it returns false'. Refute it at one input. -/
def fnWaitSumWrong : ChangeSpec := { name := "fnWaitSum", fn := fun _ => fun
  | [d] => { results := [.lit (.bool false)], args := [d] }
  | _ => none }
def FnWaitSumWrongFalsely : Prop := fnWaitSumRow.holds Try.pinned (OpenSpec.ofChange fnWaitSumWrong)

/-- 'laws.FnExactBeginsOf': WHATEVER THE INPUT: true; the input reads as it did. -/
def fnExactBeginsOfSpec : ChangeSpec := { name := "fnExactBeginsOf", fn := fun _ => fun
  | [d1, d2] => { results := [.lit (.bool true)], args := [d1, d2] }
  | _ => none }
def fnExactBeginsOfRow : OpenClaim := { program := "ythoendonhkffkaa", sum := "e4240b218dbbdbf5a48e38c0fdc0fa24fb08524cc3d3a86c578cd1c4a6ca647f", func := "loop.example/onecounter/laws.FnExactBeginsOf", spec := "fnExactBeginsOf", apart := false }
def FnExactBeginsOfSaid : Prop := fnExactBeginsOfRow.holds Try.pinned (OpenSpec.ofChange fnExactBeginsOfSpec)

/-- ITS FALSE NEIGHBOUR: 'it returns false'. Refute it at one input. -/
def fnExactBeginsOfWrong : ChangeSpec := { name := "fnExactBeginsOf", fn := fun _ => fun
  | [d1, d2] => { results := [.lit (.bool false)], args := [d1, d2] }
  | _ => none }
def FnExactBeginsOfWrongFalsely : Prop := fnExactBeginsOfRow.holds Try.pinned (OpenSpec.ofChange fnExactBeginsOfWrong)

/-- 'laws.FnExactLeavesBeside': WHATEVER THE INPUT: true; the input reads as it did. -/
def fnExactLeavesBesideSpec : ChangeSpec := { name := "fnExactLeavesBeside", fn := fun _ => fun
  | [d1, d2] => { results := [.lit (.bool true)], args := [d1, d2] }
  | _ => none }
def fnExactLeavesBesideRow : OpenClaim := { program := "ythoendonhkffkaa", sum := "e4240b218dbbdbf5a48e38c0fdc0fa24fb08524cc3d3a86c578cd1c4a6ca647f", func := "loop.example/onecounter/laws.FnExactLeavesBeside", spec := "fnExactLeavesBeside", unfollowed := true, recurses := true, apart := false }
def FnExactLeavesBesideSaid : Prop := fnExactLeavesBesideRow.holds Try.pinned (OpenSpec.ofChange fnExactLeavesBesideSpec)

/-- ITS FALSE NEIGHBOUR: 'it returns false'. Refute it at one input. -/
def fnExactLeavesBesideWrong : ChangeSpec := { name := "fnExactLeavesBeside", fn := fun _ => fun
  | [d1, d2] => { results := [.lit (.bool false)], args := [d1, d2] }
  | _ => none }
def FnExactLeavesBesideWrongFalsely : Prop := fnExactLeavesBesideRow.holds Try.pinned (OpenSpec.ofChange fnExactLeavesBesideWrong)

/-- 'laws.FnExactServedAt': WHATEVER THE INPUT: true; the input reads as it did. -/
def fnExactServedAtSpec : ChangeSpec := { name := "fnExactServedAt", fn := fun _ => fun
  | [d1, d2, d3] => { results := [.lit (.bool true)], args := [d1, d2, d3] }
  | _ => none }
def fnExactServedAtRow : OpenClaim := { program := "ythoendonhkffkaa", sum := "e4240b218dbbdbf5a48e38c0fdc0fa24fb08524cc3d3a86c578cd1c4a6ca647f", func := "loop.example/onecounter/laws.FnExactServedAt", spec := "fnExactServedAt", apart := false }
def FnExactServedAtSaid : Prop := fnExactServedAtRow.holds Try.pinned (OpenSpec.ofChange fnExactServedAtSpec)

/-- ITS FALSE NEIGHBOUR: 'it returns false'. Refute it at one input. -/
def fnExactServedAtWrong : ChangeSpec := { name := "fnExactServedAt", fn := fun _ => fun
  | [d1, d2, d3] => { results := [.lit (.bool false)], args := [d1, d2, d3] }
  | _ => none }
def FnExactServedAtWrongFalsely : Prop := fnExactServedAtRow.holds Try.pinned (OpenSpec.ofChange fnExactServedAtWrong)

/-- 'laws.FnExactWaitSum': WHATEVER THE INPUT: true; the input reads as it did. -/
def fnExactWaitSumSpec : ChangeSpec := { name := "fnExactWaitSum", fn := fun _ => fun
  | [d1, d2] => { results := [.lit (.bool true)], args := [d1, d2] }
  | _ => none }
def fnExactWaitSumRow : OpenClaim := { program := "ythoendonhkffkaa", sum := "e4240b218dbbdbf5a48e38c0fdc0fa24fb08524cc3d3a86c578cd1c4a6ca647f", func := "loop.example/onecounter/laws.FnExactWaitSum", spec := "fnExactWaitSum", unfollowed := true, recurses := true, apart := false }
def FnExactWaitSumSaid : Prop := fnExactWaitSumRow.holds Try.pinned (OpenSpec.ofChange fnExactWaitSumSpec)

/-- ITS FALSE NEIGHBOUR: 'it returns false'. Refute it at one input. -/
def fnExactWaitSumWrong : ChangeSpec := { name := "fnExactWaitSum", fn := fun _ => fun
  | [d1, d2] => { results := [.lit (.bool false)], args := [d1, d2] }
  | _ => none }
def FnExactWaitSumWrongFalsely : Prop := fnExactWaitSumRow.holds Try.pinned (OpenSpec.ofChange fnExactWaitSumWrong)

/- THE SECOND FORM. 'bulk': how many values and letters a reading holds, each counted each time it is reached (what is shared counts as often as it is met; a slice's spare places count too). A statement '..UptoSaid' is the law's where the arguments, and the package variables that the reading takes, are together of bulk at most 1048576: NARROWER than '..Said'. Prove '..Said' where nothing that the law and all that it calls make is longer than what came in: it says more and counts as full. Else prove '..UptoSaid'. A law counts once. -/
mutual
def uptoBulk {H : Type} : DataW H → Nat
  | .lit (.string bytes) => bytes.length + 1
  | .lit _ => 1
  | .nil => 1
  | .ptr d => uptoBulk d + 1
  | .slice elems spare => uptoBulkAll elems + uptoBulkAll spare + 1
  | .agg parts => uptoBulkAll parts + 1
  | .iface _ d => uptoBulk d + 1
  | .map entries => uptoBulkEntries entries + 1
  | .held _ => 1
def uptoBulkAll {H : Type} : List (DataW H) → Nat
  | [] => 0
  | d :: r => uptoBulk d + uptoBulkAll r
def uptoBulkEntries {H : Type} : List (Lit × DataW H) → Nat
  | [] => 0
  | x :: r => uptoBulkEntry x + uptoBulkEntries r
def uptoBulkEntry {H : Type} : Lit × DataW H → Nat
  | (.string bytes, d) => bytes.length + uptoBulk d + 1
  | (_, d) => uptoBulk d + 1
 end
def uptoSmall : (H : Type) → List (DataW H) → Bool := fun _ ds => decide (uptoBulkAll ds ≤ 1048576)
def OpenSpec.upto (s : _root_.Go.ChangeSpec) : _root_.Go.OpenSpec := { _root_.Go.OpenSpec.ofChange s with cond := some uptoSmall }

/-- 'laws.FnBeginsOf', WHERE WHAT IT READS IS OF BULK AT MOST 1048576: true; the input reads as it did. -/
def fnBeginsOfUptoRow : OpenClaim := { program := "ythoendonhkffkaa", sum := "e4240b218dbbdbf5a48e38c0fdc0fa24fb08524cc3d3a86c578cd1c4a6ca647f", func := "loop.example/onecounter/laws.FnBeginsOf", spec := "fnBeginsOf", unfollowed := true, recurses := true, apart := false, narrowed := true }
def FnBeginsOfUptoSaid : Prop := fnBeginsOfUptoRow.holds Try.pinned (OpenSpec.upto fnBeginsOfSpec)

/-- 'laws.FnLeavesBeside', WHERE WHAT IT READS IS OF BULK AT MOST 1048576: true; the input reads as it did. -/
def fnLeavesBesideUptoRow : OpenClaim := { program := "ythoendonhkffkaa", sum := "e4240b218dbbdbf5a48e38c0fdc0fa24fb08524cc3d3a86c578cd1c4a6ca647f", func := "loop.example/onecounter/laws.FnLeavesBeside", spec := "fnLeavesBeside", unfollowed := true, recurses := true, apart := false, narrowed := true }
def FnLeavesBesideUptoSaid : Prop := fnLeavesBesideUptoRow.holds Try.pinned (OpenSpec.upto fnLeavesBesideSpec)

/-- 'laws.FnServedAt', WHERE WHAT IT READS IS OF BULK AT MOST 1048576: true; the input reads as it did. -/
def fnServedAtUptoRow : OpenClaim := { program := "ythoendonhkffkaa", sum := "e4240b218dbbdbf5a48e38c0fdc0fa24fb08524cc3d3a86c578cd1c4a6ca647f", func := "loop.example/onecounter/laws.FnServedAt", spec := "fnServedAt", apart := false, narrowed := true }
def FnServedAtUptoSaid : Prop := fnServedAtUptoRow.holds Try.pinned (OpenSpec.upto fnServedAtSpec)

/-- 'laws.FnWaitSum', WHERE WHAT IT READS IS OF BULK AT MOST 1048576: true; the input reads as it did. -/
def fnWaitSumUptoRow : OpenClaim := { program := "ythoendonhkffkaa", sum := "e4240b218dbbdbf5a48e38c0fdc0fa24fb08524cc3d3a86c578cd1c4a6ca647f", func := "loop.example/onecounter/laws.FnWaitSum", spec := "fnWaitSum", unfollowed := true, recurses := true, apart := false, narrowed := true }
def FnWaitSumUptoSaid : Prop := fnWaitSumUptoRow.holds Try.pinned (OpenSpec.upto fnWaitSumSpec)

/-- 'laws.FnExactBeginsOf', WHERE WHAT IT READS IS OF BULK AT MOST 1048576: true; the input reads as it did. -/
def fnExactBeginsOfUptoRow : OpenClaim := { program := "ythoendonhkffkaa", sum := "e4240b218dbbdbf5a48e38c0fdc0fa24fb08524cc3d3a86c578cd1c4a6ca647f", func := "loop.example/onecounter/laws.FnExactBeginsOf", spec := "fnExactBeginsOf", apart := false, narrowed := true }
def FnExactBeginsOfUptoSaid : Prop := fnExactBeginsOfUptoRow.holds Try.pinned (OpenSpec.upto fnExactBeginsOfSpec)

/-- 'laws.FnExactLeavesBeside', WHERE WHAT IT READS IS OF BULK AT MOST 1048576: true; the input reads as it did. -/
def fnExactLeavesBesideUptoRow : OpenClaim := { program := "ythoendonhkffkaa", sum := "e4240b218dbbdbf5a48e38c0fdc0fa24fb08524cc3d3a86c578cd1c4a6ca647f", func := "loop.example/onecounter/laws.FnExactLeavesBeside", spec := "fnExactLeavesBeside", unfollowed := true, recurses := true, apart := false, narrowed := true }
def FnExactLeavesBesideUptoSaid : Prop := fnExactLeavesBesideUptoRow.holds Try.pinned (OpenSpec.upto fnExactLeavesBesideSpec)

/-- 'laws.FnExactServedAt', WHERE WHAT IT READS IS OF BULK AT MOST 1048576: true; the input reads as it did. -/
def fnExactServedAtUptoRow : OpenClaim := { program := "ythoendonhkffkaa", sum := "e4240b218dbbdbf5a48e38c0fdc0fa24fb08524cc3d3a86c578cd1c4a6ca647f", func := "loop.example/onecounter/laws.FnExactServedAt", spec := "fnExactServedAt", apart := false, narrowed := true }
def FnExactServedAtUptoSaid : Prop := fnExactServedAtUptoRow.holds Try.pinned (OpenSpec.upto fnExactServedAtSpec)

/-- 'laws.FnExactWaitSum', WHERE WHAT IT READS IS OF BULK AT MOST 1048576: true; the input reads as it did. -/
def fnExactWaitSumUptoRow : OpenClaim := { program := "ythoendonhkffkaa", sum := "e4240b218dbbdbf5a48e38c0fdc0fa24fb08524cc3d3a86c578cd1c4a6ca647f", func := "loop.example/onecounter/laws.FnExactWaitSum", spec := "fnExactWaitSum", unfollowed := true, recurses := true, apart := false, narrowed := true }
def FnExactWaitSumUptoSaid : Prop := fnExactWaitSumUptoRow.holds Try.pinned (OpenSpec.upto fnExactWaitSumSpec)

end Rows
end Go.Proofs.Ythoendonhkffkaa
