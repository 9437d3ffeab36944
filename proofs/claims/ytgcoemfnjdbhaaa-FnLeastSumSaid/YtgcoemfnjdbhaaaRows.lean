/-
  No cell of these rows narrows 'for every input' (looked for: loops, veiled, ifaces, maps, wideKeys, modest, calm, conditions, laid).
  DERIVED. THE GIVEN ROWS OF THIS SEAT. 10 by the template 'for every input the law returns true; each argument reads behind the call as it read before'; 0 by the template 'total and deterministic' (their statements: YtgcoemfnjdbhaaaTotals.lean).
  GIVEN WITH THE SEED: the statements are not yours to turn. If you find one false, say at which input.
  Laid BY PROGRAM, IN A SANDBOX (cutbox-rows.mjs): the forced cells as the released guide's own fill.sh prints them over the translation 690af0cfdc18f54c… (all of the seat's roots in one cut). By AI agents, Wed Nov 11 2026. No macro, syntax, notation, axiom, sorry.
-/
import Derived.Test.YtgcoemfnjdbhaaaChecked
import GoSem.Claim
import GoSem.ClaimJoined
import GoSem.ClaimMapViews
import Derived.JoinedTies
import Derived.KernelRfl
namespace Go.Proofs.Ytgcoemfnjdbhaaa
/- THE CELL 'sum', in the pinned program and in every row, IS THE sha256 OF THE DUMP (.gsa) THAT YtgcoemfnjdbhaaaProg.lean LOADS. Nothing in Lean hashes anything: it is a label: what it is worth is what the hold of that sum in a sandbox is worth. -/
noncomputable def Try.pinned : Pinned := { name := "ytgcoemfnjdbhaaa", sum := "690af0cfdc18f54c93b180c7ca7720c7464db8f99878c84f3fbfc176176fcd46", checked := Try.checked }
namespace Rows
def none {H : Type} : Left H := { results := [], args := [] }

/-- 'laws.FnTimesOf': WHATEVER THE INPUT: true; the input reads as it did. -/
def fnTimesOfSpec : ChangeSpec := { name := "fnTimesOf", fn := fun _ => fun
  | [d] => { results := [.lit (.bool true)], args := [d] }
  | _ => none }
def fnTimesOfRow : OpenClaim := { program := "ytgcoemfnjdbhaaa", sum := "690af0cfdc18f54c93b180c7ca7720c7464db8f99878c84f3fbfc176176fcd46", func := "loop.example/onecounter/laws.FnTimesOf", spec := "fnTimesOf", unfollowed := true, recurses := true, apart := false }
def FnTimesOfSaid : Prop := fnTimesOfRow.holds Try.pinned (OpenSpec.ofChange fnTimesOfSpec)

/-- ITS FALSE NEIGHBOUR: 'it returns false'. Refute it at one input. -/
def fnTimesOfWrong : ChangeSpec := { name := "fnTimesOf", fn := fun _ => fun
  | [d] => { results := [.lit (.bool false)], args := [d] }
  | _ => none }
def FnTimesOfWrongFalsely : Prop := fnTimesOfRow.holds Try.pinned (OpenSpec.ofChange fnTimesOfWrong)

/-- 'laws.FnSumOf': WHATEVER THE INPUT: true; the input reads as it did. -/
def fnSumOfSpec : ChangeSpec := { name := "fnSumOf", fn := fun _ => fun
  | [d] => { results := [.lit (.bool true)], args := [d] }
  | _ => none }
def fnSumOfRow : OpenClaim := { program := "ytgcoemfnjdbhaaa", sum := "690af0cfdc18f54c93b180c7ca7720c7464db8f99878c84f3fbfc176176fcd46", func := "loop.example/onecounter/laws.FnSumOf", spec := "fnSumOf", unfollowed := true, recurses := true, apart := false }
def FnSumOfSaid : Prop := fnSumOfRow.holds Try.pinned (OpenSpec.ofChange fnSumOfSpec)

/-- ITS FALSE NEIGHBOUR: 'it returns false'. Refute it at one input. -/
def fnSumOfWrong : ChangeSpec := { name := "fnSumOf", fn := fun _ => fun
  | [d] => { results := [.lit (.bool false)], args := [d] }
  | _ => none }
def FnSumOfWrongFalsely : Prop := fnSumOfRow.holds Try.pinned (OpenSpec.ofChange fnSumOfWrong)

/-- 'laws.FnThereAt': WHATEVER THE INPUT: true; the input reads as it did. -/
def fnThereAtSpec : ChangeSpec := { name := "fnThereAt", fn := fun _ => fun
  | [d] => { results := [.lit (.bool true)], args := [d] }
  | _ => none }
def fnThereAtRow : OpenClaim := { program := "ytgcoemfnjdbhaaa", sum := "690af0cfdc18f54c93b180c7ca7720c7464db8f99878c84f3fbfc176176fcd46", func := "loop.example/onecounter/laws.FnThereAt", spec := "fnThereAt", unfollowed := true, recurses := true, apart := false }
def FnThereAtSaid : Prop := fnThereAtRow.holds Try.pinned (OpenSpec.ofChange fnThereAtSpec)

/-- ITS FALSE NEIGHBOUR: 'it returns false'. Refute it at one input. -/
def fnThereAtWrong : ChangeSpec := { name := "fnThereAt", fn := fun _ => fun
  | [d] => { results := [.lit (.bool false)], args := [d] }
  | _ => none }
def FnThereAtWrongFalsely : Prop := fnThereAtRow.holds Try.pinned (OpenSpec.ofChange fnThereAtWrong)

/-- 'laws.FnLeastSum': WHATEVER THE INPUT: true; the input reads as it did. -/
def fnLeastSumSpec : ChangeSpec := { name := "fnLeastSum", fn := fun _ => fun
  | [d] => { results := [.lit (.bool true)], args := [d] }
  | _ => none }
def fnLeastSumRow : OpenClaim := { program := "ytgcoemfnjdbhaaa", sum := "690af0cfdc18f54c93b180c7ca7720c7464db8f99878c84f3fbfc176176fcd46", func := "loop.example/onecounter/laws.FnLeastSum", spec := "fnLeastSum", unfollowed := true, recurses := true, apart := false }
def FnLeastSumSaid : Prop := fnLeastSumRow.holds Try.pinned (OpenSpec.ofChange fnLeastSumSpec)

/-- ITS FALSE NEIGHBOUR: 'it returns false'. Refute it at one input. -/
def fnLeastSumWrong : ChangeSpec := { name := "fnLeastSum", fn := fun _ => fun
  | [d] => { results := [.lit (.bool false)], args := [d] }
  | _ => none }
def FnLeastSumWrongFalsely : Prop := fnLeastSumRow.holds Try.pinned (OpenSpec.ofChange fnLeastSumWrong)

/-- 'laws.FnSpreadOf': WHATEVER THE INPUT: true; the input reads as it did. -/
def fnSpreadOfSpec : ChangeSpec := { name := "fnSpreadOf", fn := fun _ => fun
  | [d] => { results := [.lit (.bool true)], args := [d] }
  | _ => none }
def fnSpreadOfRow : OpenClaim := { program := "ytgcoemfnjdbhaaa", sum := "690af0cfdc18f54c93b180c7ca7720c7464db8f99878c84f3fbfc176176fcd46", func := "loop.example/onecounter/laws.FnSpreadOf", spec := "fnSpreadOf", unfollowed := true, recurses := true, apart := false }
def FnSpreadOfSaid : Prop := fnSpreadOfRow.holds Try.pinned (OpenSpec.ofChange fnSpreadOfSpec)

/-- ITS FALSE NEIGHBOUR: 'it returns false'. Refute it at one input. -/
def fnSpreadOfWrong : ChangeSpec := { name := "fnSpreadOf", fn := fun _ => fun
  | [d] => { results := [.lit (.bool false)], args := [d] }
  | _ => none }
def FnSpreadOfWrongFalsely : Prop := fnSpreadOfRow.holds Try.pinned (OpenSpec.ofChange fnSpreadOfWrong)

/-- 'laws.FnExactTimesOf': WHATEVER THE INPUT: true; the input reads as it did. -/
def fnExactTimesOfSpec : ChangeSpec := { name := "fnExactTimesOf", fn := fun _ => fun
  | [d1, d2] => { results := [.lit (.bool true)], args := [d1, d2] }
  | _ => none }
def fnExactTimesOfRow : OpenClaim := { program := "ytgcoemfnjdbhaaa", sum := "690af0cfdc18f54c93b180c7ca7720c7464db8f99878c84f3fbfc176176fcd46", func := "loop.example/onecounter/laws.FnExactTimesOf", spec := "fnExactTimesOf", unfollowed := true, recurses := true, apart := false }
def FnExactTimesOfSaid : Prop := fnExactTimesOfRow.holds Try.pinned (OpenSpec.ofChange fnExactTimesOfSpec)

/-- ITS FALSE NEIGHBOUR: 'it returns false'. Refute it at one input. -/
def fnExactTimesOfWrong : ChangeSpec := { name := "fnExactTimesOf", fn := fun _ => fun
  | [d1, d2] => { results := [.lit (.bool false)], args := [d1, d2] }
  | _ => none }
def FnExactTimesOfWrongFalsely : Prop := fnExactTimesOfRow.holds Try.pinned (OpenSpec.ofChange fnExactTimesOfWrong)

/-- 'laws.FnExactSumOf': WHATEVER THE INPUT: true; the input reads as it did. -/
def fnExactSumOfSpec : ChangeSpec := { name := "fnExactSumOf", fn := fun _ => fun
  | [d1, d2] => { results := [.lit (.bool true)], args := [d1, d2] }
  | _ => none }
def fnExactSumOfRow : OpenClaim := { program := "ytgcoemfnjdbhaaa", sum := "690af0cfdc18f54c93b180c7ca7720c7464db8f99878c84f3fbfc176176fcd46", func := "loop.example/onecounter/laws.FnExactSumOf", spec := "fnExactSumOf", unfollowed := true, recurses := true, apart := false }
def FnExactSumOfSaid : Prop := fnExactSumOfRow.holds Try.pinned (OpenSpec.ofChange fnExactSumOfSpec)

/-- ITS FALSE NEIGHBOUR: 'it returns false'. Refute it at one input. -/
def fnExactSumOfWrong : ChangeSpec := { name := "fnExactSumOf", fn := fun _ => fun
  | [d1, d2] => { results := [.lit (.bool false)], args := [d1, d2] }
  | _ => none }
def FnExactSumOfWrongFalsely : Prop := fnExactSumOfRow.holds Try.pinned (OpenSpec.ofChange fnExactSumOfWrong)

/-- 'laws.FnExactThereAt': WHATEVER THE INPUT: true; the input reads as it did. -/
def fnExactThereAtSpec : ChangeSpec := { name := "fnExactThereAt", fn := fun _ => fun
  | [d1, d2, d3] => { results := [.lit (.bool true)], args := [d1, d2, d3] }
  | _ => none }
def fnExactThereAtRow : OpenClaim := { program := "ytgcoemfnjdbhaaa", sum := "690af0cfdc18f54c93b180c7ca7720c7464db8f99878c84f3fbfc176176fcd46", func := "loop.example/onecounter/laws.FnExactThereAt", spec := "fnExactThereAt", unfollowed := true, recurses := true, apart := false }
def FnExactThereAtSaid : Prop := fnExactThereAtRow.holds Try.pinned (OpenSpec.ofChange fnExactThereAtSpec)

/-- ITS FALSE NEIGHBOUR: 'it returns false'. Refute it at one input. -/
def fnExactThereAtWrong : ChangeSpec := { name := "fnExactThereAt", fn := fun _ => fun
  | [d1, d2, d3] => { results := [.lit (.bool false)], args := [d1, d2, d3] }
  | _ => none }
def FnExactThereAtWrongFalsely : Prop := fnExactThereAtRow.holds Try.pinned (OpenSpec.ofChange fnExactThereAtWrong)

/-- 'laws.FnExactLeastSum': WHATEVER THE INPUT: true; the input reads as it did. -/
def fnExactLeastSumSpec : ChangeSpec := { name := "fnExactLeastSum", fn := fun _ => fun
  | [d] => { results := [.lit (.bool true)], args := [d] }
  | _ => none }
def fnExactLeastSumRow : OpenClaim := { program := "ytgcoemfnjdbhaaa", sum := "690af0cfdc18f54c93b180c7ca7720c7464db8f99878c84f3fbfc176176fcd46", func := "loop.example/onecounter/laws.FnExactLeastSum", spec := "fnExactLeastSum", unfollowed := true, recurses := true, apart := false }
def FnExactLeastSumSaid : Prop := fnExactLeastSumRow.holds Try.pinned (OpenSpec.ofChange fnExactLeastSumSpec)

/-- ITS FALSE NEIGHBOUR: 'it returns false'. Refute it at one input. -/
def fnExactLeastSumWrong : ChangeSpec := { name := "fnExactLeastSum", fn := fun _ => fun
  | [d] => { results := [.lit (.bool false)], args := [d] }
  | _ => none }
def FnExactLeastSumWrongFalsely : Prop := fnExactLeastSumRow.holds Try.pinned (OpenSpec.ofChange fnExactLeastSumWrong)

/-- 'laws.FnExactSpreadOf': WHATEVER THE INPUT: true; the input reads as it did. -/
def fnExactSpreadOfSpec : ChangeSpec := { name := "fnExactSpreadOf", fn := fun _ => fun
  | [d1, d2] => { results := [.lit (.bool true)], args := [d1, d2] }
  | _ => none }
def fnExactSpreadOfRow : OpenClaim := { program := "ytgcoemfnjdbhaaa", sum := "690af0cfdc18f54c93b180c7ca7720c7464db8f99878c84f3fbfc176176fcd46", func := "loop.example/onecounter/laws.FnExactSpreadOf", spec := "fnExactSpreadOf", unfollowed := true, recurses := true, apart := false }
def FnExactSpreadOfSaid : Prop := fnExactSpreadOfRow.holds Try.pinned (OpenSpec.ofChange fnExactSpreadOfSpec)

/-- ITS FALSE NEIGHBOUR: 'it returns false'. Refute it at one input. -/
def fnExactSpreadOfWrong : ChangeSpec := { name := "fnExactSpreadOf", fn := fun _ => fun
  | [d1, d2] => { results := [.lit (.bool false)], args := [d1, d2] }
  | _ => none }
def FnExactSpreadOfWrongFalsely : Prop := fnExactSpreadOfRow.holds Try.pinned (OpenSpec.ofChange fnExactSpreadOfWrong)

/- THE SECOND FORM. 'bulk': how many values and letters a reading holds, each counted each time it is reached (what is shared counts as often as it is met; a slice's spare places count too). A statement '..UptoSaid' is the law's where the arguments, and the package variables that the reading takes, are together of bulk at most 1048576: NARROWER than '..Said'. Prove '..Said' where nothing that the law and all that it calls make is longer than what came in: it says more and counts as full. Else prove '..UptoSaid'. A law counts once. -/
mutual
def uptoBulk {H : Type} : DataW H → Nat
  | .lit (.string bytes) => bytes.length + 1
  | .lit _ => 1
  | .nil => 1
  | .ptr d => uptoBulk d + 1
  | .slice elems spare => uptoBulkAll elems + uptoBulkAll spare + 1
  | .agg parts => uptoBulkAll parts + 1
  | .iface _ d => uptoBulk d + 1
  | .map entries => uptoBulkEntries entries + 1
  | .held _ => 1
def uptoBulkAll {H : Type} : List (DataW H) → Nat
  | [] => 0
  | d :: r => uptoBulk d + uptoBulkAll r
def uptoBulkEntries {H : Type} : List (Lit × DataW H) → Nat
  | [] => 0
  | x :: r => uptoBulkEntry x + uptoBulkEntries r
def uptoBulkEntry {H : Type} : Lit × DataW H → Nat
  | (.string bytes, d) => bytes.length + uptoBulk d + 1
  | (_, d) => uptoBulk d + 1
 end
def uptoSmall : (H : Type) → List (DataW H) → Bool := fun _ ds => decide (uptoBulkAll ds ≤ 1048576)
def OpenSpec.upto (s : _root_.Go.ChangeSpec) : _root_.Go.OpenSpec := { _root_.Go.OpenSpec.ofChange s with cond := some uptoSmall }

/-- 'laws.FnTimesOf', WHERE WHAT IT READS IS OF BULK AT MOST 1048576: true; the input reads as it did. -/
def fnTimesOfUptoRow : OpenClaim := { program := "ytgcoemfnjdbhaaa", sum := "690af0cfdc18f54c93b180c7ca7720c7464db8f99878c84f3fbfc176176fcd46", func := "loop.example/onecounter/laws.FnTimesOf", spec := "fnTimesOf", unfollowed := true, recurses := true, apart := false, narrowed := true }
def FnTimesOfUptoSaid : Prop := fnTimesOfUptoRow.holds Try.pinned (OpenSpec.upto fnTimesOfSpec)

/-- 'laws.FnSumOf', WHERE WHAT IT READS IS OF BULK AT MOST 1048576: true; the input reads as it did. -/
def fnSumOfUptoRow : OpenClaim := { program := "ytgcoemfnjdbhaaa", sum := "690af0cfdc18f54c93b180c7ca7720c7464db8f99878c84f3fbfc176176fcd46", func := "loop.example/onecounter/laws.FnSumOf", spec := "fnSumOf", unfollowed := true, recurses := true, apart := false, narrowed := true }
def FnSumOfUptoSaid : Prop := fnSumOfUptoRow.holds Try.pinned (OpenSpec.upto fnSumOfSpec)

/-- 'laws.FnThereAt', WHERE WHAT IT READS IS OF BULK AT MOST 1048576: true; the input reads as it did. -/
def fnThereAtUptoRow : OpenClaim := { program := "ytgcoemfnjdbhaaa", sum := "690af0cfdc18f54c93b180c7ca7720c7464db8f99878c84f3fbfc176176fcd46", func := "loop.example/onecounter/laws.FnThereAt", spec := "fnThereAt", unfollowed := true, recurses := true, apart := false, narrowed := true }
def FnThereAtUptoSaid : Prop := fnThereAtUptoRow.holds Try.pinned (OpenSpec.upto fnThereAtSpec)

/-- 'laws.FnLeastSum', WHERE WHAT IT READS IS OF BULK AT MOST 1048576: true; the input reads as it did. -/
def fnLeastSumUptoRow : OpenClaim := { program := "ytgcoemfnjdbhaaa", sum := "690af0cfdc18f54c93b180c7ca7720c7464db8f99878c84f3fbfc176176fcd46", func := "loop.example/onecounter/laws.FnLeastSum", spec := "fnLeastSum", unfollowed := true, recurses := true, apart := false, narrowed := true }
def FnLeastSumUptoSaid : Prop := fnLeastSumUptoRow.holds Try.pinned (OpenSpec.upto fnLeastSumSpec)

/-- 'laws.FnSpreadOf', WHERE WHAT IT READS IS OF BULK AT MOST 1048576: true; the input reads as it did. -/
def fnSpreadOfUptoRow : OpenClaim := { program := "ytgcoemfnjdbhaaa", sum := "690af0cfdc18f54c93b180c7ca7720c7464db8f99878c84f3fbfc176176fcd46", func := "loop.example/onecounter/laws.FnSpreadOf", spec := "fnSpreadOf", unfollowed := true, recurses := true, apart := false, narrowed := true }
def FnSpreadOfUptoSaid : Prop := fnSpreadOfUptoRow.holds Try.pinned (OpenSpec.upto fnSpreadOfSpec)

/-- 'laws.FnExactTimesOf', WHERE WHAT IT READS IS OF BULK AT MOST 1048576: true; the input reads as it did. -/
def fnExactTimesOfUptoRow : OpenClaim := { program := "ytgcoemfnjdbhaaa", sum := "690af0cfdc18f54c93b180c7ca7720c7464db8f99878c84f3fbfc176176fcd46", func := "loop.example/onecounter/laws.FnExactTimesOf", spec := "fnExactTimesOf", unfollowed := true, recurses := true, apart := false, narrowed := true }
def FnExactTimesOfUptoSaid : Prop := fnExactTimesOfUptoRow.holds Try.pinned (OpenSpec.upto fnExactTimesOfSpec)

/-- 'laws.FnExactSumOf', WHERE WHAT IT READS IS OF BULK AT MOST 1048576: true; the input reads as it did. -/
def fnExactSumOfUptoRow : OpenClaim := { program := "ytgcoemfnjdbhaaa", sum := "690af0cfdc18f54c93b180c7ca7720c7464db8f99878c84f3fbfc176176fcd46", func := "loop.example/onecounter/laws.FnExactSumOf", spec := "fnExactSumOf", unfollowed := true, recurses := true, apart := false, narrowed := true }
def FnExactSumOfUptoSaid : Prop := fnExactSumOfUptoRow.holds Try.pinned (OpenSpec.upto fnExactSumOfSpec)

/-- 'laws.FnExactThereAt', WHERE WHAT IT READS IS OF BULK AT MOST 1048576: true; the input reads as it did. -/
def fnExactThereAtUptoRow : OpenClaim := { program := "ytgcoemfnjdbhaaa", sum := "690af0cfdc18f54c93b180c7ca7720c7464db8f99878c84f3fbfc176176fcd46", func := "loop.example/onecounter/laws.FnExactThereAt", spec := "fnExactThereAt", unfollowed := true, recurses := true, apart := false, narrowed := true }
def FnExactThereAtUptoSaid : Prop := fnExactThereAtUptoRow.holds Try.pinned (OpenSpec.upto fnExactThereAtSpec)

/-- 'laws.FnExactLeastSum', WHERE WHAT IT READS IS OF BULK AT MOST 1048576: true; the input reads as it did. -/
def fnExactLeastSumUptoRow : OpenClaim := { program := "ytgcoemfnjdbhaaa", sum := "690af0cfdc18f54c93b180c7ca7720c7464db8f99878c84f3fbfc176176fcd46", func := "loop.example/onecounter/laws.FnExactLeastSum", spec := "fnExactLeastSum", unfollowed := true, recurses := true, apart := false, narrowed := true }
def FnExactLeastSumUptoSaid : Prop := fnExactLeastSumUptoRow.holds Try.pinned (OpenSpec.upto fnExactLeastSumSpec)

/-- 'laws.FnExactSpreadOf', WHERE WHAT IT READS IS OF BULK AT MOST 1048576: true; the input reads as it did. -/
def fnExactSpreadOfUptoRow : OpenClaim := { program := "ytgcoemfnjdbhaaa", sum := "690af0cfdc18f54c93b180c7ca7720c7464db8f99878c84f3fbfc176176fcd46", func := "loop.example/onecounter/laws.FnExactSpreadOf", spec := "fnExactSpreadOf", unfollowed := true, recurses := true, apart := false, narrowed := true }
def FnExactSpreadOfUptoSaid : Prop := fnExactSpreadOfUptoRow.holds Try.pinned (OpenSpec.upto fnExactSpreadOfSpec)

end Rows
end Go.Proofs.Ytgcoemfnjdbhaaa
