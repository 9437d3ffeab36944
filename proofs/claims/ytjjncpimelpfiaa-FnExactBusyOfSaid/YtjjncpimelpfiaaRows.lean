/-
  No cell of these rows narrows 'for every input' (looked for: loops, veiled, ifaces, maps, wideKeys, modest, calm, conditions, laid).
  DERIVED. THE GIVEN ROWS OF THIS SEAT. 8 by the template 'for every input the law returns true; each argument reads behind the call as it read before'; 0 by the template 'total and deterministic' (their statements: YtjjncpimelpfiaaTotals.lean).
  GIVEN WITH THE SEED: the statements are not yours to turn. If you find one false, say at which input.
  Laid BY PROGRAM, IN A SANDBOX (cutbox-rows.mjs): the forced cells as the released guide's own fill.sh prints them over the translation 7ff2a7007cf27bd8… (all of the seat's roots in one cut). By AI agents, Wed Nov 11 2026. No macro, syntax, notation, axiom, sorry.
-/
import Derived.Test.YtjjncpimelpfiaaChecked
import GoSem.Claim
import GoSem.ClaimJoined
import GoSem.ClaimMapViews
import Derived.JoinedTies
import Derived.KernelRfl
namespace Go.Proofs.Ytjjncpimelpfiaa
/- THE CELL 'sum', in the pinned program and in every row, IS THE sha256 OF THE DUMP (.gsa) THAT YtjjncpimelpfiaaProg.lean LOADS. Nothing in Lean hashes anything: it is a label: what it is worth is what the hold of that sum in a sandbox is worth. -/
noncomputable def Try.pinned : Pinned := { name := "ytjjncpimelpfiaa", sum := "7ff2a7007cf27bd89434c6af9e9ef22198c34984edf40ada5213cdd8a9516e0d", checked := Try.checked }
namespace Rows
def none {H : Type} : Left H := { results := [], args := [] }

/-- 'laws.FnWorkAt': WHATEVER THE INPUT: true; the input reads as it did. -/
def fnWorkAtSpec : ChangeSpec := { name := "fnWorkAt", fn := fun _ => fun
  | [d] => { results := [.lit (.bool true)], args := [d] }
  | _ => none }
def fnWorkAtRow : OpenClaim := { program := "ytjjncpimelpfiaa", sum := "7ff2a7007cf27bd89434c6af9e9ef22198c34984edf40ada5213cdd8a9516e0d", func := "loop.example/onecounter/laws.FnWorkAt", spec := "fnWorkAt", unfollowed := true, recurses := true, apart := false }
def FnWorkAtSaid : Prop := fnWorkAtRow.holds Try.pinned (OpenSpec.ofChange fnWorkAtSpec)

/-- ITS FALSE NEIGHBOUR: 'it returns false'. Refute it at one input. -/
def fnWorkAtWrong : ChangeSpec := { name := "fnWorkAt", fn := fun _ => fun
  | [d] => { results := [.lit (.bool false)], args := [d] }
  | _ => none }
def FnWorkAtWrongFalsely : Prop := fnWorkAtRow.holds Try.pinned (OpenSpec.ofChange fnWorkAtWrong)

/-- 'laws.FnBusyOf': WHATEVER THE INPUT: true; the input reads as it did. -/
def fnBusyOfSpec : ChangeSpec := { name := "fnBusyOf", fn := fun _ => fun
  | [d] => { results := [.lit (.bool true)], args := [d] }
  | _ => none }
def fnBusyOfRow : OpenClaim := { program := "ytjjncpimelpfiaa", sum := "7ff2a7007cf27bd89434c6af9e9ef22198c34984edf40ada5213cdd8a9516e0d", func := "loop.example/onecounter/laws.FnBusyOf", spec := "fnBusyOf", unfollowed := true, recurses := true, apart := false }
def FnBusyOfSaid : Prop := fnBusyOfRow.holds Try.pinned (OpenSpec.ofChange fnBusyOfSpec)

/-- ITS FALSE NEIGHBOUR: 'it returns false'. Refute it at one input. -/
def fnBusyOfWrong : ChangeSpec := { name := "fnBusyOf", fn := fun _ => fun
  | [d] => { results := [.lit (.bool false)], args := [d] }
  | _ => none }
def FnBusyOfWrongFalsely : Prop := fnBusyOfRow.holds Try.pinned (OpenSpec.ofChange fnBusyOfWrong)

/-- 'laws.FnComeIn': WHATEVER THE INPUT: true; the input reads as it did. -/
def fnComeInSpec : ChangeSpec := { name := "fnComeIn", fn := fun _ => fun
  | [d] => { results := [.lit (.bool true)], args := [d] }
  | _ => none }
def fnComeInRow : OpenClaim := { program := "ytjjncpimelpfiaa", sum := "7ff2a7007cf27bd89434c6af9e9ef22198c34984edf40ada5213cdd8a9516e0d", func := "loop.example/onecounter/laws.FnComeIn", spec := "fnComeIn", unfollowed := true, recurses := true, apart := false }
def FnComeInSaid : Prop := fnComeInRow.holds Try.pinned (OpenSpec.ofChange fnComeInSpec)

/-- ITS FALSE NEIGHBOUR: 'it returns false'. Refute it at one input. -/
def fnComeInWrong : ChangeSpec := { name := "fnComeIn", fn := fun _ => fun
  | [d] => { results := [.lit (.bool false)], args := [d] }
  | _ => none }
def FnComeInWrongFalsely : Prop := fnComeInRow.holds Try.pinned (OpenSpec.ofChange fnComeInWrong)

/-- 'laws.FnServedBy': WHATEVER THE INPUT: true; the input reads as it did. -/
def fnServedBySpec : ChangeSpec := { name := "fnServedBy", fn := fun _ => fun
  | [d] => { results := [.lit (.bool true)], args := [d] }
  | _ => none }
def fnServedByRow : OpenClaim := { program := "ytjjncpimelpfiaa", sum := "7ff2a7007cf27bd89434c6af9e9ef22198c34984edf40ada5213cdd8a9516e0d", func := "loop.example/onecounter/laws.FnServedBy", spec := "fnServedBy", unfollowed := true, recurses := true, apart := false }
def FnServedBySaid : Prop := fnServedByRow.holds Try.pinned (OpenSpec.ofChange fnServedBySpec)

/-- ITS FALSE NEIGHBOUR: 'it returns false'. Refute it at one input. -/
def fnServedByWrong : ChangeSpec := { name := "fnServedBy", fn := fun _ => fun
  | [d] => { results := [.lit (.bool false)], args := [d] }
  | _ => none }
def FnServedByWrongFalsely : Prop := fnServedByRow.holds Try.pinned (OpenSpec.ofChange fnServedByWrong)

/-- 'laws.FnExactWorkAt': WHATEVER THE INPUT: true; the input reads as it did. -/
def fnExactWorkAtSpec : ChangeSpec := { name := "fnExactWorkAt", fn := fun _ => fun
  | [d1, d2] => { results := [.lit (.bool true)], args := [d1, d2] }
  | _ => none }
def fnExactWorkAtRow : OpenClaim := { program := "ytjjncpimelpfiaa", sum := "7ff2a7007cf27bd89434c6af9e9ef22198c34984edf40ada5213cdd8a9516e0d", func := "loop.example/onecounter/laws.FnExactWorkAt", spec := "fnExactWorkAt", unfollowed := true, recurses := true, apart := false }
def FnExactWorkAtSaid : Prop := fnExactWorkAtRow.holds Try.pinned (OpenSpec.ofChange fnExactWorkAtSpec)

/-- ITS FALSE NEIGHBOUR: 'it returns false'. Refute it at one input. -/
def fnExactWorkAtWrong : ChangeSpec := { name := "fnExactWorkAt", fn := fun _ => fun
  | [d1, d2] => { results := [.lit (.bool false)], args := [d1, d2] }
  | _ => none }
def FnExactWorkAtWrongFalsely : Prop := fnExactWorkAtRow.holds Try.pinned (OpenSpec.ofChange fnExactWorkAtWrong)

/-- 'laws.FnExactBusyOf': WHATEVER THE INPUT: true; the input reads as it did. -/
def fnExactBusyOfSpec : ChangeSpec := { name := "fnExactBusyOf", fn := fun _ => fun
  | [d] => { results := [.lit (.bool true)], args := [d] }
  | _ => none }
def fnExactBusyOfRow : OpenClaim := { program := "ytjjncpimelpfiaa", sum := "7ff2a7007cf27bd89434c6af9e9ef22198c34984edf40ada5213cdd8a9516e0d", func := "loop.example/onecounter/laws.FnExactBusyOf", spec := "fnExactBusyOf", unfollowed := true, recurses := true, apart := false }
def FnExactBusyOfSaid : Prop := fnExactBusyOfRow.holds Try.pinned (OpenSpec.ofChange fnExactBusyOfSpec)

/-- ITS FALSE NEIGHBOUR: 'it returns false'. Refute it at one input. -/
def fnExactBusyOfWrong : ChangeSpec := { name := "fnExactBusyOf", fn := fun _ => fun
  | [d] => { results := [.lit (.bool false)], args := [d] }
  | _ => none }
def FnExactBusyOfWrongFalsely : Prop := fnExactBusyOfRow.holds Try.pinned (OpenSpec.ofChange fnExactBusyOfWrong)

/-- 'laws.FnExactComeIn': WHATEVER THE INPUT: true; the input reads as it did. -/
def fnExactComeInSpec : ChangeSpec := { name := "fnExactComeIn", fn := fun _ => fun
  | [d1, d2] => { results := [.lit (.bool true)], args := [d1, d2] }
  | _ => none }
def fnExactComeInRow : OpenClaim := { program := "ytjjncpimelpfiaa", sum := "7ff2a7007cf27bd89434c6af9e9ef22198c34984edf40ada5213cdd8a9516e0d", func := "loop.example/onecounter/laws.FnExactComeIn", spec := "fnExactComeIn", unfollowed := true, recurses := true, apart := false }
def FnExactComeInSaid : Prop := fnExactComeInRow.holds Try.pinned (OpenSpec.ofChange fnExactComeInSpec)

/-- ITS FALSE NEIGHBOUR: 'it returns false'. Refute it at one input. -/
def fnExactComeInWrong : ChangeSpec := { name := "fnExactComeIn", fn := fun _ => fun
  | [d1, d2] => { results := [.lit (.bool false)], args := [d1, d2] }
  | _ => none }
def FnExactComeInWrongFalsely : Prop := fnExactComeInRow.holds Try.pinned (OpenSpec.ofChange fnExactComeInWrong)

/-- 'laws.FnExactServedBy': WHATEVER THE INPUT: true; the input reads as it did. -/
def fnExactServedBySpec : ChangeSpec := { name := "fnExactServedBy", fn := fun _ => fun
  | [d1, d2] => { results := [.lit (.bool true)], args := [d1, d2] }
  | _ => none }
def fnExactServedByRow : OpenClaim := { program := "ytjjncpimelpfiaa", sum := "7ff2a7007cf27bd89434c6af9e9ef22198c34984edf40ada5213cdd8a9516e0d", func := "loop.example/onecounter/laws.FnExactServedBy", spec := "fnExactServedBy", unfollowed := true, recurses := true, apart := false }
def FnExactServedBySaid : Prop := fnExactServedByRow.holds Try.pinned (OpenSpec.ofChange fnExactServedBySpec)

/-- ITS FALSE NEIGHBOUR: 'it returns false'. Refute it at one input. -/
def fnExactServedByWrong : ChangeSpec := { name := "fnExactServedBy", fn := fun _ => fun
  | [d1, d2] => { results := [.lit (.bool false)], args := [d1, d2] }
  | _ => none }
def FnExactServedByWrongFalsely : Prop := fnExactServedByRow.holds Try.pinned (OpenSpec.ofChange fnExactServedByWrong)

/- THE SECOND FORM. 'bulk': how many values and letters a reading holds, each counted each time it is reached (what is shared counts as often as it is met; a slice's spare places count too). A statement '..UptoSaid' is the law's where the arguments, and the package variables that the reading takes, are together of bulk at most 1048576: NARROWER than '..Said'. Prove '..Said' where nothing that the law and all that it calls make is longer than what came in: it says more and counts as full. Else prove '..UptoSaid'. A law counts once. -/
mutual
def uptoBulk {H : Type} : DataW H → Nat
  | .lit (.string bytes) => bytes.length + 1
  | .lit _ => 1
  | .nil => 1
  | .ptr d => uptoBulk d + 1
  | .slice elems spare => uptoBulkAll elems + uptoBulkAll spare + 1
  | .agg parts => uptoBulkAll parts + 1
  | .iface _ d => uptoBulk d + 1
  | .map entries => uptoBulkEntries entries + 1
  | .held _ => 1
def uptoBulkAll {H : Type} : List (DataW H) → Nat
  | [] => 0
  | d :: r => uptoBulk d + uptoBulkAll r
def uptoBulkEntries {H : Type} : List (Lit × DataW H) → Nat
  | [] => 0
  | x :: r => uptoBulkEntry x + uptoBulkEntries r
def uptoBulkEntry {H : Type} : Lit × DataW H → Nat
  | (.string bytes, d) => bytes.length + uptoBulk d + 1
  | (_, d) => uptoBulk d + 1
 end
def uptoSmall : (H : Type) → List (DataW H) → Bool := fun _ ds => decide (uptoBulkAll ds ≤ 1048576)
def OpenSpec.upto (s : _root_.Go.ChangeSpec) : _root_.Go.OpenSpec := { _root_.Go.OpenSpec.ofChange s with cond := some uptoSmall }

/-- 'laws.FnWorkAt', WHERE WHAT IT READS IS OF BULK AT MOST 1048576: true; the input reads as it did. -/
def fnWorkAtUptoRow : OpenClaim := { program := "ytjjncpimelpfiaa", sum := "7ff2a7007cf27bd89434c6af9e9ef22198c34984edf40ada5213cdd8a9516e0d", func := "loop.example/onecounter/laws.FnWorkAt", spec := "fnWorkAt", unfollowed := true, recurses := true, apart := false, narrowed := true }
def FnWorkAtUptoSaid : Prop := fnWorkAtUptoRow.holds Try.pinned (OpenSpec.upto fnWorkAtSpec)

/-- 'laws.FnBusyOf', WHERE WHAT IT READS IS OF BULK AT MOST 1048576: true; the input reads as it did. -/
def fnBusyOfUptoRow : OpenClaim := { program := "ytjjncpimelpfiaa", sum := "7ff2a7007cf27bd89434c6af9e9ef22198c34984edf40ada5213cdd8a9516e0d", func := "loop.example/onecounter/laws.FnBusyOf", spec := "fnBusyOf", unfollowed := true, recurses := true, apart := false, narrowed := true }
def FnBusyOfUptoSaid : Prop := fnBusyOfUptoRow.holds Try.pinned (OpenSpec.upto fnBusyOfSpec)

/-- 'laws.FnComeIn', WHERE WHAT IT READS IS OF BULK AT MOST 1048576: true; the input reads as it did. -/
def fnComeInUptoRow : OpenClaim := { program := "ytjjncpimelpfiaa", sum := "7ff2a7007cf27bd89434c6af9e9ef22198c34984edf40ada5213cdd8a9516e0d", func := "loop.example/onecounter/laws.FnComeIn", spec := "fnComeIn", unfollowed := true, recurses := true, apart := false, narrowed := true }
def FnComeInUptoSaid : Prop := fnComeInUptoRow.holds Try.pinned (OpenSpec.upto fnComeInSpec)

/-- 'laws.FnServedBy', WHERE WHAT IT READS IS OF BULK AT MOST 1048576: true; the input reads as it did. -/
def fnServedByUptoRow : OpenClaim := { program := "ytjjncpimelpfiaa", sum := "7ff2a7007cf27bd89434c6af9e9ef22198c34984edf40ada5213cdd8a9516e0d", func := "loop.example/onecounter/laws.FnServedBy", spec := "fnServedBy", unfollowed := true, recurses := true, apart := false, narrowed := true }
def FnServedByUptoSaid : Prop := fnServedByUptoRow.holds Try.pinned (OpenSpec.upto fnServedBySpec)

/-- 'laws.FnExactWorkAt', WHERE WHAT IT READS IS OF BULK AT MOST 1048576: true; the input reads as it did. -/
def fnExactWorkAtUptoRow : OpenClaim := { program := "ytjjncpimelpfiaa", sum := "7ff2a7007cf27bd89434c6af9e9ef22198c34984edf40ada5213cdd8a9516e0d", func := "loop.example/onecounter/laws.FnExactWorkAt", spec := "fnExactWorkAt", unfollowed := true, recurses := true, apart := false, narrowed := true }
def FnExactWorkAtUptoSaid : Prop := fnExactWorkAtUptoRow.holds Try.pinned (OpenSpec.upto fnExactWorkAtSpec)

/-- 'laws.FnExactBusyOf', WHERE WHAT IT READS IS OF BULK AT MOST 1048576: true; the input reads as it did. -/
def fnExactBusyOfUptoRow : OpenClaim := { program := "ytjjncpimelpfiaa", sum := "7ff2a7007cf27bd89434c6af9e9ef22198c34984edf40ada5213cdd8a9516e0d", func := "loop.example/onecounter/laws.FnExactBusyOf", spec := "fnExactBusyOf", unfollowed := true, recurses := true, apart := false, narrowed := true }
def FnExactBusyOfUptoSaid : Prop := fnExactBusyOfUptoRow.holds Try.pinned (OpenSpec.upto fnExactBusyOfSpec)

/-- 'laws.FnExactComeIn', WHERE WHAT IT READS IS OF BULK AT MOST 1048576: true; the input reads as it did. -/
def fnExactComeInUptoRow : OpenClaim := { program := "ytjjncpimelpfiaa", sum := "7ff2a7007cf27bd89434c6af9e9ef22198c34984edf40ada5213cdd8a9516e0d", func := "loop.example/onecounter/laws.FnExactComeIn", spec := "fnExactComeIn", unfollowed := true, recurses := true, apart := false, narrowed := true }
def FnExactComeInUptoSaid : Prop := fnExactComeInUptoRow.holds Try.pinned (OpenSpec.upto fnExactComeInSpec)

/-- 'laws.FnExactServedBy', WHERE WHAT IT READS IS OF BULK AT MOST 1048576: true; the input reads as it did. -/
def fnExactServedByUptoRow : OpenClaim := { program := "ytjjncpimelpfiaa", sum := "7ff2a7007cf27bd89434c6af9e9ef22198c34984edf40ada5213cdd8a9516e0d", func := "loop.example/onecounter/laws.FnExactServedBy", spec := "fnExactServedBy", unfollowed := true, recurses := true, apart := false, narrowed := true }
def FnExactServedByUptoSaid : Prop := fnExactServedByUptoRow.holds Try.pinned (OpenSpec.upto fnExactServedBySpec)

end Rows
end Go.Proofs.Ytjjncpimelpfiaa
