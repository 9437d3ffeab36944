/-
  No cell of these rows narrows 'for every input' (looked for: loops, veiled, ifaces, maps, wideKeys, modest, calm, conditions, laid).
  DERIVED. THE GIVEN ROWS OF THIS SEAT. 8 by the template 'for every input the law returns true; each argument reads behind the call as it read before'; 0 by the template 'total and deterministic' (their statements: YtmimcgjobgfgfaaTotals.lean).
  GIVEN WITH THE SEED: the statements are not yours to turn. If you find one false, say at which input.
  Laid BY PROGRAM, IN A SANDBOX (cutbox-rows.mjs): the forced cells as the released guide's own fill.sh prints them over the translation 03e4680ac5569f12… (all of the seat's roots in one cut). By AI agents, Wed Nov 11 2026. No macro, syntax, notation, axiom, sorry.
-/
import Derived.Test.YtmimcgjobgfgfaaChecked
import GoSem.Claim
import GoSem.ClaimJoined
import GoSem.ClaimMapViews
import Derived.JoinedTies
import Derived.KernelRfl
namespace Go.Proofs.Ytmimcgjobgfgfaa
/- THE CELL 'sum', in the pinned program and in every row, IS THE sha256 OF THE DUMP (.gsa) THAT YtmimcgjobgfgfaaProg.lean LOADS. Nothing in Lean hashes anything: it is a label: what it is worth is what the hold of that sum in a sandbox is worth. -/
noncomputable def Try.pinned : Pinned := { name := "ytmimcgjobgfgfaa", sum := "03e4680ac5569f123e297b600886e9c1af820fa1dbe7e2b5c82d1968aa9ebf08", checked := Try.checked }
namespace Rows
def none {H : Type} : Left H := { results := [], args := [] }

/-- 'laws.FnLastTimes': WHATEVER THE INPUT: true; the input reads as it did. -/
def fnLastTimesSpec : ChangeSpec := { name := "fnLastTimes", fn := fun _ => fun
  | [d] => { results := [.lit (.bool true)], args := [d] }
  | _ => none }
def fnLastTimesRow : OpenClaim := { program := "ytmimcgjobgfgfaa", sum := "03e4680ac5569f123e297b600886e9c1af820fa1dbe7e2b5c82d1968aa9ebf08", func := "loop.example/onecounter/laws.FnLastTimes", spec := "fnLastTimes", unfollowed := true, recurses := true, apart := false }
def FnLastTimesSaid : Prop := fnLastTimesRow.holds Try.pinned (OpenSpec.ofChange fnLastTimesSpec)

/-- ITS FALSE NEIGHBOUR: 'it returns false'. Refute it at one input. -/
def fnLastTimesWrong : ChangeSpec := { name := "fnLastTimes", fn := fun _ => fun
  | [d] => { results := [.lit (.bool false)], args := [d] }
  | _ => none }
def FnLastTimesWrongFalsely : Prop := fnLastTimesRow.holds Try.pinned (OpenSpec.ofChange fnLastTimesWrong)

/-- 'laws.FnPeriodFrom': WHATEVER THE INPUT: true; the input reads as it did. -/
def fnPeriodFromSpec : ChangeSpec := { name := "fnPeriodFrom", fn := fun _ => fun
  | [d] => { results := [.lit (.bool true)], args := [d] }
  | _ => none }
def fnPeriodFromRow : OpenClaim := { program := "ytmimcgjobgfgfaa", sum := "03e4680ac5569f123e297b600886e9c1af820fa1dbe7e2b5c82d1968aa9ebf08", func := "loop.example/onecounter/laws.FnPeriodFrom", spec := "fnPeriodFrom", unfollowed := true, recurses := true, apart := false }
def FnPeriodFromSaid : Prop := fnPeriodFromRow.holds Try.pinned (OpenSpec.ofChange fnPeriodFromSpec)

/-- ITS FALSE NEIGHBOUR: 'it returns false'. Refute it at one input. -/
def fnPeriodFromWrong : ChangeSpec := { name := "fnPeriodFrom", fn := fun _ => fun
  | [d] => { results := [.lit (.bool false)], args := [d] }
  | _ => none }
def FnPeriodFromWrongFalsely : Prop := fnPeriodFromRow.holds Try.pinned (OpenSpec.ofChange fnPeriodFromWrong)

/-- 'laws.FnLeftFor': WHATEVER THE INPUT: true; the input reads as it did. -/
def fnLeftForSpec : ChangeSpec := { name := "fnLeftFor", fn := fun _ => fun
  | [d] => { results := [.lit (.bool true)], args := [d] }
  | _ => none }
def fnLeftForRow : OpenClaim := { program := "ytmimcgjobgfgfaa", sum := "03e4680ac5569f123e297b600886e9c1af820fa1dbe7e2b5c82d1968aa9ebf08", func := "loop.example/onecounter/laws.FnLeftFor", spec := "fnLeftFor", unfollowed := true, recurses := true, apart := false }
def FnLeftForSaid : Prop := fnLeftForRow.holds Try.pinned (OpenSpec.ofChange fnLeftForSpec)

/-- ITS FALSE NEIGHBOUR: 'it returns false'. Refute it at one input. -/
def fnLeftForWrong : ChangeSpec := { name := "fnLeftFor", fn := fun _ => fun
  | [d] => { results := [.lit (.bool false)], args := [d] }
  | _ => none }
def FnLeftForWrongFalsely : Prop := fnLeftForRow.holds Try.pinned (OpenSpec.ofChange fnLeftForWrong)

/-- 'laws.FnDeepAt': WHATEVER THE INPUT: true; the input reads as it did. -/
def fnDeepAtSpec : ChangeSpec := { name := "fnDeepAt", fn := fun _ => fun
  | [d] => { results := [.lit (.bool true)], args := [d] }
  | _ => none }
def fnDeepAtRow : OpenClaim := { program := "ytmimcgjobgfgfaa", sum := "03e4680ac5569f123e297b600886e9c1af820fa1dbe7e2b5c82d1968aa9ebf08", func := "loop.example/onecounter/laws.FnDeepAt", spec := "fnDeepAt", unfollowed := true, recurses := true, apart := false }
def FnDeepAtSaid : Prop := fnDeepAtRow.holds Try.pinned (OpenSpec.ofChange fnDeepAtSpec)

/-- ITS FALSE NEIGHBOUR: 'it returns false'. Refute it at one input. -/
def fnDeepAtWrong : ChangeSpec := { name := "fnDeepAt", fn := fun _ => fun
  | [d] => { results := [.lit (.bool false)], args := [d] }
  | _ => none }
def FnDeepAtWrongFalsely : Prop := fnDeepAtRow.holds Try.pinned (OpenSpec.ofChange fnDeepAtWrong)

/-- 'laws.FnExactLastTimes': WHATEVER THE INPUT: true; the input reads as it did. -/
def fnExactLastTimesSpec : ChangeSpec := { name := "fnExactLastTimes", fn := fun _ => fun
  | [d] => { results := [.lit (.bool true)], args := [d] }
  | _ => none }
def fnExactLastTimesRow : OpenClaim := { program := "ytmimcgjobgfgfaa", sum := "03e4680ac5569f123e297b600886e9c1af820fa1dbe7e2b5c82d1968aa9ebf08", func := "loop.example/onecounter/laws.FnExactLastTimes", spec := "fnExactLastTimes", unfollowed := true, recurses := true, apart := false }
def FnExactLastTimesSaid : Prop := fnExactLastTimesRow.holds Try.pinned (OpenSpec.ofChange fnExactLastTimesSpec)

/-- ITS FALSE NEIGHBOUR: 'it returns false'. Refute it at one input. -/
def fnExactLastTimesWrong : ChangeSpec := { name := "fnExactLastTimes", fn := fun _ => fun
  | [d] => { results := [.lit (.bool false)], args := [d] }
  | _ => none }
def FnExactLastTimesWrongFalsely : Prop := fnExactLastTimesRow.holds Try.pinned (OpenSpec.ofChange fnExactLastTimesWrong)

/-- 'laws.FnExactPeriodFrom': WHATEVER THE INPUT: true; the input reads as it did. -/
def fnExactPeriodFromSpec : ChangeSpec := { name := "fnExactPeriodFrom", fn := fun _ => fun
  | [d1, d2] => { results := [.lit (.bool true)], args := [d1, d2] }
  | _ => none }
def fnExactPeriodFromRow : OpenClaim := { program := "ytmimcgjobgfgfaa", sum := "03e4680ac5569f123e297b600886e9c1af820fa1dbe7e2b5c82d1968aa9ebf08", func := "loop.example/onecounter/laws.FnExactPeriodFrom", spec := "fnExactPeriodFrom", unfollowed := true, recurses := true, apart := false }
def FnExactPeriodFromSaid : Prop := fnExactPeriodFromRow.holds Try.pinned (OpenSpec.ofChange fnExactPeriodFromSpec)

/-- ITS FALSE NEIGHBOUR: 'it returns false'. Refute it at one input. -/
def fnExactPeriodFromWrong : ChangeSpec := { name := "fnExactPeriodFrom", fn := fun _ => fun
  | [d1, d2] => { results := [.lit (.bool false)], args := [d1, d2] }
  | _ => none }
def FnExactPeriodFromWrongFalsely : Prop := fnExactPeriodFromRow.holds Try.pinned (OpenSpec.ofChange fnExactPeriodFromWrong)

/-- 'laws.FnExactLeftFor': WHATEVER THE INPUT: true; the input reads as it did. -/
def fnExactLeftForSpec : ChangeSpec := { name := "fnExactLeftFor", fn := fun _ => fun
  | [d1, d2] => { results := [.lit (.bool true)], args := [d1, d2] }
  | _ => none }
def fnExactLeftForRow : OpenClaim := { program := "ytmimcgjobgfgfaa", sum := "03e4680ac5569f123e297b600886e9c1af820fa1dbe7e2b5c82d1968aa9ebf08", func := "loop.example/onecounter/laws.FnExactLeftFor", spec := "fnExactLeftFor", unfollowed := true, recurses := true, apart := false }
def FnExactLeftForSaid : Prop := fnExactLeftForRow.holds Try.pinned (OpenSpec.ofChange fnExactLeftForSpec)

/-- ITS FALSE NEIGHBOUR: 'it returns false'. Refute it at one input. -/
def fnExactLeftForWrong : ChangeSpec := { name := "fnExactLeftFor", fn := fun _ => fun
  | [d1, d2] => { results := [.lit (.bool false)], args := [d1, d2] }
  | _ => none }
def FnExactLeftForWrongFalsely : Prop := fnExactLeftForRow.holds Try.pinned (OpenSpec.ofChange fnExactLeftForWrong)

/-- 'laws.FnExactDeepAt': WHATEVER THE INPUT: true; the input reads as it did. -/
def fnExactDeepAtSpec : ChangeSpec := { name := "fnExactDeepAt", fn := fun _ => fun
  | [d1, d2] => { results := [.lit (.bool true)], args := [d1, d2] }
  | _ => none }
def fnExactDeepAtRow : OpenClaim := { program := "ytmimcgjobgfgfaa", sum := "03e4680ac5569f123e297b600886e9c1af820fa1dbe7e2b5c82d1968aa9ebf08", func := "loop.example/onecounter/laws.FnExactDeepAt", spec := "fnExactDeepAt", unfollowed := true, recurses := true, apart := false }
def FnExactDeepAtSaid : Prop := fnExactDeepAtRow.holds Try.pinned (OpenSpec.ofChange fnExactDeepAtSpec)

/-- ITS FALSE NEIGHBOUR: 'it returns false'. Refute it at one input. -/
def fnExactDeepAtWrong : ChangeSpec := { name := "fnExactDeepAt", fn := fun _ => fun
  | [d1, d2] => { results := [.lit (.bool false)], args := [d1, d2] }
  | _ => none }
def FnExactDeepAtWrongFalsely : Prop := fnExactDeepAtRow.holds Try.pinned (OpenSpec.ofChange fnExactDeepAtWrong)

/- THE SECOND FORM. 'bulk': how many values and letters a reading holds, each counted each time it is reached (what is shared counts as often as it is met; a slice's spare places count too). A statement '..UptoSaid' is the law's where the arguments, and the package variables that the reading takes, are together of bulk at most 1048576: NARROWER than '..Said'. Prove '..Said' where nothing that the law and all that it calls make is longer than what came in: it says more and counts as full. Else prove '..UptoSaid'. A law counts once. -/
mutual
def uptoBulk {H : Type} : DataW H → Nat
  | .lit (.string bytes) => bytes.length + 1
  | .lit _ => 1
  | .nil => 1
  | .ptr d => uptoBulk d + 1
  | .slice elems spare => uptoBulkAll elems + uptoBulkAll spare + 1
  | .agg parts => uptoBulkAll parts + 1
  | .iface _ d => uptoBulk d + 1
  | .map entries => uptoBulkEntries entries + 1
  | .held _ => 1
def uptoBulkAll {H : Type} : List (DataW H) → Nat
  | [] => 0
  | d :: r => uptoBulk d + uptoBulkAll r
def uptoBulkEntries {H : Type} : List (Lit × DataW H) → Nat
  | [] => 0
  | x :: r => uptoBulkEntry x + uptoBulkEntries r
def uptoBulkEntry {H : Type} : Lit × DataW H → Nat
  | (.string bytes, d) => bytes.length + uptoBulk d + 1
  | (_, d) => uptoBulk d + 1
 end
def uptoSmall : (H : Type) → List (DataW H) → Bool := fun _ ds => decide (uptoBulkAll ds ≤ 1048576)
def OpenSpec.upto (s : _root_.Go.ChangeSpec) : _root_.Go.OpenSpec := { _root_.Go.OpenSpec.ofChange s with cond := some uptoSmall }

/-- 'laws.FnLastTimes', WHERE WHAT IT READS IS OF BULK AT MOST 1048576: true; the input reads as it did. -/
def fnLastTimesUptoRow : OpenClaim := { program := "ytmimcgjobgfgfaa", sum := "03e4680ac5569f123e297b600886e9c1af820fa1dbe7e2b5c82d1968aa9ebf08", func := "loop.example/onecounter/laws.FnLastTimes", spec := "fnLastTimes", unfollowed := true, recurses := true, apart := false, narrowed := true }
def FnLastTimesUptoSaid : Prop := fnLastTimesUptoRow.holds Try.pinned (OpenSpec.upto fnLastTimesSpec)

/-- 'laws.FnPeriodFrom', WHERE WHAT IT READS IS OF BULK AT MOST 1048576: true; the input reads as it did. -/
def fnPeriodFromUptoRow : OpenClaim := { program := "ytmimcgjobgfgfaa", sum := "03e4680ac5569f123e297b600886e9c1af820fa1dbe7e2b5c82d1968aa9ebf08", func := "loop.example/onecounter/laws.FnPeriodFrom", spec := "fnPeriodFrom", unfollowed := true, recurses := true, apart := false, narrowed := true }
def FnPeriodFromUptoSaid : Prop := fnPeriodFromUptoRow.holds Try.pinned (OpenSpec.upto fnPeriodFromSpec)

/-- 'laws.FnLeftFor', WHERE WHAT IT READS IS OF BULK AT MOST 1048576: true; the input reads as it did. -/
def fnLeftForUptoRow : OpenClaim := { program := "ytmimcgjobgfgfaa", sum := "03e4680ac5569f123e297b600886e9c1af820fa1dbe7e2b5c82d1968aa9ebf08", func := "loop.example/onecounter/laws.FnLeftFor", spec := "fnLeftFor", unfollowed := true, recurses := true, apart := false, narrowed := true }
def FnLeftForUptoSaid : Prop := fnLeftForUptoRow.holds Try.pinned (OpenSpec.upto fnLeftForSpec)

/-- 'laws.FnDeepAt', WHERE WHAT IT READS IS OF BULK AT MOST 1048576: true; the input reads as it did. -/
def fnDeepAtUptoRow : OpenClaim := { program := "ytmimcgjobgfgfaa", sum := "03e4680ac5569f123e297b600886e9c1af820fa1dbe7e2b5c82d1968aa9ebf08", func := "loop.example/onecounter/laws.FnDeepAt", spec := "fnDeepAt", unfollowed := true, recurses := true, apart := false, narrowed := true }
def FnDeepAtUptoSaid : Prop := fnDeepAtUptoRow.holds Try.pinned (OpenSpec.upto fnDeepAtSpec)

/-- 'laws.FnExactLastTimes', WHERE WHAT IT READS IS OF BULK AT MOST 1048576: true; the input reads as it did. -/
def fnExactLastTimesUptoRow : OpenClaim := { program := "ytmimcgjobgfgfaa", sum := "03e4680ac5569f123e297b600886e9c1af820fa1dbe7e2b5c82d1968aa9ebf08", func := "loop.example/onecounter/laws.FnExactLastTimes", spec := "fnExactLastTimes", unfollowed := true, recurses := true, apart := false, narrowed := true }
def FnExactLastTimesUptoSaid : Prop := fnExactLastTimesUptoRow.holds Try.pinned (OpenSpec.upto fnExactLastTimesSpec)

/-- 'laws.FnExactPeriodFrom', WHERE WHAT IT READS IS OF BULK AT MOST 1048576: true; the input reads as it did. -/
def fnExactPeriodFromUptoRow : OpenClaim := { program := "ytmimcgjobgfgfaa", sum := "03e4680ac5569f123e297b600886e9c1af820fa1dbe7e2b5c82d1968aa9ebf08", func := "loop.example/onecounter/laws.FnExactPeriodFrom", spec := "fnExactPeriodFrom", unfollowed := true, recurses := true, apart := false, narrowed := true }
def FnExactPeriodFromUptoSaid : Prop := fnExactPeriodFromUptoRow.holds Try.pinned (OpenSpec.upto fnExactPeriodFromSpec)

/-- 'laws.FnExactLeftFor', WHERE WHAT IT READS IS OF BULK AT MOST 1048576: true; the input reads as it did. -/
def fnExactLeftForUptoRow : OpenClaim := { program := "ytmimcgjobgfgfaa", sum := "03e4680ac5569f123e297b600886e9c1af820fa1dbe7e2b5c82d1968aa9ebf08", func := "loop.example/onecounter/laws.FnExactLeftFor", spec := "fnExactLeftFor", unfollowed := true, recurses := true, apart := false, narrowed := true }
def FnExactLeftForUptoSaid : Prop := fnExactLeftForUptoRow.holds Try.pinned (OpenSpec.upto fnExactLeftForSpec)

/-- 'laws.FnExactDeepAt', WHERE WHAT IT READS IS OF BULK AT MOST 1048576: true; the input reads as it did. -/
def fnExactDeepAtUptoRow : OpenClaim := { program := "ytmimcgjobgfgfaa", sum := "03e4680ac5569f123e297b600886e9c1af820fa1dbe7e2b5c82d1968aa9ebf08", func := "loop.example/onecounter/laws.FnExactDeepAt", spec := "fnExactDeepAt", unfollowed := true, recurses := true, apart := false, narrowed := true }
def FnExactDeepAtUptoSaid : Prop := fnExactDeepAtUptoRow.holds Try.pinned (OpenSpec.upto fnExactDeepAtSpec)

end Rows
end Go.Proofs.Ytmimcgjobgfgfaa
