/-
  No cell of these rows narrows 'for every input' (looked for: loops, veiled, ifaces, maps, wideKeys, modest, calm, conditions, laid).
  DERIVED. THE GIVEN ROWS OF THIS SEAT. 8 by the template 'for every input the law returns true; each argument reads behind the call as it read before'; 0 by the template 'total and deterministic' (their statements: YtbipeoepcndecaaTotals.lean).
  GIVEN WITH THE SEED: the statements are not yours to turn. If you find one false, say at which input.
  Laid BY PROGRAM, IN A SANDBOX (cutbox-rows.mjs): the forced cells as the released guide's own fill.sh prints them over the translation 55b619bc85027959… (all of the seat's roots in one cut). By AI agents, Wed Nov 11 2026. No macro, syntax, notation, axiom, sorry.
-/
import Derived.Test.YtbipeoepcndecaaChecked
import GoSem.Claim
import GoSem.ClaimJoined
import GoSem.ClaimMapViews
import Derived.JoinedTies
import Derived.KernelRfl
namespace Go.Proofs.Ytbipeoepcndecaa
/- THE CELL 'sum', in the pinned program and in every row, IS THE sha256 OF THE DUMP (.gsa) THAT YtbipeoepcndecaaProg.lean LOADS. Nothing in Lean hashes anything: it is a label: what it is worth is what the hold of that sum in a sandbox is worth. -/
noncomputable def Try.pinned : Pinned := { name := "ytbipeoepcndecaa", sum := "55b619bc850279592ca55a1887123cdd8f128d781cab1ee278d0e0eeb2d56417", checked := Try.checked }
namespace Rows
def none {H : Type} : Left H := { results := [], args := [] }

/-- 'laws.FnAreaOf': WHATEVER THE INPUT: true; the input reads as it did. -/
def fnAreaOfSpec : ChangeSpec := { name := "fnAreaOf", fn := fun _ => fun
  | [d] => { results := [.lit (.bool true)], args := [d] }
  | _ => none }
def fnAreaOfRow : OpenClaim := { program := "ytbipeoepcndecaa", sum := "55b619bc850279592ca55a1887123cdd8f128d781cab1ee278d0e0eeb2d56417", func := "loop.example/onecounter/laws.FnAreaOf", spec := "fnAreaOf", unfollowed := true, recurses := true, apart := false }
def FnAreaOfSaid : Prop := fnAreaOfRow.holds Try.pinned (OpenSpec.ofChange fnAreaOfSpec)

/-- ITS FALSE NEIGHBOUR: 'it returns false'. Refute it at one input. -/
def fnAreaOfWrong : ChangeSpec := { name := "fnAreaOf", fn := fun _ => fun
  | [d] => { results := [.lit (.bool false)], args := [d] }
  | _ => none }
def FnAreaOfWrongFalsely : Prop := fnAreaOfRow.holds Try.pinned (OpenSpec.ofChange fnAreaOfWrong)

/-- 'laws.FnWaitingArea': WHATEVER THE INPUT: true; the input reads as it did. -/
def fnWaitingAreaSpec : ChangeSpec := { name := "fnWaitingArea", fn := fun _ => fun
  | [d] => { results := [.lit (.bool true)], args := [d] }
  | _ => none }
def fnWaitingAreaRow : OpenClaim := { program := "ytbipeoepcndecaa", sum := "55b619bc850279592ca55a1887123cdd8f128d781cab1ee278d0e0eeb2d56417", func := "loop.example/onecounter/laws.FnWaitingArea", spec := "fnWaitingArea", unfollowed := true, recurses := true, apart := false }
def FnWaitingAreaSaid : Prop := fnWaitingAreaRow.holds Try.pinned (OpenSpec.ofChange fnWaitingAreaSpec)

/-- ITS FALSE NEIGHBOUR: 'it returns false'. Refute it at one input. -/
def fnWaitingAreaWrong : ChangeSpec := { name := "fnWaitingArea", fn := fun _ => fun
  | [d] => { results := [.lit (.bool false)], args := [d] }
  | _ => none }
def FnWaitingAreaWrongFalsely : Prop := fnWaitingAreaRow.holds Try.pinned (OpenSpec.ofChange fnWaitingAreaWrong)

/-- 'laws.FnWorkArea': WHATEVER THE INPUT: true; the input reads as it did. -/
def fnWorkAreaSpec : ChangeSpec := { name := "fnWorkArea", fn := fun _ => fun
  | [d] => { results := [.lit (.bool true)], args := [d] }
  | _ => none }
def fnWorkAreaRow : OpenClaim := { program := "ytbipeoepcndecaa", sum := "55b619bc850279592ca55a1887123cdd8f128d781cab1ee278d0e0eeb2d56417", func := "loop.example/onecounter/laws.FnWorkArea", spec := "fnWorkArea", unfollowed := true, recurses := true, apart := false }
def FnWorkAreaSaid : Prop := fnWorkAreaRow.holds Try.pinned (OpenSpec.ofChange fnWorkAreaSpec)

/-- ITS FALSE NEIGHBOUR: 'it returns false'. Refute it at one input. -/
def fnWorkAreaWrong : ChangeSpec := { name := "fnWorkArea", fn := fun _ => fun
  | [d] => { results := [.lit (.bool false)], args := [d] }
  | _ => none }
def FnWorkAreaWrongFalsely : Prop := fnWorkAreaRow.holds Try.pinned (OpenSpec.ofChange fnWorkAreaWrong)

/-- 'laws.FnWorkBy': WHATEVER THE INPUT: true; the input reads as it did. -/
def fnWorkBySpec : ChangeSpec := { name := "fnWorkBy", fn := fun _ => fun
  | [d] => { results := [.lit (.bool true)], args := [d] }
  | _ => none }
def fnWorkByRow : OpenClaim := { program := "ytbipeoepcndecaa", sum := "55b619bc850279592ca55a1887123cdd8f128d781cab1ee278d0e0eeb2d56417", func := "loop.example/onecounter/laws.FnWorkBy", spec := "fnWorkBy", unfollowed := true, recurses := true, apart := false }
def FnWorkBySaid : Prop := fnWorkByRow.holds Try.pinned (OpenSpec.ofChange fnWorkBySpec)

/-- ITS FALSE NEIGHBOUR: 'it returns false'. Refute it at one input. -/
def fnWorkByWrong : ChangeSpec := { name := "fnWorkBy", fn := fun _ => fun
  | [d] => { results := [.lit (.bool false)], args := [d] }
  | _ => none }
def FnWorkByWrongFalsely : Prop := fnWorkByRow.holds Try.pinned (OpenSpec.ofChange fnWorkByWrong)

/-- 'laws.FnExactAreaOf': WHATEVER THE INPUT: true; the input reads as it did. -/
def fnExactAreaOfSpec : ChangeSpec := { name := "fnExactAreaOf", fn := fun _ => fun
  | [d1, d2] => { results := [.lit (.bool true)], args := [d1, d2] }
  | _ => none }
def fnExactAreaOfRow : OpenClaim := { program := "ytbipeoepcndecaa", sum := "55b619bc850279592ca55a1887123cdd8f128d781cab1ee278d0e0eeb2d56417", func := "loop.example/onecounter/laws.FnExactAreaOf", spec := "fnExactAreaOf", unfollowed := true, recurses := true, apart := false }
def FnExactAreaOfSaid : Prop := fnExactAreaOfRow.holds Try.pinned (OpenSpec.ofChange fnExactAreaOfSpec)

/-- ITS FALSE NEIGHBOUR: 'it returns false'. Refute it at one input. -/
def fnExactAreaOfWrong : ChangeSpec := { name := "fnExactAreaOf", fn := fun _ => fun
  | [d1, d2] => { results := [.lit (.bool false)], args := [d1, d2] }
  | _ => none }
def FnExactAreaOfWrongFalsely : Prop := fnExactAreaOfRow.holds Try.pinned (OpenSpec.ofChange fnExactAreaOfWrong)

/-- 'laws.FnExactWaitingArea': WHATEVER THE INPUT: true; the input reads as it did. -/
def fnExactWaitingAreaSpec : ChangeSpec := { name := "fnExactWaitingArea", fn := fun _ => fun
  | [d1, d2] => { results := [.lit (.bool true)], args := [d1, d2] }
  | _ => none }
def fnExactWaitingAreaRow : OpenClaim := { program := "ytbipeoepcndecaa", sum := "55b619bc850279592ca55a1887123cdd8f128d781cab1ee278d0e0eeb2d56417", func := "loop.example/onecounter/laws.FnExactWaitingArea", spec := "fnExactWaitingArea", unfollowed := true, recurses := true, apart := false }
def FnExactWaitingAreaSaid : Prop := fnExactWaitingAreaRow.holds Try.pinned (OpenSpec.ofChange fnExactWaitingAreaSpec)

/-- ITS FALSE NEIGHBOUR: 'it returns false'. Refute it at one input. -/
def fnExactWaitingAreaWrong : ChangeSpec := { name := "fnExactWaitingArea", fn := fun _ => fun
  | [d1, d2] => { results := [.lit (.bool false)], args := [d1, d2] }
  | _ => none }
def FnExactWaitingAreaWrongFalsely : Prop := fnExactWaitingAreaRow.holds Try.pinned (OpenSpec.ofChange fnExactWaitingAreaWrong)

/-- 'laws.FnExactWorkArea': WHATEVER THE INPUT: true; the input reads as it did. -/
def fnExactWorkAreaSpec : ChangeSpec := { name := "fnExactWorkArea", fn := fun _ => fun
  | [d] => { results := [.lit (.bool true)], args := [d] }
  | _ => none }
def fnExactWorkAreaRow : OpenClaim := { program := "ytbipeoepcndecaa", sum := "55b619bc850279592ca55a1887123cdd8f128d781cab1ee278d0e0eeb2d56417", func := "loop.example/onecounter/laws.FnExactWorkArea", spec := "fnExactWorkArea", unfollowed := true, recurses := true, apart := false }
def FnExactWorkAreaSaid : Prop := fnExactWorkAreaRow.holds Try.pinned (OpenSpec.ofChange fnExactWorkAreaSpec)

/-- ITS FALSE NEIGHBOUR: 'it returns false'. Refute it at one input. -/
def fnExactWorkAreaWrong : ChangeSpec := { name := "fnExactWorkArea", fn := fun _ => fun
  | [d] => { results := [.lit (.bool false)], args := [d] }
  | _ => none }
def FnExactWorkAreaWrongFalsely : Prop := fnExactWorkAreaRow.holds Try.pinned (OpenSpec.ofChange fnExactWorkAreaWrong)

/-- 'laws.FnExactWorkBy': WHATEVER THE INPUT: true; the input reads as it did. -/
def fnExactWorkBySpec : ChangeSpec := { name := "fnExactWorkBy", fn := fun _ => fun
  | [d] => { results := [.lit (.bool true)], args := [d] }
  | _ => none }
def fnExactWorkByRow : OpenClaim := { program := "ytbipeoepcndecaa", sum := "55b619bc850279592ca55a1887123cdd8f128d781cab1ee278d0e0eeb2d56417", func := "loop.example/onecounter/laws.FnExactWorkBy", spec := "fnExactWorkBy", unfollowed := true, recurses := true, apart := false }
def FnExactWorkBySaid : Prop := fnExactWorkByRow.holds Try.pinned (OpenSpec.ofChange fnExactWorkBySpec)

/-- ITS FALSE NEIGHBOUR: 'it returns false'. Refute it at one input. -/
def fnExactWorkByWrong : ChangeSpec := { name := "fnExactWorkBy", fn := fun _ => fun
  | [d] => { results := [.lit (.bool false)], args := [d] }
  | _ => none }
def FnExactWorkByWrongFalsely : Prop := fnExactWorkByRow.holds Try.pinned (OpenSpec.ofChange fnExactWorkByWrong)

/- THE SECOND FORM. 'bulk': how many values and letters a reading holds, each counted each time it is reached (what is shared counts as often as it is met; a slice's spare places count too). A statement '..UptoSaid' is the law's where the arguments, and the package variables that the reading takes, are together of bulk at most 1048576: NARROWER than '..Said'. Prove '..Said' where nothing that the law and all that it calls make is longer than what came in: it says more and counts as full. Else prove '..UptoSaid'. A law counts once. -/
mutual
def uptoBulk {H : Type} : DataW H → Nat
  | .lit (.string bytes) => bytes.length + 1
  | .lit _ => 1
  | .nil => 1
  | .ptr d => uptoBulk d + 1
  | .slice elems spare => uptoBulkAll elems + uptoBulkAll spare + 1
  | .agg parts => uptoBulkAll parts + 1
  | .iface _ d => uptoBulk d + 1
  | .map entries => uptoBulkEntries entries + 1
  | .held _ => 1
def uptoBulkAll {H : Type} : List (DataW H) → Nat
  | [] => 0
  | d :: r => uptoBulk d + uptoBulkAll r
def uptoBulkEntries {H : Type} : List (Lit × DataW H) → Nat
  | [] => 0
  | x :: r => uptoBulkEntry x + uptoBulkEntries r
def uptoBulkEntry {H : Type} : Lit × DataW H → Nat
  | (.string bytes, d) => bytes.length + uptoBulk d + 1
  | (_, d) => uptoBulk d + 1
 end
def uptoSmall : (H : Type) → List (DataW H) → Bool := fun _ ds => decide (uptoBulkAll ds ≤ 1048576)
def OpenSpec.upto (s : _root_.Go.ChangeSpec) : _root_.Go.OpenSpec := { _root_.Go.OpenSpec.ofChange s with cond := some uptoSmall }

/-- 'laws.FnAreaOf', WHERE WHAT IT READS IS OF BULK AT MOST 1048576: true; the input reads as it did. -/
def fnAreaOfUptoRow : OpenClaim := { program := "ytbipeoepcndecaa", sum := "55b619bc850279592ca55a1887123cdd8f128d781cab1ee278d0e0eeb2d56417", func := "loop.example/onecounter/laws.FnAreaOf", spec := "fnAreaOf", unfollowed := true, recurses := true, apart := false, narrowed := true }
def FnAreaOfUptoSaid : Prop := fnAreaOfUptoRow.holds Try.pinned (OpenSpec.upto fnAreaOfSpec)

/-- 'laws.FnWaitingArea', WHERE WHAT IT READS IS OF BULK AT MOST 1048576: true; the input reads as it did. -/
def fnWaitingAreaUptoRow : OpenClaim := { program := "ytbipeoepcndecaa", sum := "55b619bc850279592ca55a1887123cdd8f128d781cab1ee278d0e0eeb2d56417", func := "loop.example/onecounter/laws.FnWaitingArea", spec := "fnWaitingArea", unfollowed := true, recurses := true, apart := false, narrowed := true }
def FnWaitingAreaUptoSaid : Prop := fnWaitingAreaUptoRow.holds Try.pinned (OpenSpec.upto fnWaitingAreaSpec)

/-- 'laws.FnWorkArea', WHERE WHAT IT READS IS OF BULK AT MOST 1048576: true; the input reads as it did. -/
def fnWorkAreaUptoRow : OpenClaim := { program := "ytbipeoepcndecaa", sum := "55b619bc850279592ca55a1887123cdd8f128d781cab1ee278d0e0eeb2d56417", func := "loop.example/onecounter/laws.FnWorkArea", spec := "fnWorkArea", unfollowed := true, recurses := true, apart := false, narrowed := true }
def FnWorkAreaUptoSaid : Prop := fnWorkAreaUptoRow.holds Try.pinned (OpenSpec.upto fnWorkAreaSpec)

/-- 'laws.FnWorkBy', WHERE WHAT IT READS IS OF BULK AT MOST 1048576: true; the input reads as it did. -/
def fnWorkByUptoRow : OpenClaim := { program := "ytbipeoepcndecaa", sum := "55b619bc850279592ca55a1887123cdd8f128d781cab1ee278d0e0eeb2d56417", func := "loop.example/onecounter/laws.FnWorkBy", spec := "fnWorkBy", unfollowed := true, recurses := true, apart := false, narrowed := true }
def FnWorkByUptoSaid : Prop := fnWorkByUptoRow.holds Try.pinned (OpenSpec.upto fnWorkBySpec)

/-- 'laws.FnExactAreaOf', WHERE WHAT IT READS IS OF BULK AT MOST 1048576: true; the input reads as it did. -/
def fnExactAreaOfUptoRow : OpenClaim := { program := "ytbipeoepcndecaa", sum := "55b619bc850279592ca55a1887123cdd8f128d781cab1ee278d0e0eeb2d56417", func := "loop.example/onecounter/laws.FnExactAreaOf", spec := "fnExactAreaOf", unfollowed := true, recurses := true, apart := false, narrowed := true }
def FnExactAreaOfUptoSaid : Prop := fnExactAreaOfUptoRow.holds Try.pinned (OpenSpec.upto fnExactAreaOfSpec)

/-- 'laws.FnExactWaitingArea', WHERE WHAT IT READS IS OF BULK AT MOST 1048576: true; the input reads as it did. -/
def fnExactWaitingAreaUptoRow : OpenClaim := { program := "ytbipeoepcndecaa", sum := "55b619bc850279592ca55a1887123cdd8f128d781cab1ee278d0e0eeb2d56417", func := "loop.example/onecounter/laws.FnExactWaitingArea", spec := "fnExactWaitingArea", unfollowed := true, recurses := true, apart := false, narrowed := true }
def FnExactWaitingAreaUptoSaid : Prop := fnExactWaitingAreaUptoRow.holds Try.pinned (OpenSpec.upto fnExactWaitingAreaSpec)

/-- 'laws.FnExactWorkArea', WHERE WHAT IT READS IS OF BULK AT MOST 1048576: true; the input reads as it did. -/
def fnExactWorkAreaUptoRow : OpenClaim := { program := "ytbipeoepcndecaa", sum := "55b619bc850279592ca55a1887123cdd8f128d781cab1ee278d0e0eeb2d56417", func := "loop.example/onecounter/laws.FnExactWorkArea", spec := "fnExactWorkArea", unfollowed := true, recurses := true, apart := false, narrowed := true }
def FnExactWorkAreaUptoSaid : Prop := fnExactWorkAreaUptoRow.holds Try.pinned (OpenSpec.upto fnExactWorkAreaSpec)

/-- 'laws.FnExactWorkBy', WHERE WHAT IT READS IS OF BULK AT MOST 1048576: true; the input reads as it did. -/
def fnExactWorkByUptoRow : OpenClaim := { program := "ytbipeoepcndecaa", sum := "55b619bc850279592ca55a1887123cdd8f128d781cab1ee278d0e0eeb2d56417", func := "loop.example/onecounter/laws.FnExactWorkBy", spec := "fnExactWorkBy", unfollowed := true, recurses := true, apart := false, narrowed := true }
def FnExactWorkByUptoSaid : Prop := fnExactWorkByUptoRow.holds Try.pinned (OpenSpec.upto fnExactWorkBySpec)

end Rows
end Go.Proofs.Ytbipeoepcndecaa
