/-
  No cell of these rows narrows 'for every input' (looked for: loops, veiled, ifaces, maps, wideKeys, modest, calm, conditions, laid).
  DERIVED. THE GIVEN ROWS OF THIS SEAT. 12 by the template 'for every input the law returns true; each argument reads behind the call as it read before'; 0 by the template 'total and deterministic' (their statements: YtjganggebdpceaaTotals.lean).
  GIVEN WITH THE SEED: the statements are not yours to turn. If you find one false, say at which input.
  Laid BY PROGRAM, IN A SANDBOX (cutbox-rows.mjs): the forced cells as the released guide's own fill.sh prints them over the translation ed56b8abe4290308… (all of the seat's roots in one cut). By AI agents, Wed Nov 11 2026. No macro, syntax, notation, axiom, sorry.
-/
import Derived.Test.YtjganggebdpceaaChecked
import GoSem.Claim
import GoSem.ClaimJoined
import GoSem.ClaimMapViews
import Derived.JoinedTies
import Derived.KernelRfl
namespace Go.Proofs.Ytjganggebdpceaa
/- THE CELL 'sum', in the pinned program and in every row, IS THE sha256 OF THE DUMP (.gsa) THAT YtjganggebdpceaaProg.lean LOADS. Nothing in Lean hashes anything: it is a label: what it is worth is what the hold of that sum in a sandbox is worth. -/
noncomputable def Try.pinned : Pinned := { name := "ytjganggebdpceaa", sum := "ed56b8abe429030804a3c720473b712c7ab41e1e6f1e9b6b8020ae4802a23fa6", checked := Try.checked }
namespace Rows
def none {H : Type} : Left H := { results := [], args := [] }

/-- 'laws.FnCustomersOk': WHATEVER THE INPUT: true; the input reads as it did. -/
def fnCustomersOkSpec : ChangeSpec := { name := "fnCustomersOk", fn := fun _ => fun
  | [d] => { results := [.lit (.bool true)], args := [d] }
  | _ => none }
def fnCustomersOkRow : OpenClaim := { program := "ytjganggebdpceaa", sum := "ed56b8abe429030804a3c720473b712c7ab41e1e6f1e9b6b8020ae4802a23fa6", func := "loop.example/onecounter/laws.FnCustomersOk", spec := "fnCustomersOk", apart := false }
def FnCustomersOkSaid : Prop := fnCustomersOkRow.holds Try.pinned (OpenSpec.ofChange fnCustomersOkSpec)

/-- ITS FALSE NEIGHBOUR: 'it returns false'. Refute it at one input. -/
def fnCustomersOkWrong : ChangeSpec := { name := "fnCustomersOk", fn := fun _ => fun
  | [d] => { results := [.lit (.bool false)], args := [d] }
  | _ => none }
def FnCustomersOkWrongFalsely : Prop := fnCustomersOkRow.holds Try.pinned (OpenSpec.ofChange fnCustomersOkWrong)

/-- 'laws.FnNeedOf': WHATEVER THE INPUT: true; the input reads as it did. -/
def fnNeedOfSpec : ChangeSpec := { name := "fnNeedOf", fn := fun _ => fun
  | [d] => { results := [.lit (.bool true)], args := [d] }
  | _ => none }
def fnNeedOfRow : OpenClaim := { program := "ytjganggebdpceaa", sum := "ed56b8abe429030804a3c720473b712c7ab41e1e6f1e9b6b8020ae4802a23fa6", func := "loop.example/onecounter/laws.FnNeedOf", spec := "fnNeedOf", unfollowed := true, recurses := true, apart := false }
def FnNeedOfSaid : Prop := fnNeedOfRow.holds Try.pinned (OpenSpec.ofChange fnNeedOfSpec)

/-- ITS FALSE NEIGHBOUR: 'it returns false'. Refute it at one input. -/
def fnNeedOfWrong : ChangeSpec := { name := "fnNeedOf", fn := fun _ => fun
  | [d] => { results := [.lit (.bool false)], args := [d] }
  | _ => none }
def FnNeedOfWrongFalsely : Prop := fnNeedOfRow.holds Try.pinned (OpenSpec.ofChange fnNeedOfWrong)

/-- 'laws.FnComeBy': WHATEVER THE INPUT: true; the input reads as it did. -/
def fnComeBySpec : ChangeSpec := { name := "fnComeBy", fn := fun _ => fun
  | [d] => { results := [.lit (.bool true)], args := [d] }
  | _ => none }
def fnComeByRow : OpenClaim := { program := "ytjganggebdpceaa", sum := "ed56b8abe429030804a3c720473b712c7ab41e1e6f1e9b6b8020ae4802a23fa6", func := "loop.example/onecounter/laws.FnComeBy", spec := "fnComeBy", unfollowed := true, recurses := true, apart := false }
def FnComeBySaid : Prop := fnComeByRow.holds Try.pinned (OpenSpec.ofChange fnComeBySpec)

/-- ITS FALSE NEIGHBOUR: 'it returns false'. Refute it at one input. -/
def fnComeByWrong : ChangeSpec := { name := "fnComeBy", fn := fun _ => fun
  | [d] => { results := [.lit (.bool false)], args := [d] }
  | _ => none }
def FnComeByWrongFalsely : Prop := fnComeByRow.holds Try.pinned (OpenSpec.ofChange fnComeByWrong)

/-- 'laws.FnGapsOf': WHATEVER THE INPUT: true; the input reads as it did. -/
def fnGapsOfSpec : ChangeSpec := { name := "fnGapsOf", fn := fun _ => fun
  | [d] => { results := [.lit (.bool true)], args := [d] }
  | _ => none }
def fnGapsOfRow : OpenClaim := { program := "ytjganggebdpceaa", sum := "ed56b8abe429030804a3c720473b712c7ab41e1e6f1e9b6b8020ae4802a23fa6", func := "loop.example/onecounter/laws.FnGapsOf", spec := "fnGapsOf", apart := false }
def FnGapsOfSaid : Prop := fnGapsOfRow.holds Try.pinned (OpenSpec.ofChange fnGapsOfSpec)

/-- ITS FALSE NEIGHBOUR: 'it returns false'. Refute it at one input. -/
def fnGapsOfWrong : ChangeSpec := { name := "fnGapsOf", fn := fun _ => fun
  | [d] => { results := [.lit (.bool false)], args := [d] }
  | _ => none }
def FnGapsOfWrongFalsely : Prop := fnGapsOfRow.holds Try.pinned (OpenSpec.ofChange fnGapsOfWrong)

/-- 'laws.FnLaterBy': WHATEVER THE INPUT: true; the input reads as it did. -/
def fnLaterBySpec : ChangeSpec := { name := "fnLaterBy", fn := fun _ => fun
  | [d] => { results := [.lit (.bool true)], args := [d] }
  | _ => none }
def fnLaterByRow : OpenClaim := { program := "ytjganggebdpceaa", sum := "ed56b8abe429030804a3c720473b712c7ab41e1e6f1e9b6b8020ae4802a23fa6", func := "loop.example/onecounter/laws.FnLaterBy", spec := "fnLaterBy", unfollowed := true, recurses := true, apart := false }
def FnLaterBySaid : Prop := fnLaterByRow.holds Try.pinned (OpenSpec.ofChange fnLaterBySpec)

/-- ITS FALSE NEIGHBOUR: 'it returns false'. Refute it at one input. -/
def fnLaterByWrong : ChangeSpec := { name := "fnLaterBy", fn := fun _ => fun
  | [d] => { results := [.lit (.bool false)], args := [d] }
  | _ => none }
def FnLaterByWrongFalsely : Prop := fnLaterByRow.holds Try.pinned (OpenSpec.ofChange fnLaterByWrong)

/-- 'laws.FnLastLeave': WHATEVER THE INPUT: true; the input reads as it did. -/
def fnLastLeaveSpec : ChangeSpec := { name := "fnLastLeave", fn := fun _ => fun
  | [d] => { results := [.lit (.bool true)], args := [d] }
  | _ => none }
def fnLastLeaveRow : OpenClaim := { program := "ytjganggebdpceaa", sum := "ed56b8abe429030804a3c720473b712c7ab41e1e6f1e9b6b8020ae4802a23fa6", func := "loop.example/onecounter/laws.FnLastLeave", spec := "fnLastLeave", unfollowed := true, recurses := true, apart := false }
def FnLastLeaveSaid : Prop := fnLastLeaveRow.holds Try.pinned (OpenSpec.ofChange fnLastLeaveSpec)

/-- ITS FALSE NEIGHBOUR: 'it returns false'. Refute it at one input. -/
def fnLastLeaveWrong : ChangeSpec := { name := "fnLastLeave", fn := fun _ => fun
  | [d] => { results := [.lit (.bool false)], args := [d] }
  | _ => none }
def FnLastLeaveWrongFalsely : Prop := fnLastLeaveRow.holds Try.pinned (OpenSpec.ofChange fnLastLeaveWrong)

/-- 'laws.FnExactCustomersOk': WHATEVER THE INPUT: true; the input reads as it did. -/
def fnExactCustomersOkSpec : ChangeSpec := { name := "fnExactCustomersOk", fn := fun _ => fun
  | [d] => { results := [.lit (.bool true)], args := [d] }
  | _ => none }
def fnExactCustomersOkRow : OpenClaim := { program := "ytjganggebdpceaa", sum := "ed56b8abe429030804a3c720473b712c7ab41e1e6f1e9b6b8020ae4802a23fa6", func := "loop.example/onecounter/laws.FnExactCustomersOk", spec := "fnExactCustomersOk", apart := false }
def FnExactCustomersOkSaid : Prop := fnExactCustomersOkRow.holds Try.pinned (OpenSpec.ofChange fnExactCustomersOkSpec)

/-- ITS FALSE NEIGHBOUR: 'it returns false'. Refute it at one input. -/
def fnExactCustomersOkWrong : ChangeSpec := { name := "fnExactCustomersOk", fn := fun _ => fun
  | [d] => { results := [.lit (.bool false)], args := [d] }
  | _ => none }
def FnExactCustomersOkWrongFalsely : Prop := fnExactCustomersOkRow.holds Try.pinned (OpenSpec.ofChange fnExactCustomersOkWrong)

/-- 'laws.FnExactNeedOf': WHATEVER THE INPUT: true; the input reads as it did. -/
def fnExactNeedOfSpec : ChangeSpec := { name := "fnExactNeedOf", fn := fun _ => fun
  | [d] => { results := [.lit (.bool true)], args := [d] }
  | _ => none }
def fnExactNeedOfRow : OpenClaim := { program := "ytjganggebdpceaa", sum := "ed56b8abe429030804a3c720473b712c7ab41e1e6f1e9b6b8020ae4802a23fa6", func := "loop.example/onecounter/laws.FnExactNeedOf", spec := "fnExactNeedOf", unfollowed := true, recurses := true, apart := false }
def FnExactNeedOfSaid : Prop := fnExactNeedOfRow.holds Try.pinned (OpenSpec.ofChange fnExactNeedOfSpec)

/-- ITS FALSE NEIGHBOUR: 'it returns false'. Refute it at one input. -/
def fnExactNeedOfWrong : ChangeSpec := { name := "fnExactNeedOf", fn := fun _ => fun
  | [d] => { results := [.lit (.bool false)], args := [d] }
  | _ => none }
def FnExactNeedOfWrongFalsely : Prop := fnExactNeedOfRow.holds Try.pinned (OpenSpec.ofChange fnExactNeedOfWrong)

/-- 'laws.FnExactComeBy': WHATEVER THE INPUT: true; the input reads as it did. -/
def fnExactComeBySpec : ChangeSpec := { name := "fnExactComeBy", fn := fun _ => fun
  | [d1, d2] => { results := [.lit (.bool true)], args := [d1, d2] }
  | _ => none }
def fnExactComeByRow : OpenClaim := { program := "ytjganggebdpceaa", sum := "ed56b8abe429030804a3c720473b712c7ab41e1e6f1e9b6b8020ae4802a23fa6", func := "loop.example/onecounter/laws.FnExactComeBy", spec := "fnExactComeBy", unfollowed := true, recurses := true, apart := false }
def FnExactComeBySaid : Prop := fnExactComeByRow.holds Try.pinned (OpenSpec.ofChange fnExactComeBySpec)

/-- ITS FALSE NEIGHBOUR: 'it returns false'. Refute it at one input. -/
def fnExactComeByWrong : ChangeSpec := { name := "fnExactComeBy", fn := fun _ => fun
  | [d1, d2] => { results := [.lit (.bool false)], args := [d1, d2] }
  | _ => none }
def FnExactComeByWrongFalsely : Prop := fnExactComeByRow.holds Try.pinned (OpenSpec.ofChange fnExactComeByWrong)

/-- 'laws.FnExactGapsOf': WHATEVER THE INPUT: true; the input reads as it did. -/
def fnExactGapsOfSpec : ChangeSpec := { name := "fnExactGapsOf", fn := fun _ => fun
  | [d] => { results := [.lit (.bool true)], args := [d] }
  | _ => none }
def fnExactGapsOfRow : OpenClaim := { program := "ytjganggebdpceaa", sum := "ed56b8abe429030804a3c720473b712c7ab41e1e6f1e9b6b8020ae4802a23fa6", func := "loop.example/onecounter/laws.FnExactGapsOf", spec := "fnExactGapsOf", apart := false }
def FnExactGapsOfSaid : Prop := fnExactGapsOfRow.holds Try.pinned (OpenSpec.ofChange fnExactGapsOfSpec)

/-- ITS FALSE NEIGHBOUR: 'it returns false'. Refute it at one input. -/
def fnExactGapsOfWrong : ChangeSpec := { name := "fnExactGapsOf", fn := fun _ => fun
  | [d] => { results := [.lit (.bool false)], args := [d] }
  | _ => none }
def FnExactGapsOfWrongFalsely : Prop := fnExactGapsOfRow.holds Try.pinned (OpenSpec.ofChange fnExactGapsOfWrong)

/-- 'laws.FnExactLaterBy': WHATEVER THE INPUT: true; the input reads as it did. -/
def fnExactLaterBySpec : ChangeSpec := { name := "fnExactLaterBy", fn := fun _ => fun
  | [d1, d2] => { results := [.lit (.bool true)], args := [d1, d2] }
  | _ => none }
def fnExactLaterByRow : OpenClaim := { program := "ytjganggebdpceaa", sum := "ed56b8abe429030804a3c720473b712c7ab41e1e6f1e9b6b8020ae4802a23fa6", func := "loop.example/onecounter/laws.FnExactLaterBy", spec := "fnExactLaterBy", apart := false }
def FnExactLaterBySaid : Prop := fnExactLaterByRow.holds Try.pinned (OpenSpec.ofChange fnExactLaterBySpec)

/-- ITS FALSE NEIGHBOUR: 'it returns false'. Refute it at one input. -/
def fnExactLaterByWrong : ChangeSpec := { name := "fnExactLaterBy", fn := fun _ => fun
  | [d1, d2] => { results := [.lit (.bool false)], args := [d1, d2] }
  | _ => none }
def FnExactLaterByWrongFalsely : Prop := fnExactLaterByRow.holds Try.pinned (OpenSpec.ofChange fnExactLaterByWrong)

/-- 'laws.FnExactLastLeave': WHATEVER THE INPUT: true; the input reads as it did. -/
def fnExactLastLeaveSpec : ChangeSpec := { name := "fnExactLastLeave", fn := fun _ => fun
  | [d] => { results := [.lit (.bool true)], args := [d] }
  | _ => none }
def fnExactLastLeaveRow : OpenClaim := { program := "ytjganggebdpceaa", sum := "ed56b8abe429030804a3c720473b712c7ab41e1e6f1e9b6b8020ae4802a23fa6", func := "loop.example/onecounter/laws.FnExactLastLeave", spec := "fnExactLastLeave", unfollowed := true, recurses := true, apart := false }
def FnExactLastLeaveSaid : Prop := fnExactLastLeaveRow.holds Try.pinned (OpenSpec.ofChange fnExactLastLeaveSpec)

/-- ITS FALSE NEIGHBOUR: 'it returns false'. Refute it at one input. -/
def fnExactLastLeaveWrong : ChangeSpec := { name := "fnExactLastLeave", fn := fun _ => fun
  | [d] => { results := [.lit (.bool false)], args := [d] }
  | _ => none }
def FnExactLastLeaveWrongFalsely : Prop := fnExactLastLeaveRow.holds Try.pinned (OpenSpec.ofChange fnExactLastLeaveWrong)

/- THE SECOND FORM. 'bulk': how many values and letters a reading holds, each counted each time it is reached (what is shared counts as often as it is met; a slice's spare places count too). A statement '..UptoSaid' is the law's where the arguments, and the package variables that the reading takes, are together of bulk at most 1048576: NARROWER than '..Said'. Prove '..Said' where nothing that the law and all that it calls make is longer than what came in: it says more and counts as full. Else prove '..UptoSaid'. A law counts once. -/
mutual
def uptoBulk {H : Type} : DataW H → Nat
  | .lit (.string bytes) => bytes.length + 1
  | .lit _ => 1
  | .nil => 1
  | .ptr d => uptoBulk d + 1
  | .slice elems spare => uptoBulkAll elems + uptoBulkAll spare + 1
  | .agg parts => uptoBulkAll parts + 1
  | .iface _ d => uptoBulk d + 1
  | .map entries => uptoBulkEntries entries + 1
  | .held _ => 1
def uptoBulkAll {H : Type} : List (DataW H) → Nat
  | [] => 0
  | d :: r => uptoBulk d + uptoBulkAll r
def uptoBulkEntries {H : Type} : List (Lit × DataW H) → Nat
  | [] => 0
  | x :: r => uptoBulkEntry x + uptoBulkEntries r
def uptoBulkEntry {H : Type} : Lit × DataW H → Nat
  | (.string bytes, d) => bytes.length + uptoBulk d + 1
  | (_, d) => uptoBulk d + 1
 end
def uptoSmall : (H : Type) → List (DataW H) → Bool := fun _ ds => decide (uptoBulkAll ds ≤ 1048576)
def OpenSpec.upto (s : _root_.Go.ChangeSpec) : _root_.Go.OpenSpec := { _root_.Go.OpenSpec.ofChange s with cond := some uptoSmall }

/-- 'laws.FnCustomersOk', WHERE WHAT IT READS IS OF BULK AT MOST 1048576: true; the input reads as it did. -/
def fnCustomersOkUptoRow : OpenClaim := { program := "ytjganggebdpceaa", sum := "ed56b8abe429030804a3c720473b712c7ab41e1e6f1e9b6b8020ae4802a23fa6", func := "loop.example/onecounter/laws.FnCustomersOk", spec := "fnCustomersOk", apart := false, narrowed := true }
def FnCustomersOkUptoSaid : Prop := fnCustomersOkUptoRow.holds Try.pinned (OpenSpec.upto fnCustomersOkSpec)

/-- 'laws.FnNeedOf', WHERE WHAT IT READS IS OF BULK AT MOST 1048576: true; the input reads as it did. -/
def fnNeedOfUptoRow : OpenClaim := { program := "ytjganggebdpceaa", sum := "ed56b8abe429030804a3c720473b712c7ab41e1e6f1e9b6b8020ae4802a23fa6", func := "loop.example/onecounter/laws.FnNeedOf", spec := "fnNeedOf", unfollowed := true, recurses := true, apart := false, narrowed := true }
def FnNeedOfUptoSaid : Prop := fnNeedOfUptoRow.holds Try.pinned (OpenSpec.upto fnNeedOfSpec)

/-- 'laws.FnComeBy', WHERE WHAT IT READS IS OF BULK AT MOST 1048576: true; the input reads as it did. -/
def fnComeByUptoRow : OpenClaim := { program := "ytjganggebdpceaa", sum := "ed56b8abe429030804a3c720473b712c7ab41e1e6f1e9b6b8020ae4802a23fa6", func := "loop.example/onecounter/laws.FnComeBy", spec := "fnComeBy", unfollowed := true, recurses := true, apart := false, narrowed := true }
def FnComeByUptoSaid : Prop := fnComeByUptoRow.holds Try.pinned (OpenSpec.upto fnComeBySpec)

/-- 'laws.FnGapsOf', WHERE WHAT IT READS IS OF BULK AT MOST 1048576: true; the input reads as it did. -/
def fnGapsOfUptoRow : OpenClaim := { program := "ytjganggebdpceaa", sum := "ed56b8abe429030804a3c720473b712c7ab41e1e6f1e9b6b8020ae4802a23fa6", func := "loop.example/onecounter/laws.FnGapsOf", spec := "fnGapsOf", apart := false, narrowed := true }
def FnGapsOfUptoSaid : Prop := fnGapsOfUptoRow.holds Try.pinned (OpenSpec.upto fnGapsOfSpec)

/-- 'laws.FnLaterBy', WHERE WHAT IT READS IS OF BULK AT MOST 1048576: true; the input reads as it did. -/
def fnLaterByUptoRow : OpenClaim := { program := "ytjganggebdpceaa", sum := "ed56b8abe429030804a3c720473b712c7ab41e1e6f1e9b6b8020ae4802a23fa6", func := "loop.example/onecounter/laws.FnLaterBy", spec := "fnLaterBy", unfollowed := true, recurses := true, apart := false, narrowed := true }
def FnLaterByUptoSaid : Prop := fnLaterByUptoRow.holds Try.pinned (OpenSpec.upto fnLaterBySpec)

/-- 'laws.FnLastLeave', WHERE WHAT IT READS IS OF BULK AT MOST 1048576: true; the input reads as it did. -/
def fnLastLeaveUptoRow : OpenClaim := { program := "ytjganggebdpceaa", sum := "ed56b8abe429030804a3c720473b712c7ab41e1e6f1e9b6b8020ae4802a23fa6", func := "loop.example/onecounter/laws.FnLastLeave", spec := "fnLastLeave", unfollowed := true, recurses := true, apart := false, narrowed := true }
def FnLastLeaveUptoSaid : Prop := fnLastLeaveUptoRow.holds Try.pinned (OpenSpec.upto fnLastLeaveSpec)

/-- 'laws.FnExactCustomersOk', WHERE WHAT IT READS IS OF BULK AT MOST 1048576: true; the input reads as it did. -/
def fnExactCustomersOkUptoRow : OpenClaim := { program := "ytjganggebdpceaa", sum := "ed56b8abe429030804a3c720473b712c7ab41e1e6f1e9b6b8020ae4802a23fa6", func := "loop.example/onecounter/laws.FnExactCustomersOk", spec := "fnExactCustomersOk", apart := false, narrowed := true }
def FnExactCustomersOkUptoSaid : Prop := fnExactCustomersOkUptoRow.holds Try.pinned (OpenSpec.upto fnExactCustomersOkSpec)

/-- 'laws.FnExactNeedOf', WHERE WHAT IT READS IS OF BULK AT MOST 1048576: true; the input reads as it did. -/
def fnExactNeedOfUptoRow : OpenClaim := { program := "ytjganggebdpceaa", sum := "ed56b8abe429030804a3c720473b712c7ab41e1e6f1e9b6b8020ae4802a23fa6", func := "loop.example/onecounter/laws.FnExactNeedOf", spec := "fnExactNeedOf", unfollowed := true, recurses := true, apart := false, narrowed := true }
def FnExactNeedOfUptoSaid : Prop := fnExactNeedOfUptoRow.holds Try.pinned (OpenSpec.upto fnExactNeedOfSpec)

/-- 'laws.FnExactComeBy', WHERE WHAT IT READS IS OF BULK AT MOST 1048576: true; the input reads as it did. -/
def fnExactComeByUptoRow : OpenClaim := { program := "ytjganggebdpceaa", sum := "ed56b8abe429030804a3c720473b712c7ab41e1e6f1e9b6b8020ae4802a23fa6", func := "loop.example/onecounter/laws.FnExactComeBy", spec := "fnExactComeBy", unfollowed := true, recurses := true, apart := false, narrowed := true }
def FnExactComeByUptoSaid : Prop := fnExactComeByUptoRow.holds Try.pinned (OpenSpec.upto fnExactComeBySpec)

/-- 'laws.FnExactGapsOf', WHERE WHAT IT READS IS OF BULK AT MOST 1048576: true; the input reads as it did. -/
def fnExactGapsOfUptoRow : OpenClaim := { program := "ytjganggebdpceaa", sum := "ed56b8abe429030804a3c720473b712c7ab41e1e6f1e9b6b8020ae4802a23fa6", func := "loop.example/onecounter/laws.FnExactGapsOf", spec := "fnExactGapsOf", apart := false, narrowed := true }
def FnExactGapsOfUptoSaid : Prop := fnExactGapsOfUptoRow.holds Try.pinned (OpenSpec.upto fnExactGapsOfSpec)

/-- 'laws.FnExactLaterBy', WHERE WHAT IT READS IS OF BULK AT MOST 1048576: true; the input reads as it did. -/
def fnExactLaterByUptoRow : OpenClaim := { program := "ytjganggebdpceaa", sum := "ed56b8abe429030804a3c720473b712c7ab41e1e6f1e9b6b8020ae4802a23fa6", func := "loop.example/onecounter/laws.FnExactLaterBy", spec := "fnExactLaterBy", apart := false, narrowed := true }
def FnExactLaterByUptoSaid : Prop := fnExactLaterByUptoRow.holds Try.pinned (OpenSpec.upto fnExactLaterBySpec)

/-- 'laws.FnExactLastLeave', WHERE WHAT IT READS IS OF BULK AT MOST 1048576: true; the input reads as it did. -/
def fnExactLastLeaveUptoRow : OpenClaim := { program := "ytjganggebdpceaa", sum := "ed56b8abe429030804a3c720473b712c7ab41e1e6f1e9b6b8020ae4802a23fa6", func := "loop.example/onecounter/laws.FnExactLastLeave", spec := "fnExactLastLeave", unfollowed := true, recurses := true, apart := false, narrowed := true }
def FnExactLastLeaveUptoSaid : Prop := fnExactLastLeaveUptoRow.holds Try.pinned (OpenSpec.upto fnExactLastLeaveSpec)

end Rows
end Go.Proofs.Ytjganggebdpceaa
