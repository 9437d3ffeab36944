/- impl.GreatestLack, spec.GreatestLack -/
import Derived.Test.YtpbmehodcllncaaS4
namespace Go.Proofs.Ytpbmehodcllncaa
set_option linter.unusedVariables false
open Go.RowKit
attribute [local go_sem ↓] Go.wp_at_zero Go.wp_at_succ

theorem placeOk_nat {L : List (Int × Int)} {t : Int} (h : placeOk L t = true) : ∃ n : Nat, t = n ∧ n < L.length ∧ cOk L = true := by
  obtain ⟨h1, h2, h3⟩ := placeOk_parts h
  exact ⟨t.toNat, by omega, by omega, h1⟩

end Go.Proofs.Ytpbmehodcllncaa

