/- What the frames of chapter 12's exact laws share: an argument that is one of the laws' deeds. -/
import Derived.Test.YtpbmehodcllncaaF1
import Derived.Lib.SmallJoins
namespace Go.Proofs.Ytpbmehodcllncaa
set_option linter.unusedVariables false
open Go.RowKit Go.ChangeShapes Go.WideShapes Go.ChangeAt Go.Deep Go.Joins

set_option maxRecDepth 8000 in
theorem open_lawDeed {H : Type} {enc : TypeId × Value → H} {W : World} {r : Reach} {b0 : Nat} {v : Value} {d : DataW H} {p : List MemPlace} (hv : Value.okWide Try.prog W r b0 62 v)
    (h : DataW.Trod enc Try.prog W 0 (fun _ => true) true 62 v d p) : ∃ k a b : Int, v = .agg #[.int .i64 k, .int .i64 a, .int .i64 b] := by
  obtain ⟨c0, c1, c2, y0, y1, y2, n, rfl, -, -, t0, t1, t2⟩ := open_agg3 Try.underlying62 (by kernel_rfl) (by kernel_rfl) hv h
  obtain ⟨x0, e0, -⟩ := DataW.trod_int Try.underlying3 t0
  obtain ⟨x1, e1, -⟩ := DataW.trod_int Try.underlying3 t1
  obtain ⟨x2, e2, -⟩ := DataW.trod_int Try.underlying3 t2
  simp at e0 e1 e2
  exact ⟨x0, x1, x2, by rw [e0, e1, e2]⟩

end Go.Proofs.Ytpbmehodcllncaa

