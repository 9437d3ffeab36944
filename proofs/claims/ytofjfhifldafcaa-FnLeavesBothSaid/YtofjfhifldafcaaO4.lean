/- appends of numbers whose lengths are told beside -/
import Derived.Test.YtofjfhifldafcaaO2
namespace Go.Proofs.Ytofjfhifldafcaa
set_option linter.unusedVariables false
open Go.RowKit

section
variable {w : World}
theorem app_IIn {ops : Array Oper} {rest : List Oper} {o : Oper} {a : Act} {Q : Exit → Act → World → Prop} (hw : Region.wanted o (yielded ops a.tmps) = true) (s x : Operand)
    (ho : o.op = .call { callee := .builtin .append, args := #[s, x], argTypes := #[30, 30] })
    (base : Nat) (v : Value) (M L : List Int) (A : Option Addr) (c B m k : Nat) (hs : a.eval s = v) (hown : IO w base v M) (hx : a.eval x = .slice A m c) (hm : L.length = m) (hk : M.length + m = k)
    (hI : Is w B A L) (hlen : k ≤ 1000000000000) (hbase : base ≤ w.heap.size)
    (h : ∀ G cap w', IO w' base (.slice G k cap) (M ++ L) → w.grownBy w' v.ownBlock → Below base w w' → wpList Try.prog ops Q rest (a.put o.dst (.slice G k cap)) w') :
    wpList Try.prog ops Q (o :: rest) a w := by
  subst hm hk
  exact app_II hw s x ho base v M L A c B hs hown hx hI hlen hbase h
theorem app_In {ops : Array Oper} {rest : List Oper} {o : Oper} {a : Act} {Q : Exit → Act → World → Prop} (hgd : o.guard = none) (s x : Operand)
    (ho : o.op = .call { callee := .builtin .append, args := #[s, x], argTypes := #[30, 30] })
    (base : Nat) (v : Value) (xs : List Int) (y : Int) (B k : Nat) (hs : a.eval s = v) (hown : IO w base v xs) (hx : a.eval x = .slice (some ⟨B, 0, none⟩) 1 1) (hk : xs.length + 1 = k)
    (hB : w.heap[B]? = some (.cells #[.int .i64 y] 3 (0, 0))) (hlen : k ≤ 1000000000000) (hbase : base ≤ w.heap.size)
    (h : ∀ g cap w', IO w' base (.slice (some ⟨g, 0, none⟩) k cap) (xs ++ [y]) → w.grownBy w' v.ownBlock → Below base w w' → wpList Try.prog ops Q rest (a.put o.dst (.slice (some ⟨g, 0, none⟩) k cap)) w') :
    wpList Try.prog ops Q (o :: rest) a w := by
  subst hk
  exact app_I hgd s x ho base v xs y B hs hown hx hB (by omega) hbase h
end

end Go.Proofs.Ytofjfhifldafcaa

