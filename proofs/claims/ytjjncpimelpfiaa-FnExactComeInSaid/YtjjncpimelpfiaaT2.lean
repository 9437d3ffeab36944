/- append of a number to a list of one's own: what the list's elder block holds stays readable -/
import Derived.Test.YtjjncpimelpfiaaT
import Derived.ArgAppend
import Derived.Laws.IdiomCopy
namespace Go.Proofs.Ytjjncpimelpfiaa
set_option linter.unusedVariables false
open Go.RowKit

theorem run_keeps {w w' : World} {base B : Nat} {v v' : Value} {xs : List Int} {y : Int} {ty : TypeId} (hown : IO w base v xs) (hB : w.heap[B]? = some (.cells #[.int .i64 y] 3 (0, 0))) (hlen : xs.length ≤ 1000000000000)
    (hrun : (Builtin.append_ #[36, 36] ty #[v, .slice (some ⟨B, 0, none⟩) 1 1]).run Try.prog w = .ok v' w') :
    ∀ g0, v.ownBlock = some g0 → ∀ k, k < xs.length → w'.cell? ⟨g0, k, none⟩ = w.cell? ⟨g0, k, none⟩ := by
  intro g0 hg0 k hk
  obtain ⟨i0, hi0, hz0, hz1, hz2⟩ := info_parts infoI
  have hown' := hown
  have hl := owns_lt hown
  rcases hown.2 with ⟨rfl, h0⟩ | ⟨g, cap, cur, rfl, hg, hh, h1, h2, h3, h4⟩
  · omega
  · have e : g = g0 := by simpa [Value.ownBlock] using hg0
    subst e
    have hnew := World.news_of_block (w := w) (cs := #[.int .i64 y]) hB
    by_cases hr : xs.length + 1 ≤ cap
    · have e1 := run_append_room_cells (P := Try.prog) w 36 ty 3 i0 Try.underlying36 hi0 g 0 xs.length cap ⟨B, 0, none⟩ 1 1 [.int .i64 y] (by rw [hz1]; rfl) hnew (by simp [Value.oneCell']) hr
        (fun j hj => by
          have hj0 : j = 0 := by simpa using hj
          subst hj0
          simp only [hz1, Nat.mul_one, Nat.zero_add, Nat.add_zero]
          rw [cell_of_row w g xs.length _ _ _ hh]
          have : xs.length < cur.size := by omega
          simp [this])
        (fun j _ => hown'.cells.2.2 _)
      rw [hrun] at e1
      injection e1 with _ e2
      rw [e2]
      exact World.cell?_setCells_out g _ _ w ⟨g, k, none⟩ (fun _ _ => .inl (by simp only [hz1, Nat.mul_one, Nat.zero_add]; exact hk))
    · obtain ⟨v2, w2, e1, _, e3⟩ := run_append_arg_grows (P := Try.prog) w 36 ty 3 i0 _ 1 8 Try.underlying36 hi0 hz0 hz1 hz2 rfl (by decide) ⟨g, 0, none⟩ xs.length cap (xs.map fun x => .int .i64 x) (by simp)
        (fun j u hj => by
          have hjl : j < xs.length := by have := (List.getElem?_eq_some_iff.1 hj).1; simpa using this
          have := hown'.cells.2.1 j hjl
          have e : (⟨g, 0, none⟩ : Addr).add j = ⟨g, j, none⟩ := by by_cases e : j = 0 <;> simp [Addr.add, e]
          rw [e, this]
          simp [hjl] at hj
          simp [Z, hjl, hj])
        ⟨B, 0, none⟩ 1 1 [.int .i64 y] rfl hnew (by omega) (by simp only [maxLen]; omega) (by omega)
      rw [hrun] at e1
      injection e1 with _ e2
      rw [e2]
      exact World.cell?_of_block (e3.block g (hl g (by simp [Value.ownBlock])) (by simp))

section
variable {w : World}
/-- append of one number in a region that draws its order; the elder block's cells stay -/
theorem step_ISK {ops : Array Oper} {o : Oper} {a : Act} {K : Act → World → Prop} {Q : Exit → Act → World → Prop} {E : Prop} (hgd : o.guard = none) (s x : Operand)
    (ho : o.op = .call { callee := .builtin .append, args := #[s, x], argTypes := #[36, 36] })
    (base : Nat) (v : Value) (xs : List Int) (y : Int) (B : Nat) (hs : a.eval s = v) (hown : IO w base v xs) (hx : a.eval x = .slice (some ⟨B, 0, none⟩) 1 1)
    (hB : w.heap[B]? = some (.cells #[.int .i64 y] 3 (0, 0))) (hlen : xs.length ≤ 1000000000000) (hbase : base ≤ w.heap.size)
    (lo hi : Nat) (w1 : World) (hsep : Sep lo hi v) (hmid : Mid lo hi w1 w) (hhi : hi ≤ w.heap.size)
    (h : ∀ g cap w', IO w' base (.slice (some ⟨g, 0, none⟩) (xs.length + 1) cap) (xs ++ [y]) → Below base w w' → Sep lo hi (.slice (some ⟨g, 0, none⟩) (xs.length + 1) cap) → Mid lo hi w1 w' →
      (∀ g0, v.ownBlock = some g0 → ∀ k, k < xs.length → w'.cell? ⟨g0, k, none⟩ = w.cell? ⟨g0, k, none⟩) → K (a.put o.dst (.slice (some ⟨g, 0, none⟩) (xs.length + 1) cap)) w') :
    if Region.wanted o (yielded ops a.tmps) = true then Oper.wp Try.prog o a w K Q else E := by
  obtain ⟨i0, hi0, hz0, hz1, hz2⟩ := info_parts infoI
  have hw : Region.wanted o (yielded ops a.tmps) = true := by simp [Region.wanted, hgd]
  rw [if_pos hw]
  obtain ⟨g, cap, w', hr, h1, h2, h3, _⟩ := run_append_lies (P := Try.prog) w 36 o.type base 3 i0 _ 1 8 Try.underlying36 hi0 hz0 hz1 hz2 rfl (by decide) v xs.length _ hown
    ⟨B, 0, none⟩ 1 1 [.int .i64 y] rfl (World.news_of_block (cs := #[.int .i64 y]) hB) (by simp [Value.oneCell']) (by decide) (by simp only [maxLen]; omega) (by omega) hbase _ rfl
  have hk := run_keeps hown hB hlen hr
  unfold Oper.wp execOp
  simp only [ho, resolve, invoke, builtin, Sem.run_bind, Sem.run_pure, Result.andThen_ok, List.map_toArray, List.map_cons, List.map_nil, hs, hx, hr]
  exact h g cap w' (by simpa [IO] using h1) ((Below.refl _ _).grown h2 hbase (owns_base hown)) (fun r e => by
    simp [Value.ownBlock] at e; subst e
    rcases h3 with h3 | h3
    · exact hsep _ h3
    · omega) (hmid.grown hsep h2 hhi) hk
end

end Go.Proofs.Ytjjncpimelpfiaa

