/- Slices of tasks that a call owns (as those of customers) -/
import Derived.Test.YtofjfhifldafcaaO
namespace Go.Proofs.Ytofjfhifldafcaa
set_option linter.unusedVariables false
open Go.RowKit

theorem infoBo : (Try.prog.info? 27).map (fun i => (i.zero, i.size, i.bytes)) = some (some (.agg #[.int .i64 0, .int .i64 0]), 2, 16) := by kernel_rfl
def BO (w : World) (base : Nat) (v : Value) (L : List (Int × Int)) : Prop := w.ownsRow base 27 2 v L.length (flatC L)
theorem BO.nil (w : World) (base : Nat) : BO w base (.slice none 0 0) [] := ⟨rfl, .inl ⟨rfl, rfl⟩⟩
theorem BO.empty (w : World) {base : Nat} (h : base ≤ w.heap.size) : BO (w.alloc (.cells #[] 27)) base (.slice (some ⟨w.heap.size, 0, none⟩) 0 0) [] :=
  ⟨rfl, .inr ⟨w.heap.size, 0, #[], rfl, h, heap_alloc_new _ _, Nat.le_refl _, by simp [maxLen], rfl, rfl⟩⟩
theorem BO.below {w w' : World} {base B : Nat} {v : Value} {xs : List (Int × Int)} (h : BO w base v xs) (hb : Below B w w') (hB : w.heap.size ≤ B) : BO w' base v xs := owns_below h hb hB
theorem BO.mono {w : World} {base base' : Nat} {v : Value} {xs : List (Int × Int)} (h : BO w base v xs) (hB : base' ≤ base) : BO w base' v xs := owns_mono h hB
theorem BO.form {w : World} {base : Nat} {v : Value} {L : List (Int × Int)} (h : BO w base v L) : ∃ A c, v = .slice A L.length c ∧ L.length ≤ c ∧ c ≤ maxLen ∧ Cs w w.heap.size A L := by
  have hl := owns_lt h
  rcases h.2 with ⟨rfl, h0⟩ | ⟨g, cap, cur, rfl, hg, hh, h1, h2, h3, h4⟩
  · exact ⟨none, 0, by rw [h0], by omega, by simp [maxLen], fun hp => by omega⟩
  · refine ⟨_, cap, rfl, h1, h2, fun hp => ⟨g, 0, rfl, hl g (by simp [Value.ownBlock]), fun k hk => ?_⟩⟩
    have := flatC_at L k hk
    refine ⟨?_, ?_⟩
    · rw [Nat.zero_add, World.ownsRow.cellAt h (k * 2) (by omega)]; exact this.1
    · rw [Nat.zero_add, World.ownsRow.cellAt h (k * 2 + 1) (by omega)]; exact this.2
theorem BO.cells {w : World} {base g n c : Nat} {M : List (Int × Int)} (h : BO w base (.slice (some ⟨g, 0, none⟩) n c) M) :
    n = M.length ∧ (∀ k, k < n → w.cell? ⟨g, k * 2, none⟩ = some (.int .i64 (X M k)) ∧ w.cell? ⟨g, k * 2 + 1, none⟩ = some (.int .i64 (Y M k))) ∧ ∀ j, w.frozen? ⟨g, j, none⟩ = false := by
  have hn : n = M.length := by
    rcases h.2 with ⟨h2, _⟩ | ⟨g', cap, cur, h2, _⟩
    · cases h2
    · injection h2
  subst hn
  refine ⟨rfl, fun k hk => ?_, fun j => World.ownsRow.frozenAt h j⟩
  have := flatC_at M k hk
  exact ⟨(World.ownsRow.cellAt h (k * 2) (by omega)).trans this.1, (World.ownsRow.cellAt h (k * 2 + 1) (by omega)).trans this.2⟩
theorem BO.alloc {w : World} {base : Nat} {v : Value} {xs : List (Int × Int)} (h : BO w base v xs) (o : Obj) : BO (w.alloc o) base v xs := World.ownsRow.alloc h o
theorem BO.drew {w : World} {base : Nat} {v : Value} {xs : List (Int × Int)} (h : BO w base v xs) : BO w.drew base v xs := h
theorem app_B {w : World} {ops : Array Oper} {rest : List Oper} {o : Oper} {a : Act} {Q : Exit → Act → World → Prop} (hgd : o.guard = none) (s x : Operand)
    (ho : o.op = .call { callee := .builtin .append, args := #[s, x], argTypes := #[23, 23] })
    (base : Nat) (v : Value) (L : List (Int × Int)) (p q : Int) (B : Nat) (hs : a.eval s = v) (hown : BO w base v L) (hx : a.eval x = .slice (some ⟨B, 0, none⟩) 1 1)
    (hB : w.heap[B]? = some (.cells #[.int .i64 p, .int .i64 q] 27 (0, 0))) (hlen : L.length ≤ 1000000000000) (hbase : base ≤ w.heap.size)
    (h : ∀ g cap w', BO w' base (.slice (some ⟨g, 0, none⟩) (L.length + 1) cap) (L ++ [(p, q)]) → w.grownBy w' v.ownBlock → Below base w w' → wpList Try.prog ops Q rest (a.put o.dst (.slice (some ⟨g, 0, none⟩) (L.length + 1) cap)) w') :
    wpList Try.prog ops Q (o :: rest) a w := by
  obtain ⟨i0, hi, hz0, hz1, hz2⟩ := info_parts infoBo
  refine wpList_append_lies w hgd s x _ ho base 27 i0 _ 2 16 Try.underlying23 hi hz0 hz1 hz2 rfl (by decide) v L.length _ hs hown
    ⟨B, 0, none⟩ 1 1 [.int .i64 p, .int .i64 q] hx rfl (World.news_of_block (cs := #[.int .i64 p, .int .i64 q]) hB) (by simp [Value.oneCell']) (by decide) (by simp only [maxLen]; omega) (by omega) hbase _ rfl ?_
  intro g cap w' h1 h2 _ _
  exact h g cap w' (by simpa [BO, flatC_snoc] using h1) h2 ((Below.refl _ _).grown h2 hbase (owns_base hown))
theorem BO.isOf {w : World} {base n c : Nat} {A : Option Addr} {xs : List (Int × Int)} (h : BO w base (.slice A n c) xs) : n = xs.length ∧ Cs w w.heap.size A xs := by
  obtain ⟨A', c', e, _, _, h'⟩ := h.form
  injection e with e1 e2 e3
  subst e1
  exact ⟨e2, h'⟩
theorem BO.grownR {w w' : World} {base : Nat} {row : Option Nat} {v : Value} {L : List (Int × Int)} (h : BO w base v L) (hg : w.grownBy w' row) (hr : ∀ r, row = some r → r < base) : BO w' base v L := by
  refine ⟨h.1, ?_⟩
  have hl := owns_lt h
  rcases h.2 with h2 | ⟨g, cap, cur, rfl, hgb, hh, rest⟩
  · exact .inl h2
  · have := hl g (by simp [Value.ownBlock])
    exact .inr ⟨g, cap, cur, rfl, hgb, by rw [hg.block g (by omega) (fun e => by have := hr _ e.symm; omega)]; exact hh, rest⟩
theorem BO.setLow {w : World} {base r o : Nat} {v u : Value} {xs : List (Int × Int)} (h : BO w base v xs) (hr : r < base) : BO (w.setCell ⟨r, o, none⟩ u) base v xs :=
  h.grownR (row := some r) ⟨rfl, rfl, rfl, by simp [World.setCell], fun k _ hne => Below.heap_setCell _ _ _ _ (fun e => hne (by rw [e]))⟩ (fun r' e => by cases e; exact hr)

end Go.Proofs.Ytofjfhifldafcaa

