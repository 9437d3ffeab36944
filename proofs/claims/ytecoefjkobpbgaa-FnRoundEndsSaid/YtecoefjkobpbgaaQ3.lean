/- Appends inside a fence; what a round's body keeps but for one box and the block that its slice lies in. -/
import Derived.Test.YtecoefjkobpbgaaU1
import Derived.Test.YtecoefjkobpbgaaQ2
import Derived.OwnWalkIn
import Derived.Laws.EntriesVeiled
namespace Go.Proofs.Ytecoefjkobpbgaa
set_option linter.unusedVariables false
open Go.RowKit Go.Shelf
attribute [local go_sem] Oper.semAt_some

/-- order = append(order, y), inside a fence, in a region in the text's order -/
theorem appIn_I {F : Fence} {n : Nat} {w : World} {ops : Array Oper} {rest : List Oper} {o : Oper} {a : Act} {Q : Exit → Act → World → Prop} (hgd : o.guard = none) (s x : Operand)
    (ho : o.op = .call { callee := .builtin .append, args := #[s, x], argTypes := #[25, 25] })
    (base : Nat) (v : Value) (xs : List Int) (y : Int) (B : Nat) (hs : a.eval s = v) (hown : IO w base v xs) (hx : a.eval x = .slice (some ⟨B, 0, none⟩) 1 1)
    (hB : w.heap[B]? = some (.cells #[.int .i64 y] 3 (0, 0))) (hlen : xs.length ≤ 1000000000000) (hbase : base ≤ w.heap.size)
    (h : ∀ g cap w', IO w' base (.slice (some ⟨g, 0, none⟩) (xs.length + 1) cap) (xs ++ [y]) → w.grownBy w' v.ownBlock → (v.ownBlock = some g ∨ g = w.heap.size) → wpListIn F n Try.prog ops Q rest (a.put o.dst (.slice (some ⟨g, 0, none⟩) (xs.length + 1) cap)) w') :
    wpListIn F n Try.prog ops Q (o :: rest) a w := by
  obtain ⟨i0, hi, hz0, hz1, hz2⟩ := info_parts infoI
  refine wpListIn_plain hgd fun K hK' => ?_
  obtain ⟨g, cap, w', hrun, r1, r2, r3, -⟩ := run_append_lies (P := Try.prog) w 25 o.type base 3 i0 _ 1 8 Try.underlying25 hi hz0 hz1 hz2 rfl (by decide) v xs.length _ hown
    ⟨B, 0, none⟩ 1 1 [.int .i64 y] rfl (World.news_of_block (cs := #[.int .i64 y]) hB) (by simp [Value.oneCell']) (by decide) (by simp only [maxLen]; omega) (by omega) hbase _ rfl
  unfold Oper.wpIn
  refine ⟨?_, ?_⟩
  · simp [Oper.about, ho, resolve, Target.leads, Sem.run_pure]
  · rw [Oper.semAt_plain F _ _ (by rw [ho]; intro c hc'; cases hc')]
    simp [execOp, ho, resolve, invoke, builtin, hs, hx, hrun, Result.andThen]
    exact hK' _ _ (h g cap w' (by simpa [IO] using r1) r2 r3)

/-- the block that the slice in a box lies in -/
def FrO (Bo : Nat) (W : World) (b : Nat) : Prop := ∃ v, W.cell? ⟨Bo, 0, none⟩ = some v ∧ v.ownBlock = some b
theorem FrO.congr {Bo : Nat} {W W' : World} {n b : Nat} (hb : Below n W W') (h : Bo < n) (hf : FrO Bo W' b) : FrO Bo W b := by
  obtain ⟨v, h1, h2⟩ := hf
  exact ⟨v, (hb.cell (p := ⟨Bo, 0, none⟩) h).symm.trans h1, h2⟩
/-- what a round's body keeps: all cells but one box, and the block that its slice lies in -/
def Kq (B Bo : Nat) (W W' : World) : Prop := Below B W W' ∧ (∀ (b : Nat) (o : Obj), W.heap[b]? = some o → o.isCells = true → b ≠ Bo → ¬ FrO Bo W b → W'.heap[b]? = some o) ∧ (∀ b, FrO Bo W' b → FrO Bo W b ∨ W.heap.size ≤ b)
theorem Kq.refl (B Bo : Nat) (W : World) : Kq B Bo W W := ⟨Below.refl _ _, fun _ _ h _ _ _ => h, fun _ h => .inl h⟩
theorem Kq.t {B Bo : Nat} {A C D : World} (h : Kq B Bo A C) (k : Kq B Bo C D) : Kq B Bo A D := by
  obtain ⟨h1, h2, h3⟩ := h
  obtain ⟨k1, k2, k3⟩ := k
  refine ⟨h1.trans k1, fun b o ho hc hne hf => k2 b o (h2 b o ho hc hne hf) hc hne fun hf' => ?_, fun b hb => ?_⟩
  · have hlt := (Array.getElem?_eq_some_iff.1 ho).1
    rcases h3 b hf' with h4 | h4
    · exact hf h4
    · omega
  · rcases k3 b hb with h4 | h4
    · exact h3 b h4
    · have := h1.size; right; omega
theorem Kq.b {B Bo : Nat} {w : World} (hB : B ≤ w.heap.size) (hBo : Bo < w.heap.size) (W : World) (l : Nat) (o o' : Obj) (hl : w.heap.size ≤ l) (h : W.heap[l]? = some o) (h1 : o.isCells = false) (h2 : o.isWalk = false) : Kq B Bo W (W.putObj l o') := by
  refine ⟨belowK_b hB W l o o' hl h h1 h2, fun b p hp hc _ _ => ?_, fun b hb => .inl (FrO.congr (belowK_b (n₀ := Bo + 1) (w := w) (by omega) W l o o' hl h h1 h2) (by omega) hb)⟩
  refine ((grownBy_putObj' W l o').block b (Array.getElem?_eq_some_iff.1 hp).1 fun e => ?_).trans hp
  cases e
  rw [h] at hp; cases hp
  rw [h1] at hc; cases hc

theorem IO.kept {w w' : World} {base : Nat} {row : Option Nat} {v : Value} {xs : List Int} (h : IO w base v xs) (hg : w.grownBy w' row) (hr : ∀ r, v.ownBlock = some r → row ≠ some r) : IO w' base v xs := by
  refine ⟨h.1, ?_⟩
  have hl := owns_lt h
  rcases h.2 with h2 | ⟨g, cap, cur, rfl, hgb, hh, rest⟩
  · exact .inl h2
  · have := hl g (by simp [Value.ownBlock])
    exact .inr ⟨g, cap, cur, rfl, hgb, by rw [hg.block g (by omega) (fun e => hr g (by simp [Value.ownBlock]) e.symm)]; exact hh, rest⟩
theorem IO.blockKept {w w' : World} {base : Nat} {v : Value} {xs : List Int} (h : IO w base v xs) (hr : ∀ r o, v.ownBlock = some r → w.heap[r]? = some o → o.isCells = true → w'.heap[r]? = some o) : IO w' base v xs := by
  refine ⟨h.1, ?_⟩
  rcases h.2 with h2 | ⟨g, cap, cur, rfl, hgb, hh, rest⟩
  · exact .inl h2
  · exact .inr ⟨g, cap, cur, rfl, hgb, hr g _ (by simp [Value.ownBlock]) hh rfl, rest⟩
theorem IO.cellsObj {w : World} {base : Nat} {v : Value} {xs : List Int} (h : IO w base v xs) (r : Nat) (hr : v.ownBlock = some r) : ∃ o : Obj, w.heap[r]? = some o ∧ o.isCells = true := by
  rcases h.2 with ⟨rfl, _⟩ | ⟨g, cap, cur, rfl, hgb, hh, rest⟩
  · simp [Value.ownBlock] at hr
  · simp only [Value.ownBlock] at hr
    have e : g = r := by simpa using hr
    subst e
    exact ⟨_, hh, rfl⟩

end Go.Proofs.Ytecoefjkobpbgaa

