/- A row of numbers that is used as a queue: a slice that a call owns, at any place of its block: appended to at the end, and cut at its head. Appends that tell where the list lies. -/
import Derived.Test.YtecoefjkobpbgaaO2
import Derived.ArgAppend
namespace Go.Proofs.Ytecoefjkobpbgaa
set_option linter.unusedVariables false
open Go.RowKit

theorem grownBy_set (W : World) (b o : Nat) (v : Value) : W.grownBy (W.setCell ⟨b, o, none⟩ v) (some b) :=
  ⟨rfl, rfl, rfl, by simp [World.setCell], fun k _ hk => Below.heap_setCell _ _ _ k (fun e => hk (by rw [e]))⟩
def QO (w : World) (base : Nat) (v : Value) (xs : List Int) : Prop :=
  ∃ g off c, v = .slice (some ⟨g, off, none⟩) xs.length c ∧ xs.length ≤ c ∧ c ≤ maxLen ∧ base ≤ g ∧ g < w.heap.size ∧ (∀ j, j < xs.length → w.cell? ⟨g, off + j, none⟩ = some (.int .i64 (Z xs j))) ∧
    ∀ j, j < c → (w.cell? ⟨g, off + j, none⟩).isSome = true ∧ w.frozen? ⟨g, off + j, none⟩ = false
theorem QO.empty (w : World) {base : Nat} (h : base ≤ w.heap.size) : QO (w.alloc (.cells #[] 3)) base (.slice (some ⟨w.heap.size, 0, none⟩) 0 0) [] :=
  ⟨w.heap.size, 0, 0, rfl, Nat.le_refl _, by simp [maxLen], h, by simp, fun j hj => by simp at hj, fun j hj => by omega⟩
theorem QO.kept {w w' : World} {base : Nat} {row : Option Nat} {v : Value} {xs : List Int} (h : QO w base v xs) (hg : w.grownBy w' row) (hr : ∀ r, v.ownBlock = some r → row ≠ some r) : QO w' base v xs := by
  obtain ⟨g, off, c, rfl, h1, h2, h3, h4, h5, h6⟩ := h
  have hb : ∀ o, (w'.heap[(⟨g, o, none⟩ : Addr).block]?) = w.heap[(⟨g, o, none⟩ : Addr).block]? := fun o => hg.block g h4 fun e => hr g (by simp [Value.ownBlock]) e.symm
  exact ⟨g, off, c, rfl, h1, h2, h3, Nat.lt_of_lt_of_le h4 hg.size, fun j hj => (World.cell?_of_block (hb _)).trans (h5 j hj), fun j hj => by
    have := h6 j hj
    rw [World.cell?_of_block (hb _), World.frozen?_of_block (hb _)]
    exact this⟩
theorem QO.below {w w' : World} {base B : Nat} {v : Value} {xs : List Int} (h : QO w base v xs) (hb : Below B w w') (hB : w.heap.size ≤ B) : QO w' base v xs :=
  h.kept (row := none) ⟨hb.os, hb.tape, hb.output, hb.size, fun k hk _ => hb.block k (by omega)⟩ (fun _ _ e => by cases e)
theorem QO.drewN {w : World} {base : Nat} {v : Value} {xs : List Int} (h : QO w base v xs) (n : Nat) : QO (w.drewN n) base v xs := h
theorem QO.alloc {w : World} {base : Nat} {v : Value} {xs : List Int} (h : QO w base v xs) (o : Obj) : QO (w.alloc o) base v xs :=
  h.kept (row := none) (World.grownBy_alloc _ _ _) (fun _ _ e => by cases e)
/-- its form and its cells -/
theorem QO.form {w : World} {base : Nat} {v : Value} {xs : List Int} (h : QO w base v xs) : ∃ g off c, v = .slice (some ⟨g, off, none⟩) xs.length c ∧ xs.length ≤ c ∧ base ≤ g ∧ g < w.heap.size ∧ ∀ j, j < xs.length → w.cell? ⟨g, off + j, none⟩ = some (.int .i64 (Z xs j)) := by
  obtain ⟨g, off, c, e, h1, h2, h3, h4, h5, h6⟩ := h
  exact ⟨g, off, c, e, h1, h3, h4, h5⟩
/-- without its head -/
theorem QO.cut {w : World} {base g off n c : Nat} {x : Int} {xs : List Int} (h : QO w base (.slice (some ⟨g, off, none⟩) n c) (x :: xs)) : n = xs.length + 1 ∧ 1 ≤ c ∧
    QO w base (.slice (if c = 1 then some ⟨g, off, none⟩ else some ⟨g, off + 1, none⟩) xs.length (c - 1)) xs := by
  obtain ⟨g', off', c', e, h1, h2, h3, h4, h5, h6⟩ := h
  injection e with e1 e2 e3
  injection e1 with e1
  injection e1 with e1 e4 _
  subst e1 e2 e3 e4
  refine ⟨rfl, by simp at h1; omega, ?_⟩
  simp only [List.length_cons] at h1 h5
  by_cases hc : c = 1
  · rw [if_pos hc]
    have hx : xs = [] := List.eq_nil_of_length_eq_zero (by omega)
    subst hx
    exact ⟨g, off, c - 1, rfl, by simp, by omega, h3, h4, fun j hj => by simp at hj, fun j hj => by omega⟩
  · rw [if_neg hc]
    refine ⟨g, off + 1, c - 1, rfl, by omega, by omega, h3, h4, fun j hj => ?_, fun j hj => ?_⟩
    · have := h5 (j + 1) (by omega)
      rw [show off + 1 + j = off + (j + 1) by omega, this]
      simp [Z]
    · rw [show off + 1 + j = off + (j + 1) by omega]
      exact h6 (j + 1) (by omega)
theorem QO.ofIO {w : World} {base : Nat} {g c n : Nat} {xs : List Int} (h : IO w base (.slice (some ⟨g, 0, none⟩) n c) xs) : QO w base (.slice (some ⟨g, 0, none⟩) n c) xs := by
  have hn := h.cells.1
  have hl := owns_lt h g (by simp [Value.ownBlock])
  obtain ⟨-, cs, fz⟩ := h.cells
  subst hn
  have h' := h
  rcases h.2 with ⟨h2, _⟩ | ⟨g', cap, cur, e, hg, hh, h1, h2, h3, h4⟩
  · cases h2
  · injection e with e1 e2 e3
    injection e1 with e1
    injection e1 with e1 e4 _
    subst e1 e3
    refine ⟨g, 0, c, rfl, h1, h2, hg, hl, fun j hj => by rw [Nat.zero_add]; exact cs j hj, fun j hj => ?_⟩
    rw [Nat.zero_add]
    refine ⟨?_, fz j⟩
    rw [cell_of_row w g j cur _ _ hh, Array.getElem?_eq_getElem (by omega)]; rfl

section
variable {w : World}
set_option maxRecDepth 8000 in
/-- out = append(out, y): the list lies in its own block, or in a new one -/
theorem app_IL {ops : Array Oper} {rest : List Oper} {o : Oper} {a : Act} {Q : Exit → Act → World → Prop} (hgd : o.guard = none) (s x : Operand)
    (ho : o.op = .call { callee := .builtin .append, args := #[s, x], argTypes := #[25, 25] })
    (base : Nat) (v : Value) (xs : List Int) (y : Int) (B : Nat) (hs : a.eval s = v) (hown : IO w base v xs) (hx : a.eval x = .slice (some ⟨B, 0, none⟩) 1 1)
    (hB : w.heap[B]? = some (.cells #[.int .i64 y] 3 (0, 0))) (hlen : xs.length ≤ 1000000000000) (hbase : base ≤ w.heap.size)
    (h : ∀ g cap w', IO w' base (.slice (some ⟨g, 0, none⟩) (xs.length + 1) cap) (xs ++ [y]) → w.grownBy w' v.ownBlock → (v.ownBlock = some g ∨ w.heap.size ≤ g) → wpList Try.prog ops Q rest (a.put o.dst (.slice (some ⟨g, 0, none⟩) (xs.length + 1) cap)) w') :
    wpList Try.prog ops Q (o :: rest) a w := by
  obtain ⟨i0, hi, hz0, hz1, hz2⟩ := info_parts infoI
  refine wpList_append_lies w hgd s x _ ho base 3 i0 _ 1 8 Try.underlying25 hi hz0 hz1 hz2 rfl (by decide) v xs.length _ hs hown
    ⟨B, 0, none⟩ 1 1 [.int .i64 y] hx rfl (World.news_of_block (cs := #[.int .i64 y]) hB) (by simp [Value.oneCell']) (by decide) (by simp only [maxLen]; omega) (by omega) hbase _ rfl ?_
  intro g cap w' h1 h2 h3 _
  exact h g cap w' (by simpa [IO] using h1) h2 (h3.imp id fun e => by omega)
set_option maxRecDepth 8000 in
/-- row = append(row, y): a queue -/
theorem app_Q {ops : Array Oper} {rest : List Oper} {o : Oper} {a : Act} {Q : Exit → Act → World → Prop} (hgd : o.guard = none) (s x : Operand)
    (ho : o.op = .call { callee := .builtin .append, args := #[s, x], argTypes := #[25, 25] })
    (base : Nat) (v : Value) (xs : List Int) (y : Int) (B : Nat) (hs : a.eval s = v) (hown : QO w base v xs) (hx : a.eval x = .slice (some ⟨B, 0, none⟩) 1 1)
    (hB : w.heap[B]? = some (.cells #[.int .i64 y] 3 (0, 0))) (hlen : xs.length ≤ 1000000000000) (hbase : base ≤ w.heap.size)
    (h : ∀ g off cap w', QO w' base (.slice (some ⟨g, off, none⟩) (xs.length + 1) cap) (xs ++ [y]) → w.grownBy w' v.ownBlock → (v.ownBlock = some g ∨ w.heap.size ≤ g) → wpList Try.prog ops Q rest (a.put o.dst (.slice (some ⟨g, off, none⟩) (xs.length + 1) cap)) w') :
    wpList Try.prog ops Q (o :: rest) a w := by
  obtain ⟨i0, hi, hz0, hz1, hz2⟩ := info_parts infoI
  obtain ⟨g, off, c, rfl, h1, h2, h3, h4, h5, h6⟩ := hown
  have holds : ∀ j u, (xs.map (Value.int .i64))[j]? = some u → w.cell? ⟨g, off + j, none⟩ = some u := by
    intro j u hj
    have hjl : j < xs.length := by have := (List.getElem?_eq_some_iff.1 hj).1; simpa using this
    rw [h5 j hjl, ← hj]
    simp [Z, hjl]
  refine wpList_append_arg w hgd s x _ ho 3 i0 (.int .i64 0) 1 8 Try.underlying25 hi hz0 hz1 hz2 rfl (by decide) g off xs.length c (xs.map (Value.int .i64)) hs (by simp) holds
    ⟨B, 0, none⟩ 1 1 [.int .i64 y] hx rfl (World.news_of_block (cs := #[.int .i64 y]) hB) (by simp [Value.oneCell']) (fun hr j hj => ?_) (by simp only [maxLen]; omega) (by omega) (fun hr => ?_) (fun hr v' w' ho2 hg2 => ?_)
  · simp only [List.length_singleton] at hj
    obtain rfl : j = 0 := by omega
    rw [Nat.mul_one, Nat.add_zero]
    exact h6 _ (by omega)
  · have es : w.setCells g (off + xs.length * 1) [.int .i64 y] = w.setCell ⟨g, off + xs.length, none⟩ (.int .i64 y) := by rw [Nat.mul_one]; rfl
    rw [es]
    refine h g off c _ ⟨g, off, c, by simp, by simp; omega, h2, h3, by simp [World.setCell]; exact h4, fun j hj => ?_, fun j hj => ?_⟩ (grownBy_set w g _ _) (.inl (by simp [Value.ownBlock]))
    · by_cases e : j = xs.length
      · subst e
        rw [World.cell?_setCell_same' w _ _ (h6 xs.length (by omega)).1]
        simp [Z]
      · have hj2 : j < xs.length := by simp at hj; omega
        rw [World.cell?_setCell_other (w := w) (v := .int .i64 y) (a := ⟨g, off + xs.length, none⟩) (b := ⟨g, off + j, none⟩) (by intro e2; injection e2; omega), h5 j hj2]
        simp only [Z, List.getD_eq_getElem?_getD, List.getElem?_append_left hj2]
    · have := h6 j hj
      refine ⟨?_, by rw [World.frozen?_setCell]; exact this.2⟩
      by_cases e : j = xs.length
      · subst e; rw [World.cell?_setCell_same' w _ _ this.1]; rfl
      · rw [World.cell?_setCell_other (w := w) (v := .int .i64 y) (a := ⟨g, off + xs.length, none⟩) (b := ⟨g, off + j, none⟩) (by intro e2; injection e2; omega)]; exact this.1
  · have hio : IO w' w.heap.size v' (xs ++ [y]) := by simpa [IO] using ho2
    obtain ⟨b2, c2, rfl⟩ : ∃ b2 c2, v' = .slice (some ⟨b2, 0, none⟩) (xs.length + 1) c2 := by
      rcases hio.2 with ⟨_, h0⟩ | ⟨g', cap, cur, rfl, _⟩
      · simp at h0
      · exact ⟨g', cap, by simp⟩
    have hb2 := owns_base hio b2 (by simp [Value.ownBlock])
    have hq := QO.ofIO hio
    obtain ⟨g9, off9, c9, e9, q1, q2, q3, q4, q5, q6⟩ := hq
    have e10 : g9 = b2 := by injection e9 with e1 _ _; injection e1 with e1; injection e1 with e1 _ _; exact e1.symm
    exact h b2 0 c2 w' ⟨g9, off9, c9, e9, q1, q2, by omega, q4, q5, q6⟩ ⟨hg2.os, hg2.tape, hg2.output, hg2.size, fun k hk _ => hg2.block k hk (by simp)⟩ (.inr hb2)
end

end Go.Proofs.Ytecoefjkobpbgaa

