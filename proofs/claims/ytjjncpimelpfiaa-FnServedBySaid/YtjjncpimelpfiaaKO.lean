/- Rows of rows of numbers that a call owns: [][]int -/
import Derived.Test.YtjjncpimelpfiaaT
namespace Go.Proofs.Ytjjncpimelpfiaa
set_option linter.unusedVariables false
open Go.RowKit

theorem infoS : (Try.prog.info? 36).map (fun i => (i.zero, i.size, i.bytes)) = some (some (.slice none 0 0), 1, 24) := by kernel_rfl

/-- v owns a row of rows; vs: the rows' headers; no two lie in one block -/
structure IOO (w : World) (base : Nat) (v : Value) (xss : List (List Int)) (vs : List Value) : Prop where
  row : w.ownsRow base 36 1 v xss.length vs
  inner : ∀ k, k < xss.length → IO w base (vs.getD k undef) (xss.getD k [])
  apart : ∀ k, k < xss.length → ∀ r, (vs.getD k undef).ownBlock = some r → v.ownBlock ≠ some r
  diff : ∀ i j, i < xss.length → j < xss.length → i ≠ j → ∀ r, (vs.getD i undef).ownBlock = some r → (vs.getD j undef).ownBlock ≠ some r
theorem IOO.len {w : World} {base : Nat} {v : Value} {xss : List (List Int)} {vs : List Value} (h : IOO w base v xss vs) : vs.length = xss.length := by
  have := h.row.1
  omega
theorem IOO.nil (w : World) (base : Nat) : IOO w base (.slice none 0 0) [] [] := ⟨⟨rfl, .inl ⟨rfl, rfl⟩⟩, fun k h => by simp at h, fun k h => by simp at h, fun i j h => by simp at h⟩
theorem IOO.empty (w : World) {base : Nat} (h : base ≤ w.heap.size) : IOO (w.alloc (.cells #[] 36)) base (.slice (some ⟨w.heap.size, 0, none⟩) 0 0) [] [] :=
  ⟨⟨rfl, .inr ⟨w.heap.size, 0, #[], rfl, h, heap_alloc_new _ _, Nat.le_refl _, by simp [maxLen], rfl, rfl⟩⟩, fun k h => by simp at h, fun k h => by simp at h, fun i j h => by simp at h⟩
theorem IOO.below {w w' : World} {base B : Nat} {v : Value} {xss : List (List Int)} {vs : List Value} (h : IOO w base v xss vs) (hb : Below B w w') (hB : w.heap.size ≤ B) : IOO w' base v xss vs :=
  ⟨owns_below h.row hb hB, fun k hk => (h.inner k hk).below hb hB, h.apart, h.diff⟩
theorem IOO.mono {w : World} {base base' : Nat} {v : Value} {xss : List (List Int)} {vs : List Value} (h : IOO w base v xss vs) (hB : base' ≤ base) : IOO w base' v xss vs :=
  ⟨owns_mono h.row hB, fun k hk => (h.inner k hk).mono hB, h.apart, h.diff⟩
/-- the outer row's form and its cells -/
theorem IOO.form {w : World} {base : Nat} {v : Value} {xss : List (List Int)} {vs : List Value} (h : IOO w base v xss vs) :
    ∃ A c, v = .slice A xss.length c ∧ xss.length ≤ c ∧ c ≤ maxLen ∧ (0 < xss.length → ∃ g, A = some ⟨g, 0, none⟩ ∧ base ≤ g ∧ g < w.heap.size ∧ (∀ k, k < xss.length → w.cell? ⟨g, k, none⟩ = some (vs.getD k undef)) ∧ ∀ j, w.frozen? ⟨g, j, none⟩ = false) := by
  have hl := owns_lt h.row
  have hn := h.len
  rcases h.row.2 with ⟨rfl, h0⟩ | ⟨g, cap, cur, rfl, hg, hh, h1, h2, h3, h4⟩
  · exact ⟨none, 0, by rw [h0], by omega, by simp [maxLen], fun hp => by omega⟩
  · refine ⟨_, cap, rfl, h1, h2, fun _ => ⟨g, rfl, hg, hl g (by simp [Value.ownBlock]), fun k hk => ?_, fun j => World.ownsRow.frozenAt h.row j⟩⟩
    rw [World.ownsRow.cellAt h.row k (by omega)]
    simp [List.getD, List.getElem?_eq_getElem (show k < vs.length by omega)]
theorem IOO.cells {w : World} {base g n c : Nat} {xss : List (List Int)} {vs : List Value} (h : IOO w base (.slice (some ⟨g, 0, none⟩) n c) xss vs) :
    n = xss.length ∧ (∀ k, k < n → w.cell? ⟨g, k, none⟩ = some (vs.getD k undef)) ∧ ∀ j, w.frozen? ⟨g, j, none⟩ = false := by
  have hn : n = xss.length := by
    rcases h.row.2 with ⟨h2, _⟩ | ⟨g', cap, cur, h2, _⟩
    · cases h2
    · injection h2
  subst hn
  refine ⟨rfl, fun k hk => ?_, fun j => World.ownsRow.frozenAt h.row j⟩
  have := h.len
  rw [World.ownsRow.cellAt h.row k (by omega)]
  simp [List.getD, List.getElem?_eq_getElem (show k < vs.length by omega)]
theorem IOO.inner_lt {w : World} {base : Nat} {v : Value} {xss : List (List Int)} {vs : List Value} (h : IOO w base v xss vs) {k : Nat} (hk : k < xss.length) {r : Nat} (hr : (vs.getD k undef).ownBlock = some r) : r < w.heap.size ∧ base ≤ r :=
  ⟨owns_lt (h.inner k hk) r hr, owns_base (h.inner k hk) r hr⟩
theorem getD_app {α : Type} (xs : List α) (y d : α) (k : Nat) : (xs ++ [y]).getD k d = if k < xs.length then xs.getD k d else if k = xs.length then y else d := by
  simp only [List.getD]
  by_cases h : k < xs.length
  · rw [if_pos h, List.getElem?_append_left h]
  · rw [if_neg h]
    by_cases e : k = xs.length
    · subst e; simp
    · rw [if_neg e, List.getElem?_eq_none (by simp; omega)]; rfl
theorem getD_set' {α : Type} (xs : List α) (y d : α) (n k : Nat) (h : n < xs.length) : (xs.set n y).getD k d = if n = k then y else xs.getD k d := by
  simp only [List.getD, List.getElem?_set]
  split
  · rfl
  · rfl

section
variable {w : World}
/-- what an append of a fresh row leaves -/
theorem IOO.grow {w w' W : World} {base g cap : Nat} {v sl : Value} {xss : List (List Int)} {ys : List Int} {vs : List Value}
    (h : IOO w base v xss vs) (hW : Below w.heap.size w W) (hin : IO W base sl ys) (hsl : ∀ r, sl.ownBlock = some r → w.heap.size ≤ r)
    (h1 : w'.ownsRow base 36 1 (.slice (some ⟨g, 0, none⟩) (xss.length + 1) cap) (xss.length + 1) (vs ++ [sl])) (hg : W.grownBy w' v.ownBlock) (hat : v.ownBlock = some g ∨ g = W.heap.size) :
    IOO w' base (.slice (some ⟨g, 0, none⟩) (xss.length + 1) cap) (xss ++ [ys]) (vs ++ [sl]) := by
  have hln := h.len
  have hsz := hW.size
  have hvl := owns_lt h.row
  have hsl2 := owns_lt hin
  have notg : ∀ k, k < xss.length → ∀ r, (vs.getD k undef).ownBlock = some r → r ≠ g := by
    intro k hk r hr e
    subst e
    rcases hat with e2 | e2
    · exact h.apart k hk _ hr e2
    · have := (h.inner_lt hk hr).1; omega
  refine ⟨by simpa using h1, fun k hk => ?_, fun k hk r hr e => ?_, fun i j hi hj hij r hr e => ?_⟩
  · simp only [List.length_append, List.length_singleton] at hk
    rw [getD_app, getD_app, hln]
    by_cases e : k < xss.length
    · rw [if_pos e, if_pos e]
      refine ((h.inner k e).below hW (Nat.le_refl _)).grownR' hg (fun r hr hr2 => h.apart k e r hr hr2)
    · rw [if_neg e, if_neg e, if_pos (by omega), if_pos (by omega)]
      refine hin.grownR' hg (fun r hr hr2 => ?_)
      have := hsl r hr
      have := hvl r hr2
      omega
  · simp only [List.length_append, List.length_singleton] at hk
    have eg : g = r := by simpa [Value.ownBlock] using e
    subst eg
    rw [getD_app, hln] at hr
    by_cases e1 : k < xss.length
    · rw [if_pos e1] at hr
      exact notg k e1 _ hr rfl
    · rw [if_neg e1, if_pos (by omega)] at hr
      have := hsl _ hr
      have := hsl2 _ hr
      rcases hat with e2 | e2
      · have := hvl _ e2; omega
      · omega
  · simp only [List.length_append, List.length_singleton] at hi hj
    rw [getD_app, hln] at hr e
    by_cases e1 : i < xss.length
    · rw [if_pos e1] at hr
      by_cases e2 : j < xss.length
      · rw [if_pos e2] at e
        exact h.diff i j e1 e2 hij r hr e
      · rw [if_neg e2, if_pos (by omega)] at e
        have := hsl _ e
        have := (h.inner_lt e1 hr).1
        omega
    · rw [if_neg e1, if_pos (by omega)] at hr
      have := hsl _ hr
      by_cases e2 : j < xss.length
      · rw [if_pos e2] at e
        have := (h.inner_lt e2 e).1
        omega
      · omega
/-- out = append(out, row) of a fresh row, in a region in the text's order; apart from what lies between lo and hi -/
theorem app_OO {ops : Array Oper} {rest : List Oper} {o : Oper} {a : Act} {Q : Exit → Act → World → Prop} (hgd : o.guard = none) (s x : Operand)
    (ho : o.op = .call { callee := .builtin .append, args := #[s, x], argTypes := #[33, 33] })
    (base : Nat) (v : Value) (xss : List (List Int)) (vs : List Value) (w0 : World) (sl : Value) (ys : List Int) (B : Nat) (hs : a.eval s = v) (hown : IOO w0 base v xss vs) (hW : Below w0.heap.size w0 w)
    (hin : IO w base sl ys) (hsl : ∀ r, sl.ownBlock = some r → w0.heap.size ≤ r) (hone : sl.oneCell' = true) (hx : a.eval x = .slice (some ⟨B, 0, none⟩) 1 1)
    (hB : w.heap[B]? = some (.cells #[sl] 36 (0, 0))) (hlen : xss.length ≤ 1000000000) (hbase : base ≤ w.heap.size)
    (lo hi : Nat) (w1 : World) (hsep : Sep lo hi v) (hmid : Mid lo hi w1 w) (hhi : hi ≤ w.heap.size)
    (h : ∀ g cap w', IOO w' base (.slice (some ⟨g, 0, none⟩) (xss.length + 1) cap) (xss ++ [ys]) (vs ++ [sl]) → Below base w w' → Sep lo hi (.slice (some ⟨g, 0, none⟩) (xss.length + 1) cap) → Mid lo hi w1 w' → wpList Try.prog ops Q rest (a.put o.dst (.slice (some ⟨g, 0, none⟩) (xss.length + 1) cap)) w') :
    wpList Try.prog ops Q (o :: rest) a w := by
  obtain ⟨i0, hi0, hz0, hz1, hz2⟩ := info_parts infoS
  refine wpList_append_lies w hgd s x _ ho base 36 i0 _ 1 24 Try.underlying33 hi0 hz0 hz1 hz2 rfl (by decide) v xss.length _ hs (owns_below hown.row hW (Nat.le_refl _))
    ⟨B, 0, none⟩ 1 1 [sl] hx rfl (World.news_of_block (cs := #[sl]) hB) (by simpa using hone) (by decide) (by simp only [maxLen]; omega) (by omega) hbase _ rfl ?_
  intro g cap w' h1 h2 h3 _
  exact h g cap w' (hown.grow hW hin hsl h1 h2 h3) ((Below.refl _ _).grown h2 hbase (owns_base hown.row)) (fun r e => by
    simp [Value.ownBlock] at e; subst e
    rcases h3 with h3 | h3
    · exact hsep _ h3
    · omega) (hmid.grown hsep h2 hhi)
end
/-- out[k] = row, a fresh one -/
theorem IOO.store {w W : World} {base g n c : Nat} {xss : List (List Int)} {ys : List Int} {sl : Value} {vs : List Value} (h : IOO w base (.slice (some ⟨g, 0, none⟩) n c) xss vs) (hW : Below w.heap.size w W)
    (hin : IO W base sl ys) (hsl : ∀ r, sl.ownBlock = some r → w.heap.size ≤ r) (k : Nat) (hk : k < n) :
    IOO (W.setCell ⟨g, k, none⟩ sl) base (.slice (some ⟨g, 0, none⟩) n c) (xss.set k ys) (vs.set k sl) := by
  have hn := h.cells.1
  subst hn
  have hln := h.len
  have hgl := owns_lt h.row g (by simp [Value.ownBlock])
  have h1 := (World.ownsRow.stored (g := g) (cap := c) (owns_below h.row hW (Nat.le_refl _)) k sl).1
  have hset : ∀ v' zs, (∀ r, v'.ownBlock = some r → r ≠ g) → IO W base v' zs → IO (W.setCell ⟨g, k, none⟩ sl) base v' zs := by
    intro v' zs hne hio
    exact hio.grownR' (row := some g) ⟨rfl, rfl, rfl, by simp [World.setCell], fun b _ hb => Below.heap_setCell _ _ _ _ (fun e => hb (by rw [e]))⟩ (fun r hr hr2 => hne r hr (by cases hr2; rfl))
  refine ⟨by rw [List.length_set]; exact h1, fun i hi => ?_, fun i hi r hr e => ?_, fun i j hi hj hij r hr e => ?_⟩
  · rw [List.length_set] at hi
    rw [getD_set' _ _ _ _ _ (by omega), getD_set' _ _ _ _ _ (by omega)]
    split
    · exact hset _ _ (fun r hr => by have := hsl r hr; omega) hin
    · exact hset _ _ (fun r hr e => h.apart i hi r hr (by simp [Value.ownBlock, e])) ((h.inner i hi).below hW (Nat.le_refl _))
  · rw [List.length_set] at hi
    have eg : g = r := by simpa [Value.ownBlock] using e
    rw [getD_set' _ _ _ _ _ (by omega)] at hr
    split at hr
    · have := hsl _ hr; omega
    · exact h.apart i hi r hr e
  · rw [List.length_set] at hi hj
    rw [getD_set' _ _ _ _ _ (by omega)] at hr e
    split at hr
    · have := hsl _ hr
      split at e
      · omega
      · have := (h.inner_lt hj e).1; omega
    · split at e
      · have := hsl _ e
        have := (h.inner_lt hi hr).1; omega
      · exact h.diff i j hi hj hij r hr e

end Go.Proofs.Ytjjncpimelpfiaa

