/- Slices of slices of customers that a call owns (made by wip/gen/o9.py out of O's rows of rows) -/
import Derived.Test.YtpbmehodcllncaaO
import Derived.Deep.Upon
import Derived.OwnWalk
namespace Go.Proofs.Ytpbmehodcllncaa
set_option linter.unusedVariables false
open Go.RowKit

theorem owns_kept {w w' : World} {base : Nat} {e : TypeId} {size : Nat} {v : Value} {n : Nat} {xs : List Value} {row : Option Nat} (h : w.ownsRow base e size v n xs) (hg : w.grownBy w' row) (hr : ∀ r, v.ownBlock = some r → row ≠ some r) : w'.ownsRow base e size v n xs := by
  have hl := owns_lt h
  refine ⟨h.1, ?_⟩
  rcases h.2 with h2 | ⟨g, cap, cur, rfl, hgb, hh, rest⟩
  · exact .inl h2
  · have := hl g (by simp [Value.ownBlock])
    exact .inr ⟨g, cap, cur, rfl, hgb, by rw [hg.block g (by omega) (fun e => hr g (by simp [Value.ownBlock]) e.symm)]; exact hh, rest⟩
theorem CO.grownR' {w w' : World} {base : Nat} {row : Option Nat} {v : Value} {L : List (Int × Int)} (h : CO w base v L) (hg : w.grownBy w' row) (hr : ∀ r, v.ownBlock = some r → row ≠ some r) : CO w' base v L := by
  have hl := owns_lt h
  refine ⟨h.1, ?_⟩
  rcases h.2 with h2 | ⟨g, cap, cur, rfl, hgb, hh, rest⟩
  · exact .inl h2
  · have := hl g (by simp [Value.ownBlock])
    exact .inr ⟨g, cap, cur, rfl, hgb, by rw [hg.block g (by omega) (fun e => hr g (by simp [Value.ownBlock]) e.symm)]; exact hh, rest⟩

theorem flatK_news {w : World} {b off : Nat} {L : List (Int × Int)} (h : ∀ k, k < L.length → w.cell? ⟨b, off + k * 2, none⟩ = some (.int .i64 (X L k)) ∧ w.cell? ⟨b, off + k * 2 + 1, none⟩ = some (.int .i64 (Y L k))) : ∀ j u, (flatC L)[j]? = some u → w.cell? ((⟨b, off, none⟩ : Addr).add j) = some u := by
  intro j u hj
  have hjl : j < L.length * 2 := by have := (List.getElem?_eq_some_iff.1 hj).1; rwa [flatC_len] at this
  have e : (⟨b, off, none⟩ : Addr).add j = ⟨b, off + j, none⟩ := by by_cases e : j = 0 <;> simp [Addr.add, e]
  rw [e]
  have hf := flatC_at L (j / 2) (by omega)
  have hc := h (j / 2) (by omega)
  by_cases hp : j % 2 = 0
  · have e2 : j = j / 2 * 2 := by omega
    rw [e2, hf.1] at hj
    rw [e2, hc.1, ← hj]
  · have e2 : j = j / 2 * 2 + 1 := by omega
    rw [e2, hf.2] at hj
    rw [e2, ← Nat.add_assoc, hc.2, ← hj]
theorem flatK_one (L : List (Int × Int)) : ∀ u ∈ flatC L, u.oneCell' = true := by
  intro u hu
  simp only [flatC, List.mem_flatMap] at hu
  obtain ⟨c, _, hc⟩ := hu
  simp at hc
  rcases hc with rfl | rfl <;> rfl
theorem CO.formG {w : World} {base : Nat} {v : Value} {xs : List (Int × Int)} (h : CO w base v xs) :
    ∃ A c, v = .slice A xs.length c ∧ xs.length ≤ c ∧ (0 < xs.length → ∃ b, A = some ⟨b, 0, none⟩ ∧ base ≤ b ∧ b < w.heap.size ∧ Cells w b 0 xs) := by
  obtain ⟨A, c, e, h1, _, h2⟩ := h.form
  refine ⟨A, c, e, h1, fun hp => ?_⟩
  obtain ⟨b, off, rfl, hlt, hc⟩ := h2 hp
  subst e
  rcases h.2 with ⟨h3, _⟩ | ⟨g', cap, cur, h3, hg, _⟩
  · cases h3
  · injection h3 with e1 e2 e3
    injection e1 with e1
    injection e1 with e1 e4 _
    subst e1 e4
    exact ⟨_, rfl, hg, hlt, hc⟩
section
variable {w : World}
/-- out = append(out, customers...), any number of them, in a region in the text's order -/
theorem app_KC {ops : Array Oper} {rest : List Oper} {o : Oper} {a : Act} {Q : Exit → Act → World → Prop} (hw : Region.wanted o (yielded ops a.tmps) = true) (s x : Operand)
    (ho : o.op = .call { callee := .builtin .append, args := #[s, x], argTypes := #[23, 23] })
    (base : Nat) (v : Value) (M L : List (Int × Int)) (A : Option Addr) (c B m k : Nat) (hs : a.eval s = v) (hown : CO w base v M) (hx : a.eval x = .slice A m c) (hm : L.length = m) (hk : M.length + m = k)
    (hI : Cs w B A L) (hlen : k ≤ 1000000000000) (hbase : base ≤ w.heap.size)
    (h : ∀ G cap w', CO w' base (.slice G k cap) (M ++ L) → w.grownBy w' v.ownBlock → Below base w w' → wpList Try.prog ops Q rest (a.put o.dst (.slice G k cap)) w') :
    wpList Try.prog ops Q (o :: rest) a w := by
  subst hm hk
  obtain ⟨i0, hi, hz0, hz1, hz2⟩ := info_parts infoC
  show if Region.wanted o (yielded ops a.tmps) then _ else _
  rw [if_pos hw]
  refine Or.inl ?_
  by_cases hp : 0 < L.length
  · obtain ⟨b, off, rfl, -, hc⟩ := hI hp
    refine wp_append_lies w s x _ ho base 30 i0 _ 2 16 Try.underlying23 hi hz0 hz1 hz2 rfl (by decide) v M.length _ hs hown
      ⟨b, off, none⟩ L.length c (flatC L) hx (flatC_len L) (flatK_news hc) (flatK_one L) hp (by simp only [maxLen]; omega) (by omega) hbase _ rfl ?_
    intro g cap w' h1 h2 _ _
    exact h (some ⟨g, 0, none⟩) cap w' (by simpa [CO, flatC] using h1) h2 ((Below.refl _ _).grown h2 hbase (owns_base hown))
  · have h0 : L = [] := List.eq_nil_of_length_eq_zero (by omega)
    subst h0
    obtain ⟨G, g, rfl, hg1, -, -⟩ := hown.form
    have hsrc : Src Try.prog i0.size 23 (.slice A 0 c) 0 [] w := ⟨.inl ⟨_, Try.underlying23⟩, fun w' => by simp [Builtin.lenOf], by cases A <;> simp [Builtin.firstCells, loadCells, loadCellsFrom], by cases A <;> simp [Builtin.firstCells, loadCells, loadCellsFrom], by simp, fun u hu => by cases hu⟩
    have hr := run_append_nothing (P := Try.prog) w 23 23 o.type 30 i0 Try.underlying23 hi G M.length g hg1 (.slice A 0 c) hsrc
    have hx' : a.eval x = .slice A 0 c := hx
    unfold Oper.wp execOp
    simp only [ho, resolve, invoke, builtin, Sem.run_bind, Sem.run_pure, Result.andThen_ok, List.map_toArray, List.map_cons, List.map_nil, hs, hx', hr]
    exact h G g w (by simpa using hown) ⟨rfl, rfl, rfl, Nat.le_refl _, fun _ _ _ => rfl⟩ (Below.refl _ _)
/-- the same in a region that draws its order -/
theorem step_KC {ops : Array Oper} {o : Oper} {a : Act} {K : Act → World → Prop} {Q : Exit → Act → World → Prop} {E : Prop} (hgd : o.guard = none) (s x : Operand)
    (ho : o.op = .call { callee := .builtin .append, args := #[s, x], argTypes := #[23, 23] })
    (base : Nat) (v : Value) (M L : List (Int × Int)) (A : Option Addr) (c B m k : Nat) (hs : a.eval s = v) (hown : CO w base v M) (hx : a.eval x = .slice A m c) (hm : L.length = m) (hk : M.length + m = k)
    (hI : Cs w B A L) (hlen : k ≤ 1000000000000) (hbase : base ≤ w.heap.size)
    (h : ∀ G cap w', CO w' base (.slice G k cap) (M ++ L) → w.grownBy w' v.ownBlock → Below base w w' → K (a.put o.dst (.slice G k cap)) w') :
    if Region.wanted o (yielded ops a.tmps) = true then Oper.wp Try.prog o a w K Q else E := by
  subst hm hk
  obtain ⟨i0, hi, hz0, hz1, hz2⟩ := info_parts infoC
  by_cases hp : 0 < L.length
  · obtain ⟨b, off, rfl, -, hc⟩ := hI hp
    refine step_append_lies w hgd s x _ ho base 30 i0 _ 2 16 Try.underlying23 hi hz0 hz1 hz2 rfl (by decide) v M.length _ hs hown
      ⟨b, off, none⟩ L.length c (flatC L) hx (flatC_len L) (flatK_news hc) (flatK_one L) hp (by simp only [maxLen]; omega) (by omega) hbase _ rfl ?_
    intro g cap w' h1 h2 _ _
    exact h (some ⟨g, 0, none⟩) cap w' (by simpa [CO, flatC] using h1) h2 ((Below.refl _ _).grown h2 hbase (owns_base hown))
  · have h0 : L = [] := List.eq_nil_of_length_eq_zero (by omega)
    subst h0
    obtain ⟨G, g, rfl, hg1, -, -⟩ := hown.form
    have hsrc : Src Try.prog i0.size 23 (.slice A 0 c) 0 [] w := ⟨.inl ⟨_, Try.underlying23⟩, fun w' => by simp [Builtin.lenOf], by cases A <;> simp [Builtin.firstCells, loadCells, loadCellsFrom], by cases A <;> simp [Builtin.firstCells, loadCells, loadCellsFrom], by simp, fun u hu => by cases hu⟩
    have hr := run_append_nothing (P := Try.prog) w 23 23 o.type 30 i0 Try.underlying23 hi G M.length g hg1 (.slice A 0 c) hsrc
    have hx' : a.eval x = .slice A 0 c := hx
    rw [if_pos (show Region.wanted o (yielded ops a.tmps) = true by simp [Region.wanted, hgd])]
    unfold Oper.wp execOp
    simp only [ho, resolve, invoke, builtin, Sem.run_bind, Sem.run_pure, Result.andThen_ok, List.map_toArray, List.map_cons, List.map_nil, hs, hx', hr]
    exact h G g w (by simpa using hown) ⟨rfl, rfl, rfl, Nat.le_refl _, fun _ _ _ => rfl⟩ (Below.refl _ _)
end
theorem infoCS : (Try.prog.info? 23).map (fun i => (i.zero, i.size, i.bytes)) = some (some (.slice none 0 0), 1, 24) := by kernel_rfl

/-- v owns a row of rows; vs: the rows' headers; no two lie in one block -/
structure COO (w : World) (base : Nat) (v : Value) (xss : List (List (Int × Int))) (vs : List Value) : Prop where
  row : w.ownsRow base 23 1 v xss.length vs
  inner : ∀ k, k < xss.length → CO w base (vs.getD k undef) (xss.getD k [])
  apart : ∀ k, k < xss.length → ∀ r, (vs.getD k undef).ownBlock = some r → v.ownBlock ≠ some r
  diff : ∀ i j, i < xss.length → j < xss.length → i ≠ j → ∀ r, (vs.getD i undef).ownBlock = some r → (vs.getD j undef).ownBlock ≠ some r
theorem COO.len {w : World} {base : Nat} {v : Value} {xss : List (List (Int × Int))} {vs : List Value} (h : COO w base v xss vs) : vs.length = xss.length := by
  have := h.row.1
  omega
theorem COO.nil (w : World) (base : Nat) : COO w base (.slice none 0 0) [] [] := ⟨⟨rfl, .inl ⟨rfl, rfl⟩⟩, fun k h => by simp at h, fun k h => by simp at h, fun i j h => by simp at h⟩
theorem COO.empty (w : World) {base : Nat} (h : base ≤ w.heap.size) : COO (w.alloc (.cells #[] 23)) base (.slice (some ⟨w.heap.size, 0, none⟩) 0 0) [] [] :=
  ⟨⟨rfl, .inr ⟨w.heap.size, 0, #[], rfl, h, heap_alloc_new _ _, Nat.le_refl _, by simp [maxLen], rfl, rfl⟩⟩, fun k h => by simp at h, fun k h => by simp at h, fun i j h => by simp at h⟩
theorem COO.below {w w' : World} {base B : Nat} {v : Value} {xss : List (List (Int × Int))} {vs : List Value} (h : COO w base v xss vs) (hb : Below B w w') (hB : w.heap.size ≤ B) : COO w' base v xss vs :=
  ⟨owns_below h.row hb hB, fun k hk => (h.inner k hk).below hb hB, h.apart, h.diff⟩
theorem COO.mono {w : World} {base base' : Nat} {v : Value} {xss : List (List (Int × Int))} {vs : List Value} (h : COO w base v xss vs) (hB : base' ≤ base) : COO w base' v xss vs :=
  ⟨owns_mono h.row hB, fun k hk => (h.inner k hk).mono hB, h.apart, h.diff⟩
/-- the outer row's form and its cells -/
theorem COO.form {w : World} {base : Nat} {v : Value} {xss : List (List (Int × Int))} {vs : List Value} (h : COO w base v xss vs) :
    ∃ A c, v = .slice A xss.length c ∧ xss.length ≤ c ∧ c ≤ maxLen ∧ (0 < xss.length → ∃ g, A = some ⟨g, 0, none⟩ ∧ base ≤ g ∧ g < w.heap.size ∧ (∀ k, k < xss.length → w.cell? ⟨g, k, none⟩ = some (vs.getD k undef)) ∧ ∀ j, w.frozen? ⟨g, j, none⟩ = false) := by
  have hl := owns_lt h.row
  have hn := h.len
  rcases h.row.2 with ⟨rfl, h0⟩ | ⟨g, cap, cur, rfl, hg, hh, h1, h2, h3, h4⟩
  · exact ⟨none, 0, by rw [h0], by omega, by simp [maxLen], fun hp => by omega⟩
  · refine ⟨_, cap, rfl, h1, h2, fun _ => ⟨g, rfl, hg, hl g (by simp [Value.ownBlock]), fun k hk => ?_, fun j => World.ownsRow.frozenAt h.row j⟩⟩
    rw [World.ownsRow.cellAt h.row k (by omega)]
    simp [List.getD, List.getElem?_eq_getElem (show k < vs.length by omega)]
theorem COO.cells {w : World} {base g n c : Nat} {xss : List (List (Int × Int))} {vs : List Value} (h : COO w base (.slice (some ⟨g, 0, none⟩) n c) xss vs) :
    n = xss.length ∧ (∀ k, k < n → w.cell? ⟨g, k, none⟩ = some (vs.getD k undef)) ∧ ∀ j, w.frozen? ⟨g, j, none⟩ = false := by
  have hn : n = xss.length := by
    rcases h.row.2 with ⟨h2, _⟩ | ⟨g', cap, cur, h2, _⟩
    · cases h2
    · injection h2
  subst hn
  refine ⟨rfl, fun k hk => ?_, fun j => World.ownsRow.frozenAt h.row j⟩
  have := h.len
  rw [World.ownsRow.cellAt h.row k (by omega)]
  simp [List.getD, List.getElem?_eq_getElem (show k < vs.length by omega)]
theorem COO.inner_lt {w : World} {base : Nat} {v : Value} {xss : List (List (Int × Int))} {vs : List Value} (h : COO w base v xss vs) {k : Nat} (hk : k < xss.length) {r : Nat} (hr : (vs.getD k undef).ownBlock = some r) : r < w.heap.size ∧ base ≤ r :=
  ⟨owns_lt (h.inner k hk) r hr, owns_base (h.inner k hk) r hr⟩

section
variable {w : World}
/-- what an append of a fresh row leaves -/
theorem COO.grow {w w' W : World} {base g cap : Nat} {v sl : Value} {xss : List (List (Int × Int))} {ys : List (Int × Int)} {vs : List Value}
    (h : COO w base v xss vs) (hW : Below w.heap.size w W) (hin : CO W base sl ys) (hsl : ∀ r, sl.ownBlock = some r → w.heap.size ≤ r)
    (h1 : w'.ownsRow base 23 1 (.slice (some ⟨g, 0, none⟩) (xss.length + 1) cap) (xss.length + 1) (vs ++ [sl])) (hg : W.grownBy w' v.ownBlock) (hat : v.ownBlock = some g ∨ g = W.heap.size) :
    COO w' base (.slice (some ⟨g, 0, none⟩) (xss.length + 1) cap) (xss ++ [ys]) (vs ++ [sl]) := by
  have hln := h.len
  have hsz := hW.size
  have hvl := owns_lt h.row
  have hsl2 := owns_lt hin
  have notg : ∀ k, k < xss.length → ∀ r, (vs.getD k undef).ownBlock = some r → r ≠ g := by
    intro k hk r hr e
    subst e
    rcases hat with e2 | e2
    · exact h.apart k hk _ hr e2
    · have := (h.inner_lt hk hr).1; omega
  refine ⟨by simpa using h1, fun k hk => ?_, fun k hk r hr e => ?_, fun i j hi hj hij r hr e => ?_⟩
  · simp only [List.length_append, List.length_singleton] at hk
    rw [getD_app, getD_app, hln]
    by_cases e : k < xss.length
    · rw [if_pos e, if_pos e]
      refine ((h.inner k e).below hW (Nat.le_refl _)).grownR' hg (fun r hr hr2 => h.apart k e r hr hr2)
    · rw [if_neg e, if_neg e, if_pos (by omega), if_pos (by omega)]
      refine hin.grownR' hg (fun r hr hr2 => ?_)
      have := hsl r hr
      have := hvl r hr2
      omega
  · simp only [List.length_append, List.length_singleton] at hk
    have eg : g = r := by simpa [Value.ownBlock] using e
    subst eg
    rw [getD_app, hln] at hr
    by_cases e1 : k < xss.length
    · rw [if_pos e1] at hr
      exact notg k e1 _ hr rfl
    · rw [if_neg e1, if_pos (by omega)] at hr
      have := hsl _ hr
      have := hsl2 _ hr
      rcases hat with e2 | e2
      · have := hvl _ e2; omega
      · omega
  · simp only [List.length_append, List.length_singleton] at hi hj
    rw [getD_app, hln] at hr e
    by_cases e1 : i < xss.length
    · rw [if_pos e1] at hr
      by_cases e2 : j < xss.length
      · rw [if_pos e2] at e
        exact h.diff i j e1 e2 hij r hr e
      · rw [if_neg e2, if_pos (by omega)] at e
        have := hsl _ e
        have := (h.inner_lt e1 hr).1
        omega
    · rw [if_neg e1, if_pos (by omega)] at hr
      have := hsl _ hr
      by_cases e2 : j < xss.length
      · rw [if_pos e2] at e
        have := (h.inner_lt e2 e).1
        omega
      · omega
/-- out = append(out, row) of a fresh row, in a region in the text's order -/
theorem app_CO {ops : Array Oper} {rest : List Oper} {o : Oper} {a : Act} {Q : Exit → Act → World → Prop} (hgd : o.guard = none) (s x : Operand)
    (ho : o.op = .call { callee := .builtin .append, args := #[s, x], argTypes := #[24, 24] })
    (base : Nat) (v : Value) (xss : List (List (Int × Int))) (vs : List Value) (w0 : World) (sl : Value) (ys : List (Int × Int)) (B : Nat) (hs : a.eval s = v) (hown : COO w0 base v xss vs) (hW : Below w0.heap.size w0 w)
    (hin : CO w base sl ys) (hsl : ∀ r, sl.ownBlock = some r → w0.heap.size ≤ r) (hone : sl.oneCell' = true) (hx : a.eval x = .slice (some ⟨B, 0, none⟩) 1 1)
    (hB : w.heap[B]? = some (.cells #[sl] 23 (0, 0))) (hlen : xss.length ≤ 1000000000) (hbase : base ≤ w.heap.size)
    (h : ∀ g cap w', COO w' base (.slice (some ⟨g, 0, none⟩) (xss.length + 1) cap) (xss ++ [ys]) (vs ++ [sl]) → w.grownBy w' v.ownBlock → (v.ownBlock = some g ∨ g = w.heap.size) → Below base w w' → wpList Try.prog ops Q rest (a.put o.dst (.slice (some ⟨g, 0, none⟩) (xss.length + 1) cap)) w') :
    wpList Try.prog ops Q (o :: rest) a w := by
  obtain ⟨i0, hi0, hz0, hz1, hz2⟩ := info_parts infoCS
  refine wpList_append_lies w hgd s x _ ho base 23 i0 _ 1 24 Try.underlying24 hi0 hz0 hz1 hz2 rfl (by decide) v xss.length _ hs (owns_below hown.row hW (Nat.le_refl _))
    ⟨B, 0, none⟩ 1 1 [sl] hx rfl (World.news_of_block (cs := #[sl]) hB) (by simpa using hone) (by decide) (by simp only [maxLen]; omega) (by omega) hbase _ rfl ?_
  intro g cap w' h1 h2 h3 _
  exact h g cap w' (hown.grow hW hin hsl h1 h2 h3) h2 h3 ((Below.refl _ _).grown h2 hbase (owns_base hown.row))
/-- out = append(out, row) of a fresh row, in a region that draws its order -/
theorem step_CO {ops : Array Oper} {o : Oper} {a : Act} {K : Act → World → Prop} {Q : Exit → Act → World → Prop} {E : Prop} (hgd : o.guard = none) (s x : Operand)
    (ho : o.op = .call { callee := .builtin .append, args := #[s, x], argTypes := #[24, 24] })
    (base : Nat) (v : Value) (xss : List (List (Int × Int))) (vs : List Value) (w0 : World) (sl : Value) (ys : List (Int × Int)) (B : Nat) (hs : a.eval s = v) (hown : COO w0 base v xss vs) (hW : Below w0.heap.size w0 w)
    (hin : CO w base sl ys) (hsl : ∀ r, sl.ownBlock = some r → w0.heap.size ≤ r) (hone : sl.oneCell' = true) (hx : a.eval x = .slice (some ⟨B, 0, none⟩) 1 1)
    (hB : w.heap[B]? = some (.cells #[sl] 23 (0, 0))) (hlen : xss.length ≤ 1000000000) (hbase : base ≤ w.heap.size)
    (h : ∀ g cap w', COO w' base (.slice (some ⟨g, 0, none⟩) (xss.length + 1) cap) (xss ++ [ys]) (vs ++ [sl]) → w.grownBy w' v.ownBlock → (v.ownBlock = some g ∨ g = w.heap.size) → Below base w w' → K (a.put o.dst (.slice (some ⟨g, 0, none⟩) (xss.length + 1) cap)) w') :
    if Region.wanted o (yielded ops a.tmps) = true then Oper.wp Try.prog o a w K Q else E := by
  obtain ⟨i0, hi0, hz0, hz1, hz2⟩ := info_parts infoCS
  refine step_append_lies w hgd s x _ ho base 23 i0 _ 1 24 Try.underlying24 hi0 hz0 hz1 hz2 rfl (by decide) v xss.length _ hs (owns_below hown.row hW (Nat.le_refl _))
    ⟨B, 0, none⟩ 1 1 [sl] hx rfl (World.news_of_block (cs := #[sl]) hB) (by simpa using hone) (by decide) (by simp only [maxLen]; omega) (by omega) hbase _ rfl ?_
  intro g cap w' h1 h2 h3 _
  exact h g cap w' (hown.grow hW hin hsl h1 h2 h3) h2 h3 ((Below.refl _ _).grown h2 hbase (owns_base hown.row))
end
/-- out[k] = row, a fresh one -/
theorem COO.store {w W : World} {base g n c : Nat} {xss : List (List (Int × Int))} {ys : List (Int × Int)} {sl : Value} {vs : List Value} (h : COO w base (.slice (some ⟨g, 0, none⟩) n c) xss vs) (hW : Below w.heap.size w W)
    (hin : CO W base sl ys) (hsl : ∀ r, sl.ownBlock = some r → w.heap.size ≤ r) (k : Nat) (hk : k < n) :
    COO (W.setCell ⟨g, k, none⟩ sl) base (.slice (some ⟨g, 0, none⟩) n c) (xss.set k ys) (vs.set k sl) := by
  have hn := h.cells.1
  subst hn
  have hln := h.len
  have hgl := owns_lt h.row g (by simp [Value.ownBlock])
  have h1 := (World.ownsRow.stored (g := g) (cap := c) (owns_below h.row hW (Nat.le_refl _)) k sl).1
  have hset : ∀ v' zs, (∀ r, v'.ownBlock = some r → r ≠ g) → CO W base v' zs → CO (W.setCell ⟨g, k, none⟩ sl) base v' zs := by
    intro v' zs hne hio
    exact hio.grownR' (row := some g) ⟨rfl, rfl, rfl, by simp [World.setCell], fun b _ hb => Below.heap_setCell _ _ _ _ (fun e => hb (by rw [e]))⟩ (fun r hr hr2 => hne r hr (by cases hr2; rfl))
  refine ⟨by rw [List.length_set]; exact h1, fun i hi => ?_, fun i hi r hr e => ?_, fun i j hi hj hij r hr e => ?_⟩
  · rw [List.length_set] at hi
    rw [getD_set' _ _ _ _ _ (by omega), getD_set' _ _ _ _ _ (by omega)]
    split
    · exact hset _ _ (fun r hr => by have := hsl r hr; omega) hin
    · exact hset _ _ (fun r hr e => h.apart i hi r hr (by simp [Value.ownBlock, e])) ((h.inner i hi).below hW (Nat.le_refl _))
  · rw [List.length_set] at hi
    have eg : g = r := by simpa [Value.ownBlock] using e
    rw [getD_set' _ _ _ _ _ (by omega)] at hr
    split at hr
    · have := hsl _ hr; omega
    · exact h.apart i hi r hr e
  · rw [List.length_set] at hi hj
    rw [getD_set' _ _ _ _ _ (by omega)] at hr e
    split at hr
    · have := hsl _ hr
      split at e
      · omega
      · have := (h.inner_lt hj e).1; omega
    · split at e
      · have := hsl _ e
        have := (h.inner_lt hi hr).1; omega
      · exact h.diff i j hi hj hij r hr e
theorem COO.keptLow {w w' : World} {base r : Nat} {v : Value} {xss : List (List (Int × Int))} {vs : List Value} (h : COO w base v xss vs) (hg : w.grownBy w' (some r)) (hr : r < base) : COO w' base v xss vs :=
  ⟨owns_kept h.row hg (fun k hk e => by cases e; have := owns_base h.row _ hk; omega), fun k hk => (h.inner k hk).grownR' hg (fun j hj e => by cases e; have := owns_base (h.inner k hk) _ hj; omega), h.apart, h.diff⟩

end Go.Proofs.Ytpbmehodcllncaa

