/- A row of rows of customers that a call owns, at any place of its block: append of a fresh row -/
import Derived.Test.YtpbmehodcllncaaO10
import Derived.ArgAppend
namespace Go.Proofs.Ytpbmehodcllncaa
set_option linter.unusedVariables false
open Go.RowKit

theorem getD_snoc {vs : List Value} {x : Value} {k n : Nat} (hn : vs.length = n) (hk : k < n + 1) : (vs ++ [x]).getD k undef = if k = n then x else vs.getD k undef := by
  by_cases e : k = n
  · subst e; subst hn; simp [List.getD_eq_getElem?_getD]
  · rw [if_neg e, List.getD_eq_getElem?_getD, List.getD_eq_getElem?_getD, List.getElem?_append_left (by omega)]
theorem LL_snoc {Ls : List (List (Int × Int))} {ys : List (Int × Int)} {k n : Nat} (hn : Ls.length = n) (hk : k < n + 1) : LL (Ls ++ [ys]) k = if k = n then ys else LL Ls k := by
  unfold LL
  by_cases e : k = n
  · subst e; subst hn; simp [List.getD_eq_getElem?_getD]
  · rw [if_neg e, List.getD_eq_getElem?_getD, List.getD_eq_getElem?_getD, List.getElem?_append_left (by omega)]
/-- with a fresh row behind it, wherever the row lies now -/
theorem PL.grow {w0 w w' : World} {base : Nat} {v v' sl : Value} {Ls : List (List (Int × Int))} {ys : List (Int × Int)} {vs : List Value} (h : PL w0 base v Ls vs) (hW : Below w0.heap.size w0 w) (hin : CO w base sl ys) (hsl : ∀ r, sl.ownBlock = some r → w0.heap.size ≤ r)
    (hrow : (v' = .slice none 0 0 ∧ Ls ++ [ys] = []) ∨ ∃ g off c, v' = .slice (some ⟨g, off, none⟩) (Ls ++ [ys]).length c ∧ (Ls ++ [ys]).length ≤ c ∧ c ≤ maxLen ∧ base ≤ g ∧ g < w'.heap.size ∧
      (∀ k, k < (Ls ++ [ys]).length → w'.cell? ⟨g, off + k, none⟩ = some ((vs ++ [sl]).getD k undef)) ∧ ∀ j, j < c → (w'.cell? ⟨g, off + j, none⟩).isSome = true ∧ w'.frozen? ⟨g, off + j, none⟩ = false)
    (hg : w.grownBy w' v.ownBlock) (hv : v'.ownBlock = v.ownBlock ∨ ∀ r, v'.ownBlock = some r → w.heap.size ≤ r) : PL w' base v' (Ls ++ [ys]) (vs ++ [sl]) := by
  have hl := h.len
  have hlt : ∀ k, k < Ls.length → ∀ r, (vs.getD k undef).ownBlock = some r → r < w0.heap.size := fun k hk r hr => owns_lt (h.inner k hk) r hr
  have hvl : ∀ r, v.ownBlock = some r → r < w0.heap.size := fun r hr => (h.base_lt r hr).2
  have hsz := hW.size
  have hsll : ∀ r, sl.ownBlock = some r → r < w.heap.size := fun r hr => owns_lt hin r hr
  have hlen : (Ls ++ [ys]).length = Ls.length + 1 := by simp
  refine ⟨hrow, by simp [hl], fun k hk => ?_, fun k hk r hr => ?_, fun i j hi hj hij r hr => ?_⟩
  · rw [hlen] at hk
    rw [getD_snoc hl hk, LL_snoc rfl hk]
    by_cases e : k = Ls.length
    · rw [if_pos e, if_pos e]
      exact hin.grownR' hg (fun r hr e2 => by have := hvl r e2; have := hsl r hr; omega)
    · rw [if_neg e, if_neg e]
      exact ((h.inner k (by omega)).below hW (Nat.le_refl _)).grownR' hg (fun r hr e2 => h.apart k (by omega) r hr e2)
  · rw [hlen] at hk
    rw [getD_snoc hl hk] at hr
    intro e2
    by_cases e : k = Ls.length
    · rw [if_pos e] at hr
      rcases hv with hv | hv
      · rw [hv] at e2; have := hvl r e2; have := hsl r hr; omega
      · have := hv r e2; have := hsll r hr; omega
    · rw [if_neg e] at hr
      rcases hv with hv | hv
      · rw [hv] at e2; exact h.apart k (by omega) r hr e2
      · have := hv r e2; have := hlt k (by omega) r hr; omega
  · rw [hlen] at hi hj
    rw [getD_snoc hl hi] at hr
    rw [getD_snoc hl hj]
    intro e2
    by_cases ei : i = Ls.length
    · rw [if_pos ei] at hr
      rw [if_neg (by omega)] at e2
      have := hlt j (by omega) r e2; have := hsl r hr; omega
    · rw [if_neg ei] at hr
      by_cases ej : j = Ls.length
      · rw [if_pos ej] at e2
        have := hlt i (by omega) r hr; have := hsl r e2; omega
      · rw [if_neg ej] at e2
        exact h.diff i j (by omega) (by omega) hij r hr e2
section
variable {w : World}
theorem app_PL {ops : Array Oper} {rest : List Oper} {o : Oper} {a : Act} {Q : Exit → Act → World → Prop} (hgd : o.guard = none) (s x : Operand)
    (ho : o.op = .call { callee := .builtin .append, args := #[s, x], argTypes := #[24, 24] })
    (base : Nat) (v : Value) (Ls : List (List (Int × Int))) (vs : List Value) (w0 : World) (sl : Value) (ys : List (Int × Int)) (B : Nat) (hs : a.eval s = v) (hown : PL w0 base v Ls vs) (hW : Below w0.heap.size w0 w)
    (hin : CO w base sl ys) (hsl : ∀ r, sl.ownBlock = some r → w0.heap.size ≤ r) (hone : sl.oneCell' = true) (hx : a.eval x = .slice (some ⟨B, 0, none⟩) 1 1)
    (hB : w.heap[B]? = some (.cells #[sl] 23 (0, 0))) (hlen : Ls.length ≤ 1000000000) (hbase : base ≤ w.heap.size)
    (h : ∀ g off cap w', PL w' base (.slice (some ⟨g, off, none⟩) (Ls.length + 1) cap) (Ls ++ [ys]) (vs ++ [sl]) → w.grownBy w' v.ownBlock → Below base w w' → (v.ownBlock = some g ∨ w.heap.size ≤ g) → wpList Try.prog ops Q rest (a.put o.dst (.slice (some ⟨g, off, none⟩) (Ls.length + 1) cap)) w') :
    wpList Try.prog ops Q (o :: rest) a w := by
  obtain ⟨i0, hi0, hz0, hz1, hz2⟩ := info_parts infoCS
  have hl := hown.len
  have hbl : ∀ r, v.ownBlock = some r → base ≤ r := fun r hr => (hown.base_lt r hr).1
  rcases hown.row with ⟨rfl, rfl⟩ | ⟨g, off, c, rfl, h1, h2, h3, h4, h5, h6⟩
  · have hv0 : vs = [] := List.eq_nil_of_length_eq_zero hl
    subst hv0
    refine app_CO hgd s x ho base _ [] [] w0 sl ys B hs (COO.nil _ _) hW hin hsl hone hx hB (by simp) hbase ?_
    intro g cap w' h1 h2 h3 h4
    exact h g 0 cap w' (PL.ofCOO h1) h2 h4 (h3.imp id fun e => by omega)
  · have hsz := hW.size
    have hb : ∀ o2, w.heap[(⟨g, o2, none⟩ : Addr).block]? = w0.heap[(⟨g, o2, none⟩ : Addr).block]? := fun o2 => hW.block g h4
    have c5 : ∀ k, k < Ls.length → w.cell? ⟨g, off + k, none⟩ = some (vs.getD k undef) := fun k hk => (World.cell?_of_block (hb _)).trans (h5 k hk)
    have c6 : ∀ j, j < c → (w.cell? ⟨g, off + j, none⟩).isSome = true ∧ w.frozen? ⟨g, off + j, none⟩ = false := fun j hj => by
      have := h6 j hj
      rw [World.cell?_of_block (hb _), World.frozen?_of_block (hb _)]
      exact this
    have holds : ∀ j u, vs[j]? = some u → w.cell? ⟨g, off + j, none⟩ = some u := by
      intro j u hj
      have hjl : j < vs.length := (List.getElem?_eq_some_iff.1 hj).1
      rw [c5 j (by omega), List.getD_eq_getElem?_getD, hj]; rfl
    refine wpList_append_arg w hgd s x _ ho 23 i0 _ 1 24 Try.underlying24 hi0 hz0 hz1 hz2 rfl (by decide) g off Ls.length c vs hs (by omega) holds
      ⟨B, 0, none⟩ 1 1 [sl] hx rfl (World.news_of_block (cs := #[sl]) hB) (by simpa using hone) (fun hr j hj => ?_) (by simp only [maxLen]; omega) (by omega) (fun hr => ?_) (fun hr v' w' ho2 hg2 => ?_)
    · simp only [List.length_singleton] at hj
      obtain rfl : j = 0 := by omega
      rw [Nat.mul_one, Nat.add_zero]
      exact c6 _ (by omega)
    · have es : w.setCells g (off + Ls.length * 1) [sl] = w.setCell ⟨g, off + Ls.length, none⟩ sl := by rw [Nat.mul_one]; rfl
      rw [es]
      have hgs : w.grownBy (w.setCell ⟨g, off + Ls.length, none⟩ sl) (some g) := ⟨rfl, rfl, rfl, by simp [World.setCell], fun k _ hk => Below.heap_setCell _ _ _ k (fun e => hk (by rw [e]))⟩
      refine h g off c _ (hown.grow hW hin hsl (.inr ⟨g, off, c, by simp, by simp; omega, h2, h3, by simp [World.setCell]; omega, fun j hj => ?_, fun j hj => ?_⟩) hgs (.inl rfl)) hgs ((Below.refl _ w).grown hgs hbase (fun k e => by cases e; exact h3)) (.inl rfl)
      · rw [List.length_append, List.length_singleton] at hj
        rw [getD_snoc hl hj]
        by_cases e : j = Ls.length
        · subst e
          rw [if_pos rfl]
          exact World.cell?_setCell_same' w _ _ (c6 Ls.length (by omega)).1
        · rw [if_neg e, World.cell?_setCell_other (w := w) (v := sl) (a := ⟨g, off + Ls.length, none⟩) (b := ⟨g, off + j, none⟩) (by intro e2; injection e2; omega), c5 j (by omega)]
      · have := c6 j hj
        refine ⟨?_, by rw [World.frozen?_setCell]; exact this.2⟩
        by_cases e : j = Ls.length
        · subst e; rw [World.cell?_setCell_same' w _ _ this.1]; rfl
        · rw [World.cell?_setCell_other (w := w) (v := sl) (a := ⟨g, off + Ls.length, none⟩) (b := ⟨g, off + j, none⟩) (by intro e2; injection e2; omega)]; exact this.1
    · obtain ⟨b2, c2, cur, rfl, q1, q2, q3, q4, q5, q6⟩ : ∃ g' cap cur, v' = .slice (some ⟨g', 0, none⟩) (Ls.length + 1) cap ∧ w.heap.size ≤ g' ∧ w'.heap[g']? = some (.cells cur 23 (0, 0)) ∧ Ls.length + 1 ≤ cap ∧ cap ≤ maxLen ∧ cur.size = cap * 1 ∧ cur.toList.take ((Ls.length + 1) * 1) = vs ++ [sl] := by
        rcases ho2.2 with ⟨_, h0⟩ | h9
        · omega
        · exact h9
      have hgw : w.grownBy w' (Value.slice (some ⟨g, off, none⟩) Ls.length c).ownBlock := ⟨hg2.os, hg2.tape, hg2.output, hg2.size, fun k hk _ => hg2.block k hk (by simp)⟩
      have hlt2 := (Array.getElem?_eq_some_iff.1 q2).1
      refine h b2 0 c2 w' (hown.grow hW hin hsl (.inr ⟨b2, 0, c2, by simp, by simp; omega, q4, by omega, hlt2, fun j hj => ?_, fun j hj => ?_⟩) hgw (.inr fun r hr => ?_)) hgw ((Below.refl _ w).grown hgw hbase (fun k e => hbl k e)) (.inr q1)
      · rw [List.length_append, List.length_singleton] at hj
        rw [Nat.zero_add]
        have := World.ownsRow.cellAt ho2 j (by simp; omega)
        rw [this, List.getD_eq_getElem?_getD]
        simp [show j < vs.length + 1 by omega]
      · rw [Nat.zero_add]
        refine ⟨?_, World.ownsRow.frozenAt ho2 j⟩
        rw [cell_of_row w' b2 j cur _ _ q2, Array.getElem?_eq_getElem (by omega)]; rfl
      · simp only [Value.ownBlock, Option.some.injEq] at hr; omega
end
/-- two cells of the desk's block -/
theorem two_at {wx : World} {B : Nat} {x y : Value} (h : wx.heap[B]? = some (.cells #[x, y] 26 (0, 0))) : wx.cell? ⟨B, 0, none⟩ = some x ∧ wx.cell? ⟨B, 1, none⟩ = some y ∧ wx.frozen? ⟨B, 0, none⟩ = false ∧ wx.frozen? ⟨B, 1, none⟩ = false :=
  ⟨cell_of_row _ B 0 _ _ _ h, cell_of_row _ B 1 _ _ _ h, by simp [World.frozen?, h], by simp [World.frozen?, h]⟩
theorem CO.sameB {w W : World} {base : Nat} {v : Value} {L : List (Int × Int)} (h : CO w base v L) (hk : ∀ k, base ≤ k → k < w.heap.size → W.heap[k]? = w.heap[k]?) : CO W base v L := by
  have hl := owns_lt h
  refine ⟨h.1, ?_⟩
  rcases h.2 with h2 | ⟨g, cap, cur, rfl, hgb, hh, rest⟩
  · exact .inl h2
  · exact .inr ⟨g, cap, cur, rfl, hgb, (hk g hgb (hl g (by simp [Value.ownBlock]))).trans hh, rest⟩
theorem PL.sameB {w W : World} {base : Nat} {v : Value} {Ls : List (List (Int × Int))} {vs : List Value} (h : PL w base v Ls vs) (hz : w.heap.size ≤ W.heap.size) (hk : ∀ k, base ≤ k → k < w.heap.size → W.heap[k]? = w.heap[k]?) : PL W base v Ls vs := by
  refine ⟨?_, h.len, fun k hkl => (h.inner k hkl).sameB hk, h.apart, h.diff⟩
  rcases h.row with h0 | ⟨g, off, c, rfl, h1, h2, h3, h4, h5, h6⟩
  · exact .inl h0
  · have hb : ∀ o, (W.heap[(⟨g, o, none⟩ : Addr).block]?) = w.heap[(⟨g, o, none⟩ : Addr).block]? := fun o => hk g h3 h4
    exact .inr ⟨g, off, c, rfl, h1, h2, h3, Nat.lt_of_lt_of_le h4 hz, fun j hj => (World.cell?_of_block (hb _)).trans (h5 j hj), fun j hj => by
      have := h6 j hj
      rw [World.cell?_of_block (hb _), World.frozen?_of_block (hb _)]
      exact this⟩
theorem KO.sameB {w W : World} {base : Nat} {vn vp : Value} {D : KV} {vs : List Value} (h : KO w base vn vp D vs) (hz : w.heap.size ≤ W.heap.size) (hk : ∀ k, base ≤ k → k < w.heap.size → W.heap[k]? = w.heap[k]?) : KO W base vn vp D vs :=
  ⟨h.now.sameB hk, h.past.sameB hz hk, h.apn, h.api⟩

end Go.Proofs.Ytpbmehodcllncaa

