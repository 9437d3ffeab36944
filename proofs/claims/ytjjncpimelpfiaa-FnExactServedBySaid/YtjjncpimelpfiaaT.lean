/- A region that draws its order: operations that read or call (memory below B stays), and then, in one forced order, some that write. -/
import Derived.Test.YtjjncpimelpfiaaQ
import Derived.StillTail
import Derived.Deep.Quiet
namespace Go.Proofs.Ytjjncpimelpfiaa
set_option linter.unusedVariables false
open Go.RowKit

/-- whatever order is picked among the first n operations; L is asked behind them -/
def HeadQ (P : Program) (md : Region.Mode) (ops : Array Oper) (C : World → Prop) (n : Nat) (L : Array Bool → Act → Prop) : Nat → Array Bool → Act → Prop
  | 0, listed, a => L listed a
  | f + 1, listed, a => Region.ready md ops listed ≠ [] ∧ ∀ i ∈ Region.ready md ops listed, i < n ∧ qOp P ops C i (HeadQ P md ops C n L f (listed.setIfInBounds i true)) a

section
variable {P : Program} {ops : Array Oper} {md : Region.Mode} {C : World → Prop} {n g : Nat} {L : Array Bool → Act → Prop}

theorem HeadQ.any {Q : Exit → Act → World → Prop} (hL : ∀ listed a w, C w → L listed a → wpAny P md ops Q g listed a w) :
    ∀ (f : Nat) (listed : Array Bool) (a : Act) (w : World), C w → HeadQ P md ops C n L f listed a → wpAny P md ops Q (f + g) listed a w := by
  intro f
  induction f with
  | zero => intro listed a w hw h; rw [Nat.zero_add]; exact hL _ _ _ hw h
  | succ f ih =>
    intro listed a w hw h
    have e : f + 1 + g = (f + g) + 1 := by omega
    rw [e]
    exact ⟨fun h0 => absurd h0 h.1, fun i hi => wpOp_of_qOp hw (fun a' w' hw' h' => ih _ a' w' hw' h') (h.2 i hi).2⟩

theorem HeadQ.first {i : Nat} {o : Oper} {v : Value} (hi : ops[i]? = some o) (hsel : Region.noSelect ops = true) (hs : Region.sinkB md ops n = true) (hc : Region.chainB md ops n = true) (hn : n < ops.size) (hin : i < n)
    (hdone : ∀ listed a, L listed a → ∀ j ∈ Region.ready md ops listed, n ≤ j) :
    ∀ (f : Nat) (listed : Array Bool) (a : Act), HeadInv md ops n listed →
      (∀ j oj, ops[j]? = some oj → j ≠ i → listed.getD j true = false → (∀ e ∈ oj.after, Region.binds md e = true → e.on ≠ i) → o.apart ops oj = true) →
      i ∈ Region.ready md ops listed → YieldsIn P ops C o v a →
      HeadQ P md ops C n L f (listed.setIfInBounds i true) (a.put o.dst v) → HeadQ P md ops C n L (f + 1) listed a := by
  have nosel := Region.noSelect_spec hsel
  intro f
  induction f with
  | zero =>
    intro listed a inv _ hr hy H
    have early : ∀ j ∈ Region.ready md ops listed, j < n := fun j hj => Nat.lt_of_not_le fun hge => tail_waits hs hc hn inv _ i rfl hin (mem_ready.1 hr).1 j hge hj
    have only : ∀ j ∈ Region.ready md ops listed, j = i := fun j hj => Classical.byContradiction fun hne => by
      have h1 := hdone _ _ H j (ready_mono hj hne)
      have h2 := early j hj
      omega
    refine ⟨fun h0 => (by rw [h0] at hr; cases hr), fun j hj => ⟨early j hj, ?_⟩⟩
    obtain rfl := only j hj
    exact hy.qOp hi H
  | succ f ih =>
    intro listed a inv hfree hr hy H
    have early : ∀ j ∈ Region.ready md ops listed, j < n := fun j hj => Nat.lt_of_not_le fun hge => tail_waits hs hc hn inv _ i rfl hin (mem_ready.1 hr).1 j hge hj
    refine ⟨fun h0 => (by rw [h0] at hr; cases hr), fun j hj => ⟨early j hj, ?_⟩⟩
    by_cases hji : j = i
    · subst hji; exact hy.qOp hi H
    · obtain ⟨hun, oj, hoj, hall⟩ := mem_ready.1 hj
      have hapart : o.apart ops oj = true := hfree j oj hoj hji hun fun e he hb heq => by
        have h1 := hall e he hb
        rw [heq, getD_both (mem_ready.1 hr).1] at h1
        cases h1
      have hput := qOp_put hoj hapart (fun cs b => nosel i o cs b hi) (fun cs b => nosel j oj cs b hoj) hy (H.2 j (ready_mono hj hji)).2
      refine qOp_mono (fun a' h => ih _ a' (inv.set hj (early j hj)) ?_ (ready_mono hr (Ne.symm hji)) h.1 ?_) hput
      · intro k ok hk hki hunk hno
        refine hfree k ok hk hki ?_ hno
        by_cases hjk : j = k
        · subst hjk; exact hun
        · rwa [getD_set_ne true hjk] at hunk
      · rw [Array.setIfInBounds_comm _ _ hji]
        exact h.2

theorem HeadQ.lex {Q : Act → Prop} (hsel : Region.noSelect ops = true) (hs : Region.sinkB md ops n = true) (hc : Region.chainB md ops n = true) (hn : n < ops.size) :
    ∀ (l : List Oper) (k : Nat) (listed : Array Bool) (a : Act), (∀ j, j < l.length → l[j]? = ops[k + j]?) → k + l.length = n → HeadInv md ops n listed →
      Region.lexHead md ops g l.length k listed = true → wpQuiet P ops C Q l a →
      HeadQ P md ops C n (fun listed' a' => Region.seqB md ops g n listed' = true ∧ Q a') l.length listed a := by
  intro l
  induction l with
  | nil =>
    intro k listed a _ hk _ hB h
    obtain rfl : k = n := by simpa using hk
    exact ⟨by simpa [Region.lexHead] using hB, h⟩
  | cons o l ih =>
    intro k listed a hl hk inv hB h
    have h0 : ops[k]? = some o := by simpa using (hl 0 (by simp)).symm
    simp only [List.length_cons, Region.lexHead, Bool.and_eq_true] at hB hk
    have hr : k ∈ Region.ready md ops listed := by simpa using hB.1.1
    have hkn : k < n := by omega
    obtain ⟨v, hy, hK⟩ := yieldsIn_of_qOp (K := wpQuiet P ops C Q l) h0 (by unfold qOp; simp only [h0]; exact h)
    refine HeadQ.first h0 hsel hs hc hn hkn (fun _ _ hL => seqB_ready hL.1) l.length listed a inv (Region.free_spec h0 hB.1.2) hr hy
      (ih (k + 1) _ _ (fun j hj => ?_) (by omega) (inv.set hr hkn) hB.2 hK)
    have h2 := hl (j + 1) (by simp; omega)
    have e : k + 1 + j = k + (j + 1) := by omega
    rw [e, ← h2]; rfl
end

/-- quiet in a class of worlds up to the operation n, and then the others one by one -/
theorem wp_region_quiet_tail {P : Program} {C : World → Prop} {id : Nat} {Q : Exit → Act → World → Prop} {a : Act} {w : World} {l : List Oper} (n : Nat) (hm : P.follows .mixedOrders = true) (hB : Region.lexTailB .any l.toArray n = true) (hC : C { w with drawn := w.drawn + 1 })
    (h : wpQuiet P l.toArray C (fun a' => ∀ w', C w' → wpList P l.toArray Q (l.drop n) a' w') (l.take n) a) : (Code.region id l.toArray true).wp P Q a w := by
  simp only [Region.lexTailB, Bool.and_eq_true, decide_eq_true_eq] at hB
  obtain ⟨⟨⟨⟨hsel, hn⟩, hs⟩, hc⟩, hlex⟩ := hB
  have hn' : n < l.length := by simpa using hn
  have htl : (l.take n).length = n := by simp; omega
  have hdl : (l.drop n).length = l.toArray.size - n := by simp
  have inv0 : HeadInv .any l.toArray n (Array.replicate l.toArray.size false) :=
    ⟨by simp, fun j oj _ hl => (by rw [getD_replicate_false] at hl; cases hl), fun t _ ht => getD_in (by simpa using ht) (getD_replicate_false _ _)⟩
  have H := HeadQ.lex (md := .any) (g := l.toArray.size - n) hsel hs hc hn (l.take n) 0 _ a (fun j hj => by
    rw [htl] at hj
    simp [hj]) (by simpa using htl) inv0 (by rw [htl]; exact hlex) h
  have K := HeadQ.any (Q := Q) (g := l.toArray.size - n) (fun listed a' w' hw' hL => by
    have := wpAny_of_seq (md := .any) (Q' := Q) (l.drop n) n listed a' w' (fun j => by simp [List.getElem?_drop]) (by rw [hdl]; exact hL.1) (hL.2 w' hw')
    rwa [hdl] at this) _ _ _ _ hC H
  rw [htl, show n + (l.toArray.size - n) = l.toArray.size by omega] at K
  exact wp_region_any hm K

theorem wp_region_wb_tail {P : Program} {id : Nat} {Q : Exit → Act → World → Prop} {a : Act} {w : World} {l : List Oper} (B n : Nat) (hm : P.follows .mixedOrders = true) (hB : Region.lexTailB .any l.toArray n = true)
    (h : wpQuiet P l.toArray (fun w' => ∃ s : WB B w, w' = s.val) (fun a' => ∀ w', (∃ s : WB B w, w' = s.val) → wpList P l.toArray Q (l.drop n) a' w') (l.take n) a) : (Code.region id l.toArray true).wp P Q a w :=
  wp_region_quiet_tail (C := fun w' => ∃ s : WB B w, w' = s.val) n hm hB ⟨⟨w.drew, (Below.refl _ _).drew⟩, rfl⟩ h

theorem IO.grownR {w w' : World} {base : Nat} {row : Option Nat} {v : Value} {L : List Int} (h : IO w base v L) (hg : w.grownBy w' row) (hr : ∀ r, row = some r → r < base) : IO w' base v L := by
  refine ⟨h.1, ?_⟩
  have hl := owns_lt h
  rcases h.2 with h2 | ⟨g, cap, cur, rfl, hgb, hh, rest⟩
  · exact .inl h2
  · have := hl g (by simp [Value.ownBlock])
    exact .inr ⟨g, cap, cur, rfl, hgb, by rw [hg.block g (by omega) (fun e => by have := hr _ e.symm; omega)]; exact hh, rest⟩
theorem IO.isOf {w : World} {base n c : Nat} {A : Option Addr} {xs : List Int} (h : IO w base (.slice A n c) xs) : n = xs.length ∧ Is w w.heap.size A xs := by
  obtain ⟨A', c', e, _, _, h'⟩ := h.form
  injection e with e1 e2 e3
  subst e1
  exact ⟨e2, h'⟩
theorem CO.isOf {w : World} {base n c : Nat} {A : Option Addr} {xs : List (Int × Int)} (h : CO w base (.slice A n c) xs) : n = xs.length ∧ Cs w w.heap.size A xs := by
  obtain ⟨A', c', e, _, _, h'⟩ := h.form
  injection e with e1 e2 e3
  subst e1
  exact ⟨e2, h'⟩
theorem CO.grownR {w w' : World} {base : Nat} {row : Option Nat} {v : Value} {L : List (Int × Int)} (h : CO w base v L) (hg : w.grownBy w' row) (hr : ∀ r, row = some r → r < base) : CO w' base v L := by
  refine ⟨h.1, ?_⟩
  have hl := owns_lt h
  rcases h.2 with h2 | ⟨g, cap, cur, rfl, hgb, hh, rest⟩
  · exact .inl h2
  · have := hl g (by simp [Value.ownBlock])
    exact .inr ⟨g, cap, cur, rfl, hgb, by rw [hg.block g (by omega) (fun e => by have := hr _ e.symm; omega)]; exact hh, rest⟩
theorem IO.grownR' {w w' : World} {base : Nat} {row : Option Nat} {v : Value} {L : List Int} (h : IO w base v L) (hg : w.grownBy w' row) (hr : ∀ r, v.ownBlock = some r → row ≠ some r) : IO w' base v L := by
  refine ⟨h.1, ?_⟩
  have hl := owns_lt h
  rcases h.2 with h2 | ⟨g, cap, cur, rfl, hgb, hh, rest⟩
  · exact .inl h2
  · have := hl g (by simp [Value.ownBlock])
    exact .inr ⟨g, cap, cur, rfl, hgb, by rw [hg.block g (by omega) (fun e => hr g (by simp [Value.ownBlock]) (by rw [← e]))]; exact hh, rest⟩
theorem IO.setLow {w : World} {base r o : Nat} {v u : Value} {xs : List Int} (h : IO w base v xs) (hr : r < base) : IO (w.setCell ⟨r, o, none⟩ u) base v xs :=
  h.grownR (row := some r) ⟨rfl, rfl, rfl, by simp [World.setCell], fun k _ hne => Below.heap_setCell _ _ _ _ (fun e => hne (by rw [e]))⟩ (fun r' e => by cases e; exact hr)
theorem CO.setLow {w : World} {base r o : Nat} {v u : Value} {xs : List (Int × Int)} (h : CO w base v xs) (hr : r < base) : CO (w.setCell ⟨r, o, none⟩ u) base v xs :=
  h.grownR (row := some r) ⟨rfl, rfl, rfl, by simp [World.setCell], fun k _ hne => Below.heap_setCell _ _ _ _ (fun e => hne (by rw [e]))⟩ (fun r' e => by cases e; exact hr)

/-- a list that grows lies in the block lo, or at hi or behind -/
def Sep (lo hi : Nat) (v : Value) : Prop := ∀ r, v.ownBlock = some r → r = lo ∨ hi ≤ r
/-- what lies between lo and hi is as it was -/
def Mid (lo hi : Nat) (w1 w : World) : Prop := ∀ b, lo < b → b < hi → w.heap[b]? = w1.heap[b]?
theorem Mid.refl (lo hi : Nat) (w : World) : Mid lo hi w w := fun _ _ _ => rfl
theorem Mid.below {lo hi B : Nat} {w1 w w' : World} (h : Mid lo hi w1 w) (hb : Below B w w') (hB : hi ≤ B) : Mid lo hi w1 w' := fun b h1 h2 => (hb.block b (by omega)).trans (h b h1 h2)
theorem Mid.grown {lo hi : Nat} {w1 w w' : World} {v : Value} (h : Mid lo hi w1 w) (hs : Sep lo hi v) (hg : w.grownBy w' v.ownBlock) (hB : hi ≤ w.heap.size) : Mid lo hi w1 w' := fun b h1 h2 =>
  (hg.block b (by omega) (fun e => by have := hs b e.symm; omega)).trans (h b h1 h2)
theorem Mid.cell {lo hi : Nat} {w1 w : World} (h : Mid lo hi w1 w) {b o : Nat} (h1 : lo < b) (h2 : b < hi) : w.cell? ⟨b, o, none⟩ = w1.cell? ⟨b, o, none⟩ := World.cell?_of_block (h b h1 h2)
theorem Sep.lo (lo hi n c : Nat) : Sep lo hi (.slice (some ⟨lo, 0, none⟩) n c) := fun r e => by simp [Value.ownBlock] at e; omega
theorem Sep.nil (lo hi n c : Nat) : Sep lo hi (.slice none n c) := fun r e => by simp [Value.ownBlock] at e
/-- a fresh list, its block told -/
theorem IO.formG {w : World} {base : Nat} {v : Value} {xs : List Int} (h : IO w base v xs) :
    ∃ A c, v = .slice A xs.length c ∧ xs.length ≤ c ∧ (0 < xs.length → ∃ b, A = some ⟨b, 0, none⟩ ∧ base ≤ b ∧ b < w.heap.size ∧ ∀ k, k < xs.length → w.cell? ⟨b, k, none⟩ = some (.int .i64 (Z xs k))) := by
  have hl := owns_lt h
  have h' := h
  rcases h.2 with ⟨rfl, h0⟩ | ⟨g, cap, cur, rfl, hg, hh, h1, h2, h3, h4⟩
  · exact ⟨none, 0, by rw [h0], by omega, fun hp => by omega⟩
  · exact ⟨_, cap, rfl, h1, fun _ => ⟨g, rfl, hg, hl g (by simp [Value.ownBlock]), h'.cells.2.1⟩⟩

section
variable {w : World}
/-- append of one number to a list that lies apart from what is between lo and hi; in the text's order -/
theorem app_IS {ops : Array Oper} {rest : List Oper} {o : Oper} {a : Act} {Q : Exit → Act → World → Prop} (hgd : o.guard = none) (s x : Operand)
    (ho : o.op = .call { callee := .builtin .append, args := #[s, x], argTypes := #[36, 36] })
    (base : Nat) (v : Value) (xs : List Int) (y : Int) (B : Nat) (hs : a.eval s = v) (hown : IO w base v xs) (hx : a.eval x = .slice (some ⟨B, 0, none⟩) 1 1)
    (hB : w.heap[B]? = some (.cells #[.int .i64 y] 3 (0, 0))) (hlen : xs.length ≤ 1000000000000) (hbase : base ≤ w.heap.size)
    (lo hi : Nat) (w1 : World) (hsep : Sep lo hi v) (hmid : Mid lo hi w1 w) (hhi : hi ≤ w.heap.size)
    (h : ∀ g cap w', IO w' base (.slice (some ⟨g, 0, none⟩) (xs.length + 1) cap) (xs ++ [y]) → Below base w w' → Sep lo hi (.slice (some ⟨g, 0, none⟩) (xs.length + 1) cap) → Mid lo hi w1 w' → wpList Try.prog ops Q rest (a.put o.dst (.slice (some ⟨g, 0, none⟩) (xs.length + 1) cap)) w') :
    wpList Try.prog ops Q (o :: rest) a w := by
  obtain ⟨i0, hi0, hz0, hz1, hz2⟩ := info_parts infoI
  refine wpList_append_lies w hgd s x _ ho base 3 i0 _ 1 8 Try.underlying36 hi0 hz0 hz1 hz2 rfl (by decide) v xs.length _ hs hown
    ⟨B, 0, none⟩ 1 1 [.int .i64 y] hx rfl (World.news_of_block (cs := #[.int .i64 y]) hB) (by simp [Value.oneCell']) (by decide) (by simp only [maxLen]; omega) (by omega) hbase _ rfl ?_
  intro g cap w' h1 h2 h3 _
  exact h g cap w' (by simpa [IO] using h1) ((Below.refl _ _).grown h2 hbase (owns_base hown)) (fun r e => by
    simp [Value.ownBlock] at e; subst e
    rcases h3 with h3 | h3
    · exact hsep _ h3
    · omega) (hmid.grown hsep h2 hhi)
/-- the same in a region that draws its order -/
theorem step_IS {ops : Array Oper} {o : Oper} {a : Act} {K : Act → World → Prop} {Q : Exit → Act → World → Prop} {E : Prop} (hgd : o.guard = none) (s x : Operand)
    (ho : o.op = .call { callee := .builtin .append, args := #[s, x], argTypes := #[36, 36] })
    (base : Nat) (v : Value) (xs : List Int) (y : Int) (B : Nat) (hs : a.eval s = v) (hown : IO w base v xs) (hx : a.eval x = .slice (some ⟨B, 0, none⟩) 1 1)
    (hB : w.heap[B]? = some (.cells #[.int .i64 y] 3 (0, 0))) (hlen : xs.length ≤ 1000000000000) (hbase : base ≤ w.heap.size)
    (lo hi : Nat) (w1 : World) (hsep : Sep lo hi v) (hmid : Mid lo hi w1 w) (hhi : hi ≤ w.heap.size)
    (h : ∀ g cap w', IO w' base (.slice (some ⟨g, 0, none⟩) (xs.length + 1) cap) (xs ++ [y]) → Below base w w' → Sep lo hi (.slice (some ⟨g, 0, none⟩) (xs.length + 1) cap) → Mid lo hi w1 w' → K (a.put o.dst (.slice (some ⟨g, 0, none⟩) (xs.length + 1) cap)) w') :
    if Region.wanted o (yielded ops a.tmps) = true then Oper.wp Try.prog o a w K Q else E := by
  obtain ⟨i0, hi0, hz0, hz1, hz2⟩ := info_parts infoI
  refine step_append_lies w hgd s x _ ho base 3 i0 _ 1 8 Try.underlying36 hi0 hz0 hz1 hz2 rfl (by decide) v xs.length _ hs hown
    ⟨B, 0, none⟩ 1 1 [.int .i64 y] hx rfl (World.news_of_block (cs := #[.int .i64 y]) hB) (by simp [Value.oneCell']) (by decide) (by simp only [maxLen]; omega) (by omega) hbase _ rfl ?_
  intro g cap w' h1 h2 h3 _
  exact h g cap w' (by simpa [IO] using h1) ((Below.refl _ _).grown h2 hbase (owns_base hown)) (fun r e => by
    simp [Value.ownBlock] at e; subst e
    rcases h3 with h3 | h3
    · exact hsep _ h3
    · omega) (hmid.grown hsep h2 hhi)
end

end Go.Proofs.Ytjjncpimelpfiaa

