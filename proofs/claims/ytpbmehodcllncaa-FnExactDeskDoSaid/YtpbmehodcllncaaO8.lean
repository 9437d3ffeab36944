/- Slices of deeds that a call owns (three numbers each) -/
import Derived.Test.YtpbmehodcllncaaO7
namespace Go.Proofs.Ytpbmehodcllncaa
set_option linter.unusedVariables false
open Go.RowKit

theorem infoDe : (Try.prog.info? 40).map (fun i => (i.zero, i.size, i.bytes)) = some (some (.agg #[.int .i64 0, .int .i64 0, .int .i64 0]), 3, 24) := by kernel_rfl
def ZD (L : List DV) (k : Nat) : DV := L.getD k ⟨0, 0, 0⟩
def flatD (L : List DV) : List Value := L.flatMap fun d => [.int .i64 d.k, .int .i64 d.a, .int .i64 d.b]
theorem flatD_len (L : List DV) : (flatD L).length = L.length * 3 := by
  induction L with
  | nil => rfl
  | cons c L ih => simp [flatD] at ih ⊢; omega
theorem flatD_at (L : List DV) : ∀ k, k < L.length → (flatD L)[k * 3]? = some (.int .i64 (ZD L k).k) ∧ (flatD L)[k * 3 + 1]? = some (.int .i64 (ZD L k).a) ∧ (flatD L)[k * 3 + 2]? = some (.int .i64 (ZD L k).b) := by
  induction L with
  | nil => intro k hk; simp at hk
  | cons c L ih =>
    intro k hk
    cases k with
    | zero => exact ⟨rfl, rfl, rfl⟩
    | succ k =>
      have := ih k (by simpa using hk)
      have e1 : (k + 1) * 3 = k * 3 + 1 + 1 + 1 := by omega
      have e2 : (k + 1) * 3 + 1 = k * 3 + 1 + 1 + 1 + 1 := by omega
      have e3 : (k + 1) * 3 + 2 = k * 3 + 2 + 1 + 1 + 1 := by omega
      rw [e2, e3, e1]
      simp only [flatD, List.flatMap_cons, List.cons_append, List.nil_append, List.getElem?_cons_succ, ZD, List.getD_cons_succ] at this ⊢
      exact this
theorem flatD_snoc (L : List DV) (d : DV) : flatD (L ++ [d]) = flatD L ++ [.int .i64 d.k, .int .i64 d.a, .int .i64 d.b] := by simp [flatD]
/-- a slice of deeds that reads as L, below block B -/
def Ds3 (w : World) (B : Nat) (A : Option Addr) (L : List DV) : Prop :=
  0 < L.length → ∃ b off, A = some ⟨b, off, none⟩ ∧ b < B ∧ ∀ k, k < L.length → w.cell? ⟨b, off + k * 3, none⟩ = some (.int .i64 (ZD L k).k) ∧ w.cell? ⟨b, off + k * 3 + 1, none⟩ = some (.int .i64 (ZD L k).a) ∧ w.cell? ⟨b, off + k * 3 + 2, none⟩ = some (.int .i64 (ZD L k).b)
theorem Ds3.below {w w' : World} {B : Nat} {A : Option Addr} {L : List DV} (h : Ds3 w B A L) (hb : Below B w w') : Ds3 w' B A L := by
  intro hn
  obtain ⟨b, off, rfl, hlt, hc⟩ := h hn
  exact ⟨b, off, rfl, hlt, fun k hk => ⟨(hb.cell (p := ⟨b, _, none⟩) hlt).trans (hc k hk).1, (hb.cell (p := ⟨b, _, none⟩) hlt).trans (hc k hk).2.1, (hb.cell (p := ⟨b, _, none⟩) hlt).trans (hc k hk).2.2⟩⟩
theorem Ds3.more {w : World} {B B' : Nat} {A : Option Addr} {L : List DV} (h : Ds3 w B A L) (hb : B ≤ B') : Ds3 w B' A L := by
  intro hn
  obtain ⟨b, off, rfl, hlt, hc⟩ := h hn
  exact ⟨b, off, rfl, by omega, hc⟩
def EO (w : World) (base : Nat) (v : Value) (L : List DV) : Prop := w.ownsRow base 40 3 v L.length (flatD L)
theorem EO.nil (w : World) (base : Nat) : EO w base (.slice none 0 0) [] := ⟨rfl, .inl ⟨rfl, rfl⟩⟩
theorem EO.empty (w : World) {base : Nat} (h : base ≤ w.heap.size) : EO (w.alloc (.cells #[] 40)) base (.slice (some ⟨w.heap.size, 0, none⟩) 0 0) [] :=
  ⟨rfl, .inr ⟨w.heap.size, 0, #[], rfl, h, heap_alloc_new _ _, Nat.le_refl _, by simp [maxLen], rfl, rfl⟩⟩
theorem EO.below {w w' : World} {base B : Nat} {v : Value} {xs : List DV} (h : EO w base v xs) (hb : Below B w w') (hB : w.heap.size ≤ B) : EO w' base v xs := owns_below h hb hB
theorem EO.mono {w : World} {base base' : Nat} {v : Value} {xs : List DV} (h : EO w base v xs) (hB : base' ≤ base) : EO w base' v xs := owns_mono h hB
theorem EO.alloc {w : World} {base : Nat} {v : Value} {xs : List DV} (h : EO w base v xs) (o : Obj) : EO (w.alloc o) base v xs := World.ownsRow.alloc h o
theorem EO.drew {w : World} {base : Nat} {v : Value} {xs : List DV} (h : EO w base v xs) : EO w.drew base v xs := h
theorem EO.form {w : World} {base : Nat} {v : Value} {L : List DV} (h : EO w base v L) : ∃ A c, v = .slice A L.length c ∧ L.length ≤ c ∧ c ≤ maxLen ∧ Ds3 w w.heap.size A L := by
  have hl := owns_lt h
  rcases h.2 with ⟨rfl, h0⟩ | ⟨g, cap, cur, rfl, hg, hh, h1, h2, h3, h4⟩
  · exact ⟨none, 0, by rw [h0], by omega, by simp [maxLen], fun hp => by omega⟩
  · refine ⟨_, cap, rfl, h1, h2, fun hp => ⟨g, 0, rfl, hl g (by simp [Value.ownBlock]), fun k hk => ?_⟩⟩
    have := flatD_at L k hk
    refine ⟨?_, ?_, ?_⟩
    · rw [Nat.zero_add, World.ownsRow.cellAt h (k * 3) (by omega)]; exact this.1
    · rw [Nat.zero_add, World.ownsRow.cellAt h (k * 3 + 1) (by omega)]; exact this.2.1
    · rw [Nat.zero_add, World.ownsRow.cellAt h (k * 3 + 2) (by omega)]; exact this.2.2
theorem EO.isOf {w : World} {base n c : Nat} {A : Option Addr} {xs : List DV} (h : EO w base (.slice A n c) xs) : n = xs.length ∧ Ds3 w w.heap.size A xs := by
  obtain ⟨A', c', e, _, _, h'⟩ := h.form
  injection e with e1 e2 e3
  subst e1
  exact ⟨e2, h'⟩
section
variable {w : World}
set_option maxRecDepth 8000 in
/-- out = append(out, deed), in a region in the text's order -/
theorem app_E {ops : Array Oper} {rest : List Oper} {o : Oper} {a : Act} {Q : Exit → Act → World → Prop} (hgd : o.guard = none) (s x : Operand)
    (ho : o.op = .call { callee := .builtin .append, args := #[s, x], argTypes := #[45, 45] })
    (base : Nat) (v : Value) (L : List DV) (p q r : Int) (B : Nat) (hs : a.eval s = v) (hown : EO w base v L) (hx : a.eval x = .slice (some ⟨B, 0, none⟩) 1 1)
    (hB : w.heap[B]? = some (.cells #[.int .i64 p, .int .i64 q, .int .i64 r] 40 (0, 0))) (hlen : L.length ≤ 1000000000000) (hbase : base ≤ w.heap.size)
    (h : ∀ g cap w', EO w' base (.slice (some ⟨g, 0, none⟩) (L.length + 1) cap) (L ++ [⟨p, q, r⟩]) → w.grownBy w' v.ownBlock → Below base w w' → wpList Try.prog ops Q rest (a.put o.dst (.slice (some ⟨g, 0, none⟩) (L.length + 1) cap)) w') :
    wpList Try.prog ops Q (o :: rest) a w := by
  obtain ⟨i0, hi, hz0, hz1, hz2⟩ := info_parts infoDe
  refine wpList_append_lies w hgd s x _ ho base 40 i0 _ 3 24 Try.underlying45 hi hz0 hz1 hz2 rfl (by decide) v L.length _ hs hown
    ⟨B, 0, none⟩ 1 1 [.int .i64 p, .int .i64 q, .int .i64 r] hx rfl (World.news_of_block (cs := #[.int .i64 p, .int .i64 q, .int .i64 r]) hB) (by simp [Value.oneCell']) (by decide) (by simp only [maxLen]; omega) (by omega) hbase _ rfl ?_
  intro g cap w' h1 h2 _ _
  exact h g cap w' (by simpa [EO, flatD_snoc] using h1) h2 ((Below.refl _ _).grown h2 hbase (owns_base hown))
end

end Go.Proofs.Ytpbmehodcllncaa

