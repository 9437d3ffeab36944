/- Slices of texts that a call owns (as those of numbers) -/
import Derived.Test.YtpbmehodcllncaaK28
namespace Go.Proofs.Ytpbmehodcllncaa
set_option linter.unusedVariables false
open Go.RowKit

theorem infoStr : (Try.prog.info? 9).map (fun i => (i.zero, i.size, i.bytes)) = some (some (.string ⟨#[]⟩), 1, 16) := by kernel_rfl
def ZS (xs : List (List UInt8)) (k : Nat) : List UInt8 := xs.getD k []
def sv (x : List UInt8) : Value := .string (bs x)
/-- a slice of texts that reads as xs, below block B -/
def Ss (w : World) (B : Nat) (A : Option Addr) (xs : List (List UInt8)) : Prop :=
  0 < xs.length → ∃ b off, A = some ⟨b, off, none⟩ ∧ b < B ∧ ∀ k, k < xs.length → w.cell? ⟨b, off + k, none⟩ = some (.string (bs (ZS xs k)))
theorem Ss.below {w w' : World} {B : Nat} {A : Option Addr} {xs : List (List UInt8)} (h : Ss w B A xs) (hb : Below B w w') : Ss w' B A xs := by
  intro hn
  obtain ⟨b, off, rfl, hlt, hc⟩ := h hn
  exact ⟨b, off, rfl, hlt, fun k hk => (hb.cell (p := ⟨b, _, none⟩) hlt).trans (hc k hk)⟩
theorem Ss.more {w : World} {B B' : Nat} {A : Option Addr} {xs : List (List UInt8)} (h : Ss w B A xs) (hb : B ≤ B') : Ss w B' A xs := by
  intro hn
  obtain ⟨b, off, rfl, hlt, hc⟩ := h hn
  exact ⟨b, off, rfl, by omega, hc⟩
def SO (w : World) (base : Nat) (v : Value) (xs : List (List UInt8)) : Prop := w.ownsRow base 9 1 v xs.length (xs.map sv)
theorem SO.nil (w : World) (base : Nat) : SO w base (.slice none 0 0) [] := ⟨rfl, .inl ⟨rfl, rfl⟩⟩
theorem SO.empty (w : World) {base : Nat} (h : base ≤ w.heap.size) : SO (w.alloc (.cells #[] 9)) base (.slice (some ⟨w.heap.size, 0, none⟩) 0 0) [] :=
  ⟨rfl, .inr ⟨w.heap.size, 0, #[], rfl, h, heap_alloc_new _ _, Nat.le_refl _, by simp [maxLen], rfl, rfl⟩⟩
theorem SO.below {w w' : World} {base B : Nat} {v : Value} {xs : List (List UInt8)} (h : SO w base v xs) (hb : Below B w w') (hB : w.heap.size ≤ B) : SO w' base v xs := owns_below h hb hB
theorem SO.mono {w : World} {base base' : Nat} {v : Value} {xs : List (List UInt8)} (h : SO w base v xs) (hB : base' ≤ base) : SO w base' v xs := owns_mono h hB
theorem SO.form {w : World} {base : Nat} {v : Value} {xs : List (List UInt8)} (h : SO w base v xs) : ∃ A c, v = .slice A xs.length c ∧ xs.length ≤ c ∧ c ≤ maxLen ∧ Ss w w.heap.size A xs := by
  have hl := owns_lt h
  rcases h.2 with ⟨rfl, h0⟩ | ⟨g, cap, cur, rfl, hg, hh, h1, h2, h3, h4⟩
  · exact ⟨none, 0, by rw [h0], by omega, by simp [maxLen], fun hp => by omega⟩
  · refine ⟨_, cap, rfl, h1, h2, fun hp => ⟨g, 0, rfl, hl g (by simp [Value.ownBlock]), fun k hk => ?_⟩⟩
    rw [World.ownsRow.cellAt h (0 + k) (by omega)]
    simp [ZS, sv, hk]
theorem SO.cells {w : World} {base g n c : Nat} {M : List (List UInt8)} (h : SO w base (.slice (some ⟨g, 0, none⟩) n c) M) :
    n = M.length ∧ (∀ k, k < n → w.cell? ⟨g, k, none⟩ = some (.string (bs (ZS M k)))) ∧ ∀ j, w.frozen? ⟨g, j, none⟩ = false := by
  have hn : n = M.length := by
    rcases h.2 with ⟨h2, _⟩ | ⟨g', cap, cur, h2, _⟩
    · cases h2
    · injection h2
  subst hn
  refine ⟨rfl, fun k hk => ?_, fun j => World.ownsRow.frozenAt h j⟩
  rw [World.ownsRow.cellAt h k (by omega)]
  simp [ZS, sv, hk]
theorem SO.alloc {w : World} {base : Nat} {v : Value} {xs : List (List UInt8)} (h : SO w base v xs) (o : Obj) : SO (w.alloc o) base v xs := World.ownsRow.alloc h o
theorem SO.drew {w : World} {base : Nat} {v : Value} {xs : List (List UInt8)} (h : SO w base v xs) : SO w.drew base v xs := h
section
variable {w : World}
set_option maxRecDepth 8000 in
/-- out = append(out, text), in a region in the text's order -/
theorem app_S {ops : Array Oper} {rest : List Oper} {o : Oper} {a : Act} {Q : Exit → Act → World → Prop} (hgd : o.guard = none) (s x : Operand)
    (ho : o.op = .call { callee := .builtin .append, args := #[s, x], argTypes := #[138, 138] })
    (base : Nat) (v : Value) (xs : List (List UInt8)) (y : List UInt8) (B : Nat) (hs : a.eval s = v) (hown : SO w base v xs) (hx : a.eval x = .slice (some ⟨B, 0, none⟩) 1 1)
    (hB : w.heap[B]? = some (.cells #[.string (bs y)] 9 (0, 0))) (hlen : xs.length ≤ 1000000000000) (hbase : base ≤ w.heap.size)
    (h : ∀ g cap w', SO w' base (.slice (some ⟨g, 0, none⟩) (xs.length + 1) cap) (xs ++ [y]) → w.grownBy w' v.ownBlock → Below base w w' → wpList Try.prog ops Q rest (a.put o.dst (.slice (some ⟨g, 0, none⟩) (xs.length + 1) cap)) w') :
    wpList Try.prog ops Q (o :: rest) a w := by
  obtain ⟨i0, hi, hz0, hz1, hz2⟩ := info_parts infoStr
  refine wpList_append_lies w hgd s x _ ho base 9 i0 _ 1 16 Try.underlying138 hi hz0 hz1 hz2 rfl (by decide) v xs.length _ hs hown
    ⟨B, 0, none⟩ 1 1 [.string (bs y)] hx rfl (World.news_of_block (cs := #[.string (bs y)]) hB) (by simp [Value.oneCell']) (by decide) (by simp only [maxLen]; omega) (by omega) hbase _ rfl ?_
  intro g cap w' h1 h2 _ _
  exact h g cap w' (by simpa [SO, sv] using h1) h2 ((Below.refl _ _).grown h2 hbase (owns_base hown))
set_option maxRecDepth 8000 in
/-- the same in a region that draws its order -/
theorem step_S {ops : Array Oper} {o : Oper} {a : Act} {K : Act → World → Prop} {Q : Exit → Act → World → Prop} {E : Prop} (hgd : o.guard = none) (s x : Operand)
    (ho : o.op = .call { callee := .builtin .append, args := #[s, x], argTypes := #[138, 138] })
    (base : Nat) (v : Value) (xs : List (List UInt8)) (y : List UInt8) (B : Nat) (hs : a.eval s = v) (hown : SO w base v xs) (hx : a.eval x = .slice (some ⟨B, 0, none⟩) 1 1)
    (hB : w.heap[B]? = some (.cells #[.string (bs y)] 9 (0, 0))) (hlen : xs.length ≤ 1000000000000) (hbase : base ≤ w.heap.size)
    (h : ∀ g cap w', SO w' base (.slice (some ⟨g, 0, none⟩) (xs.length + 1) cap) (xs ++ [y]) → w.grownBy w' v.ownBlock → Below base w w' → K (a.put o.dst (.slice (some ⟨g, 0, none⟩) (xs.length + 1) cap)) w') :
    if Region.wanted o (yielded ops a.tmps) = true then Oper.wp Try.prog o a w K Q else E := by
  obtain ⟨i0, hi, hz0, hz1, hz2⟩ := info_parts infoStr
  refine step_append_lies w hgd s x _ ho base 9 i0 _ 1 16 Try.underlying138 hi hz0 hz1 hz2 rfl (by decide) v xs.length _ hs hown
    ⟨B, 0, none⟩ 1 1 [.string (bs y)] hx rfl (World.news_of_block (cs := #[.string (bs y)]) hB) (by simp [Value.oneCell']) (by decide) (by simp only [maxLen]; omega) (by omega) hbase _ rfl ?_
  intro g cap w' h1 h2 _ _
  exact h g cap w' (by simpa [SO, sv] using h1) h2 ((Below.refl _ _).grown h2 hbase (owns_base hown))
end
theorem SO.isOf {w : World} {base n c : Nat} {A : Option Addr} {xs : List (List UInt8)} (h : SO w base (.slice A n c) xs) : n = xs.length ∧ Ss w w.heap.size A xs := by
  obtain ⟨A', c', e, _, _, h'⟩ := h.form
  injection e with e1 e2 e3
  subst e1
  exact ⟨e2, h'⟩

end Go.Proofs.Ytpbmehodcllncaa

