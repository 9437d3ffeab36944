/- spec.ReadDeed (ahead of the landing; made by wip/gen/k32.py) -/
import Derived.Test.YtpbmehodcllncaaK29
import Derived.Test.YtpbmehodcllncaaK31
import Derived.Test.YtpbmehodcllncaaO8
namespace Go.Proofs.Ytpbmehodcllncaa
set_option linter.unusedVariables false
open Go.RowKit
attribute [local go_sem ↓] Go.wp_at_zero Go.wp_at_succ

section
variable {w : World}
set_option maxRecDepth 8000 in
/-- out = append(out, deeds ..), in a region in the text's order -/
theorem app_EN {ops : Array Oper} {rest : List Oper} {o : Oper} {a : Act} {Q : Exit → Act → World → Prop} (hgd : o.guard = none) (s x : Operand)
    (ho : o.op = .call { callee := .builtin .append, args := #[s, x], argTypes := #[45, 45] })
    (base : Nat) (v : Value) (L M : List DV) (B n m : Nat) (hn : M.length = n) (hm' : L.length + n = m) (hs : a.eval s = v) (hown : EO w base v L) (hm : 0 < M.length) (hx : a.eval x = .slice (some ⟨B, 0, none⟩) n n)
    (hB : w.heap[B]? = some (.cells (flatD M).toArray 40 (0, 0))) (hlen : L.length + M.length ≤ 1000000000000) (hbase : base ≤ w.heap.size)
    (h : ∀ g cap w', EO w' base (.slice (some ⟨g, 0, none⟩) m cap) (L ++ M) → w.grownBy w' v.ownBlock → Below base w w' → wpList Try.prog ops Q rest (a.put o.dst (.slice (some ⟨g, 0, none⟩) m cap)) w') :
    wpList Try.prog ops Q (o :: rest) a w := by
  subst hn hm'
  obtain ⟨i0, hi, hz0, hz1, hz2⟩ := info_parts infoDe
  have h1c : ∀ u ∈ flatD M, u.oneCell' = true := by
    intro u hu
    simp only [flatD, List.mem_flatMap] at hu
    obtain ⟨d, _, hu⟩ := hu
    simp only [List.mem_cons, List.not_mem_nil, or_false] at hu
    rcases hu with rfl | rfl | rfl <;> rfl
  refine wpList_append_lies w hgd s x _ ho base 40 i0 _ 3 24 Try.underlying45 hi hz0 hz1 hz2 rfl (by decide) v L.length _ hs hown
    ⟨B, 0, none⟩ M.length M.length (flatD M) hx (by rw [flatD_len]) (by have := World.news_of_block (cs := (flatD M).toArray) hB; simpa using this) h1c hm (by simp only [maxLen]; omega) (by omega) hbase _ rfl ?_
  intro g cap w' h1 h2 _ _
  exact h g cap w' (by simpa [EO, flatD] using h1) h2 ((Below.refl _ _).grown h2 hbase (owns_base hown))
set_option maxRecDepth 8000 in
/-- out = append(out, deed), in a region that draws its order -/
theorem step_E {ops : Array Oper} {o : Oper} {a : Act} {K : Act → World → Prop} {Q : Exit → Act → World → Prop} {E : Prop} (hgd : o.guard = none) (s x : Operand)
    (ho : o.op = .call { callee := .builtin .append, args := #[s, x], argTypes := #[45, 45] })
    (base : Nat) (v : Value) (L : List DV) (p q r : Int) (B m : Nat) (hm : L.length + 1 = m) (hs : a.eval s = v) (hown : EO w base v L) (hx : a.eval x = .slice (some ⟨B, 0, none⟩) 1 1)
    (hB : w.heap[B]? = some (.cells #[.int .i64 p, .int .i64 q, .int .i64 r] 40 (0, 0))) (hlen : L.length ≤ 1000000000000) (hbase : base ≤ w.heap.size)
    (h : ∀ g cap w', EO w' base (.slice (some ⟨g, 0, none⟩) m cap) (L ++ [⟨p, q, r⟩]) → w.grownBy w' v.ownBlock → Below base w w' → K (a.put o.dst (.slice (some ⟨g, 0, none⟩) m cap)) w') :
    if Region.wanted o (yielded ops a.tmps) = true then Oper.wp Try.prog o a w K Q else E := by
  subst hm
  obtain ⟨i0, hi, hz0, hz1, hz2⟩ := info_parts infoDe
  refine step_append_lies w hgd s x _ ho base 40 i0 _ 3 24 Try.underlying45 hi hz0 hz1 hz2 rfl (by decide) v L.length _ hs hown
    ⟨B, 0, none⟩ 1 1 [.int .i64 p, .int .i64 q, .int .i64 r] hx rfl (World.news_of_block (cs := #[.int .i64 p, .int .i64 q, .int .i64 r]) hB) (by simp [Value.oneCell']) (by decide) (by simp only [maxLen]; omega) (by omega) hbase _ rfl ?_
  intro g cap w' h1 h2 _ _
  exact h g cap w' (by simpa [EO, flatD_snoc] using h1) h2 ((Below.refl _ _).grown h2 hbase (owns_base hown))
end
theorem EO.lit {w : World} {base : Nat} (h : base ≤ w.heap.size) (M : List DV) (hm : M.length ≤ 1000) : EO (w.alloc (.cells (flatD M).toArray 40)) base (.slice (some ⟨w.heap.size, 0, none⟩) M.length M.length) M := by
  refine ⟨by rw [flatD_len], .inr ⟨w.heap.size, M.length, (flatD M).toArray, rfl, h, heap_alloc_new _ _, Nat.le_refl _, by simp only [maxLen]; omega, ?_, ?_⟩⟩
  · simp [flatD_len]
  · exact List.take_of_length_le (by simp [flatD_len])

theorem EO.cells3 {w : World} {base g n c : Nat} {M : List DV} (h : EO w base (.slice (some ⟨g, 0, none⟩) n c) M) (k : Nat) (hk : k < n) :
    w.cell? ⟨g, k * 3, none⟩ = some (.int .i64 (ZD M k).k) ∧ w.cell? ⟨g, k * 3 + 1, none⟩ = some (.int .i64 (ZD M k).a) ∧ w.cell? ⟨g, k * 3 + 2, none⟩ = some (.int .i64 (ZD M k).b) := by
  obtain ⟨hn, hD⟩ := h.isOf
  obtain ⟨b, off, e, _, hc⟩ := hD (by omega)
  injection e with e
  injection e with e1 e2 _
  subst e1 e2
  have := hc k (by omega)
  simpa using this

theorem set3 {w : World} {R : Nat} {t : TypeId} {x y z : Value} (p q r : Value) (h : w.heap[R]? = some (.cells #[x, y, z] t (0, 0))) :
    (((w.setCell ⟨R, 0, none⟩ p).setCell ⟨R, 1, none⟩ q).setCell ⟨R, 2, none⟩ r).heap[R]? = some (.cells #[p, q, r] t (0, 0)) := by
  obtain ⟨hlt, he⟩ := Array.getElem?_eq_some_iff.1 h
  rw [Array.getElem?_eq_getElem (by simpa [World.setCell] using hlt)]
  simp [World.setCell, Array.getElem_modify, he]

/-- what is found among those that may be -/
def pD (s : List UInt8) (d : DV) : Bool := decide (s ≠ []) && decide (deedL d = s)
theorem find_yes {L : List DV} {p : DV → Bool} {k : Nat} (hk : k < L.length) (h : ∀ j, j < k → p (ZD L j) = false) (hp : p (ZD L k) = true) : L.find? p = some (ZD L k) := by
  have e : ∀ j (hj : j < L.length), ZD L j = L[j] := fun j hj => by simp [ZD, hj]
  refine List.find?_eq_some_iff_getElem.2 ⟨hp, k, hk, (e k hk).symm, fun j hj => ?_⟩
  rw [← e j (by omega), h j hj]; rfl
theorem find_no {L : List DV} {p : DV → Bool} (h : ∀ j, j < L.length → p (ZD L j) = false) : L.find? p = none := by
  refine List.find?_eq_none.2 (fun d hd => ?_)
  obtain ⟨j, hj, rfl⟩ := List.getElem_of_mem hd
  have := h j hj
  have e : ZD L j = L[j] := by simp [ZD, hj]
  rw [e] at this; simp [this]
def readV (o : Option DV) : Value := match o with
  | some d => .tuple #[.agg #[.int .i64 d.k, .int .i64 d.a, .int .i64 d.b], .bool true]
  | none => .tuple #[.agg #[.int .i64 0, .int .i64 0, .int .i64 0], .bool false]
theorem cutS_short (c : UInt8) (B : Nat) : ∀ (l : List UInt8) (s : List (List UInt8) × List UInt8), s.2.length + l.length ≤ B → (∀ x ∈ s.1, x.length ≤ B) →
    (∀ x ∈ (l.foldl (fun s d => if d = c then (s.1 ++ [s.2], []) else (s.1, s.2 ++ [d])) s).1, x.length ≤ B) ∧ (l.foldl (fun s d => if d = c then (s.1 ++ [s.2], []) else (s.1, s.2 ++ [d])) s).2.length ≤ B := by
  intro l
  induction l with
  | nil => intro s h1 h2; exact ⟨h2, by simpa using h1⟩
  | cons d l ih =>
    intro s h1 h2
    simp only [List.length_cons] at h1
    simp only [List.foldl]
    split
    · refine ih _ (by simp; omega) (fun x hx => ?_)
      simp only [List.mem_append, List.mem_singleton] at hx
      rcases hx with hx | rfl
      · exact h2 x hx
      · omega
    · exact ih _ (by simp; omega) h2
theorem cut_short (s : List UInt8) (k : Nat) : (ZS (cutL 32 s) k).length ≤ s.length := by
  obtain ⟨h1, h2⟩ := cutS_short 32 s.length s ([], []) (by simp) (by simp)
  have h3 : ∀ x ∈ cutL 32 s, x.length ≤ s.length := by
    intro x hx
    simp only [cutL, List.mem_append, List.mem_singleton] at hx
    rcases hx with hx | rfl
    · exact h1 x hx
    · exact h2
  by_cases hk : k < (cutL 32 s).length
  · simp only [ZS, List.getD_eq_getElem?_getD, List.getElem?_eq_getElem hk, Option.getD_some]
    exact h3 _ (List.getElem_mem _)
  · simp [ZS, List.getD_eq_getElem?_getD, List.getElem?_eq_none (by omega : (cutL 32 s).length ≤ k)]


end Go.Proofs.Ytpbmehodcllncaa

