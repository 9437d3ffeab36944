/- Rows of rows' headers that a call owns, the rows themselves being whoever's: a clone of a slice of slices; clones of customers. -/
import Derived.Test.YtpbmehodcllncaaO10
import Derived.Test.YtpbmehodcllncaaS7
namespace Go.Proofs.Ytpbmehodcllncaa
set_option linter.unusedVariables false
open Go.RowKit

def HO (w : World) (base : Nat) (v : Value) (hs : List Value) : Prop := w.ownsRow base 23 1 v hs.length hs
/-- the headers read as rows -/
def RdH (w : World) (B : Nat) (hs : List Value) (Ls : List (List (Int × Int))) : Prop :=
  hs.length = Ls.length ∧ ∀ k, k < Ls.length → ∃ A c, hs.getD k undef = .slice A (LL Ls k).length c ∧ (LL Ls k).length ≤ c ∧ Cs w B A (LL Ls k)
theorem RdH.below {w w' : World} {B : Nat} {hs : List Value} {Ls : List (List (Int × Int))} (h : RdH w B hs Ls) (hb : Below B w w') : RdH w' B hs Ls :=
  ⟨h.1, fun k hk => by obtain ⟨A, c, h1, h2, h3⟩ := h.2 k hk; exact ⟨A, c, h1, h2, h3.below hb⟩⟩
theorem RdH.more {w : World} {B B' : Nat} {hs : List Value} {Ls : List (List (Int × Int))} (h : RdH w B hs Ls) (hb : B ≤ B') : RdH w B' hs Ls :=
  ⟨h.1, fun k hk => by obtain ⟨A, c, h1, h2, h3⟩ := h.2 k hk; exact ⟨A, c, h1, h2, h3.more hb⟩⟩
theorem RdH.one {w : World} {B : Nat} {hs : List Value} {Ls : List (List (Int × Int))} (h : RdH w B hs Ls) : ∀ u ∈ hs, u.oneCell' = true := by
  intro u hu
  obtain ⟨k, hk, rfl⟩ := List.getElem_of_mem hu
  obtain ⟨A, c, h1, _, _⟩ := h.2 k (by rw [← h.1]; exact hk)
  rw [List.getD_eq_getElem?_getD, List.getElem?_eq_getElem hk, Option.getD_some] at h1
  rw [h1]; rfl
theorem LL_app {Ls : List (List (Int × Int))} (L : List (Int × Int)) {k : Nat} (hk : k < Ls.length + 1) : LL (Ls ++ [L]) k = if k = Ls.length then L else LL Ls k := by
  by_cases h : k = Ls.length
  · subst h; simp [LL]
  · rw [if_neg h]; simp [LL, List.getElem?_append_left (show k < Ls.length by omega)]
theorem RdH.snoc {w : World} {B : Nat} {hs : List Value} {Ls : List (List (Int × Int))} (h : RdH w B hs Ls) {A : Option Addr} {c : Nat} {L : List (Int × Int)} (hc : L.length ≤ c) (hA : Cs w B A L) : RdH w B (hs ++ [.slice A L.length c]) (Ls ++ [L]) := by
  refine ⟨by simp [h.1], fun k hk => ?_⟩
  rw [List.length_append, List.length_singleton] at hk
  rw [LL_app L hk]
  by_cases e : k = Ls.length
  · rw [if_pos e]
    refine ⟨A, c, ?_, hc, hA⟩
    rw [e, ← h.1]; simp
  · rw [if_neg e]
    obtain ⟨A', c', h1, h2, h3⟩ := h.2 k (by omega)
    exact ⟨A', c', by rw [← h1]; simp [List.getD_eq_getElem?_getD, List.getElem?_append_left (show k < hs.length by rw [h.1]; omega)], h2, h3⟩
theorem RdH.nil (w : World) (B : Nat) : RdH w B [] [] := ⟨rfl, fun k hk => by simp at hk⟩
/-- the headers that a slice of slices holds -/
theorem Css.hdrs {w : World} {B : Nat} {A : Option Addr} {Ls : List (List (Int × Int))} (h : Css w B A Ls) : ∃ hs, RdH w B hs Ls ∧ (0 < hs.length → ∃ b off, A = some ⟨b, off, none⟩ ∧ ∀ j u, hs[j]? = some u → w.cell? ((⟨b, off, none⟩ : Addr).add j) = some u) := by
  by_cases hp : 0 < Ls.length
  · obtain ⟨b, off, rfl, hlt, hc⟩ := h hp
    refine ⟨(List.range Ls.length).map fun k => (w.cell? ⟨b, off + k, none⟩).getD undef, ⟨by simp, fun k hk => ?_⟩, fun _ => ⟨b, off, rfl, fun j u hj => ?_⟩⟩
    · obtain ⟨Ak, ck, h1, h2, h3⟩ := hc k hk
      exact ⟨Ak, ck, by simp [List.getD_eq_getElem?_getD, hk, h1], h2, h3⟩
    · have hjl : j < Ls.length := by have := (List.getElem?_eq_some_iff.1 hj).1; simpa using this
      obtain ⟨Ak, ck, h1, h2, h3⟩ := hc j hjl
      have e : (⟨b, off, none⟩ : Addr).add j = ⟨b, off + j, none⟩ := by by_cases e : j = 0 <;> simp [Addr.add, e]
      rw [e, h1]
      simp [hjl, h1] at hj
      rw [hj]
  · have h0 : Ls = [] := List.eq_nil_of_length_eq_zero (by omega)
    subst h0
    exact ⟨[], RdH.nil _ _, fun h => by simp at h⟩
theorem HO.alloc {w : World} {base : Nat} {v : Value} {hs : List Value} (h : HO w base v hs) (o : Obj) : HO (w.alloc o) base v hs := World.ownsRow.alloc h o
theorem HO.below {w w' : World} {base B : Nat} {v : Value} {hs : List Value} (h : HO w base v hs) (hb : Below B w w') (hB : w.heap.size ≤ B) : HO w' base v hs := owns_below h hb hB
theorem HO.mono {w : World} {base base' : Nat} {v : Value} {hs : List Value} (h : HO w base v hs) (hB : base' ≤ base) : HO w base' v hs := owns_mono h hB
theorem HO.nil (w : World) (base : Nat) : HO w base (.slice none 0 0) [] := ⟨rfl, .inl ⟨rfl, rfl⟩⟩
theorem HO.empty (w : World) {base : Nat} (h : base ≤ w.heap.size) : HO (w.alloc (.cells #[] 23)) base (.slice (some ⟨w.heap.size, 0, none⟩) 0 0) [] := (COO.empty w h).row
theorem HO.form {w : World} {base : Nat} {v : Value} {hs : List Value} (h : HO w base v hs) :
    ∃ A c, v = .slice A hs.length c ∧ hs.length ≤ c ∧ c ≤ maxLen ∧ (0 < hs.length → ∃ g, A = some ⟨g, 0, none⟩ ∧ base ≤ g ∧ g < w.heap.size ∧ ∀ k, k < hs.length → w.cell? ⟨g, k, none⟩ = some (hs.getD k undef)) := by
  have hl := owns_lt h
  rcases h.2 with ⟨rfl, h0⟩ | ⟨g, cap, cur, rfl, hg, hh, h1, h2, h3, h4⟩
  · exact ⟨none, 0, by rw [h0], by omega, by simp [maxLen], fun hp => by omega⟩
  · refine ⟨_, cap, rfl, h1, h2, fun _ => ⟨g, rfl, hg, hl g (by simp [Value.ownBlock]), fun k hk => ?_⟩⟩
    rw [World.ownsRow.cellAt h k (by omega)]
    simp [List.getD, List.getElem?_eq_getElem hk]
/-- as it is read -/
theorem HO.css {w : World} {base : Nat} {v : Value} {hs : List Value} {Ls : List (List (Int × Int))} (h : HO w base v hs) (hr : RdH w w.heap.size hs Ls) :
    ∃ A c, v = .slice A Ls.length c ∧ Ls.length ≤ c ∧ Css w w.heap.size A Ls ∧ (0 < Ls.length → ∃ g, A = some ⟨g, 0, none⟩) := by
  obtain ⟨A, c, e, h1, -, h2⟩ := h.form
  have hn := hr.1
  rw [hn] at e h1 h2
  refine ⟨A, c, e, h1, fun hp => ?_, fun hp => by obtain ⟨g, rfl, -⟩ := h2 hp; exact ⟨g, rfl⟩⟩
  obtain ⟨g, rfl, -, hg, hc⟩ := h2 hp
  refine ⟨g, 0, rfl, hg, fun k hk => ?_⟩
  obtain ⟨Ak, ck, h3, h4, h5⟩ := hr.2 k hk
  exact ⟨Ak, ck, by rw [Nat.zero_add, hc k hk, h3], h4, h5⟩
theorem Css.drop {w : World} {B b off : Nat} {Ls : List (List (Int × Int))} (h : Css w B (some ⟨b, off, none⟩) Ls) (m : Nat) : Css w B (some ⟨b, off + m, none⟩) (Ls.drop m) := by
  intro hp
  rw [List.length_drop] at hp
  obtain ⟨b', off', e, hlt, hc⟩ := h (by omega)
  cases e
  refine ⟨b, off + m, rfl, hlt, fun k hk => ?_⟩
  rw [List.length_drop] at hk
  have e : LL (Ls.drop m) k = LL Ls (m + k) := by simp [LL, List.getD_eq_getElem?_getD]
  rw [e, Nat.add_assoc]
  exact hc (m + k) (by omega)
theorem Css.take {w : World} {B : Nat} {A : Option Addr} {Ls : List (List (Int × Int))} (h : Css w B A Ls) (m : Nat) : Css w B A (Ls.take m) := by
  intro hp
  rw [List.length_take] at hp
  obtain ⟨b', off', e, hlt, hc⟩ := h (by omega)
  refine ⟨b', off', e, hlt, fun k hk => ?_⟩
  rw [List.length_take] at hk
  have e : LL (Ls.take m) k = LL Ls k := by simp [LL, List.getD_eq_getElem?_getD, List.getElem?_take_of_lt (show k < m by omega)]
  rw [e]
  exact hc k (by omega)
theorem Cs_take {w : World} {B : Nat} {A : Option Addr} {L : List (Int × Int)} (h : Cs w B A L) (m : Nat) : Cs w B A (L.take m) := by
  intro hp
  rw [List.length_take] at hp
  obtain ⟨b', off', e, hlt, hc⟩ := h (by omega)
  refine ⟨b', off', e, hlt, fun k hk => ?_⟩
  rw [List.length_take] at hk
  have e1 : X (L.take m) k = X L k := by simp [X, List.getElem?_take_of_lt (show k < m by omega)]
  have e2 : Y (L.take m) k = Y L k := by simp [Y, List.getElem?_take_of_lt (show k < m by omega)]
  rw [e1, e2]
  exact hc k (by omega)
section
variable {w : World}
/-- out = append(out, headers...), any number of them -/
theorem app_HN {ops : Array Oper} {rest : List Oper} {o : Oper} {a : Act} {Q : Exit → Act → World → Prop} (hw : Region.wanted o (yielded ops a.tmps) = true) (s x : Operand)
    (ho : o.op = .call { callee := .builtin .append, args := #[s, x], argTypes := #[24, 24] })
    (base : Nat) (v : Value) (M L : List Value) (A : Option Addr) (c m k : Nat) (hs : a.eval s = v) (hown : HO w base v M) (hx : a.eval x = .slice A m c) (hm : L.length = m) (hk : M.length + m = k)
    (hI : 0 < L.length → ∃ b off, A = some ⟨b, off, none⟩ ∧ ∀ j u, L[j]? = some u → w.cell? ((⟨b, off, none⟩ : Addr).add j) = some u) (hone : ∀ u ∈ L, u.oneCell' = true) (hlen : k ≤ 1000000000) (hbase : base ≤ w.heap.size)
    (h : ∀ G cap w', HO w' base (.slice G k cap) (M ++ L) → w.grownBy w' v.ownBlock → Below base w w' → wpList Try.prog ops Q rest (a.put o.dst (.slice G k cap)) w') :
    wpList Try.prog ops Q (o :: rest) a w := by
  subst hm hk
  obtain ⟨i0, hi, hz0, hz1, hz2⟩ := info_parts infoCS
  show if Region.wanted o (yielded ops a.tmps) then _ else _
  rw [if_pos hw]
  refine Or.inl ?_
  by_cases hp : 0 < L.length
  · obtain ⟨b, off, rfl, hc⟩ := hI hp
    refine wp_append_lies w s x _ ho base 23 i0 _ 1 24 Try.underlying24 hi hz0 hz1 hz2 rfl (by decide) v M.length _ hs hown
      ⟨b, off, none⟩ L.length c L hx (by simp) hc hone hp (by simp only [maxLen]; omega) (by omega) hbase _ rfl ?_
    intro g cap w' h1 h2 _ _
    exact h (some ⟨g, 0, none⟩) cap w' (by simpa [HO] using h1) h2 ((Below.refl _ _).grown h2 hbase (owns_base hown))
  · have h0 : L = [] := List.eq_nil_of_length_eq_zero (by omega)
    subst h0
    obtain ⟨G, g, rfl, hg1, -, -⟩ := hown.form
    have hsrc : Src Try.prog i0.size 24 (.slice A 0 c) 0 [] w := ⟨.inl ⟨_, Try.underlying24⟩, fun w' => by simp [Builtin.lenOf], by cases A <;> simp [Builtin.firstCells, loadCells, loadCellsFrom], by cases A <;> simp [Builtin.firstCells, loadCells, loadCellsFrom], by simp, fun u hu => by cases hu⟩
    have hr := run_append_nothing (P := Try.prog) w 24 24 o.type 23 i0 Try.underlying24 hi G M.length g hg1 (.slice A 0 c) hsrc
    have hx' : a.eval x = .slice A 0 c := hx
    unfold Oper.wp execOp
    simp only [ho, resolve, invoke, builtin, Sem.run_bind, Sem.run_pure, Result.andThen_ok, List.map_toArray, List.map_cons, List.map_nil, hs, hx', hr]
    exact h G g w (by simpa using hown) ⟨rfl, rfl, rfl, Nat.le_refl _, fun _ _ _ => rfl⟩ (Below.refl _ _)
/-- out = append(out, header) -/
theorem app_H1 {ops : Array Oper} {rest : List Oper} {o : Oper} {a : Act} {Q : Exit → Act → World → Prop} (hgd : o.guard = none) (s x : Operand)
    (ho : o.op = .call { callee := .builtin .append, args := #[s, x], argTypes := #[24, 24] })
    (base : Nat) (v : Value) (M : List Value) (sl : Value) (B k : Nat) (hs : a.eval s = v) (hown : HO w base v M) (hone : sl.oneCell' = true) (hx : a.eval x = .slice (some ⟨B, 0, none⟩) 1 1)
    (hB : w.heap[B]? = some (.cells #[sl] 23 (0, 0))) (hk : M.length + 1 = k) (hlen : M.length ≤ 1000000000) (hbase : base ≤ w.heap.size)
    (h : ∀ g cap w', HO w' base (.slice (some ⟨g, 0, none⟩) k cap) (M ++ [sl]) → w.grownBy w' v.ownBlock → Below base w w' → wpList Try.prog ops Q rest (a.put o.dst (.slice (some ⟨g, 0, none⟩) k cap)) w') :
    wpList Try.prog ops Q (o :: rest) a w := by
  subst hk
  obtain ⟨i0, hi0, hz0, hz1, hz2⟩ := info_parts infoCS
  refine wpList_append_lies w hgd s x _ ho base 23 i0 _ 1 24 Try.underlying24 hi0 hz0 hz1 hz2 rfl (by decide) v M.length _ hs hown
    ⟨B, 0, none⟩ 1 1 [sl] hx rfl (World.news_of_block (cs := #[sl]) hB) (by simpa using hone) (by decide) (by simp only [maxLen]; omega) (by omega) hbase _ rfl ?_
  intro g cap w' h1 h2 h3 _
  exact h g cap w' (by simpa [HO] using h1) h2 ((Below.refl _ _).grown h2 hbase (owns_base hown))
/-- the same in a region that draws its order -/
theorem step_H1 {ops : Array Oper} {o : Oper} {a : Act} {K : Act → World → Prop} {Q : Exit → Act → World → Prop} {E : Prop} (hgd : o.guard = none) (s x : Operand)
    (ho : o.op = .call { callee := .builtin .append, args := #[s, x], argTypes := #[24, 24] })
    (base : Nat) (v : Value) (M : List Value) (sl : Value) (B k : Nat) (hs : a.eval s = v) (hown : HO w base v M) (hone : sl.oneCell' = true) (hx : a.eval x = .slice (some ⟨B, 0, none⟩) 1 1)
    (hB : w.heap[B]? = some (.cells #[sl] 23 (0, 0))) (hk : M.length + 1 = k) (hlen : M.length ≤ 1000000000) (hbase : base ≤ w.heap.size)
    (h : ∀ g cap w', HO w' base (.slice (some ⟨g, 0, none⟩) k cap) (M ++ [sl]) → w.grownBy w' v.ownBlock → Below base w w' → K (a.put o.dst (.slice (some ⟨g, 0, none⟩) k cap)) w') :
    if Region.wanted o (yielded ops a.tmps) = true then Oper.wp Try.prog o a w K Q else E := by
  subst hk
  obtain ⟨i0, hi0, hz0, hz1, hz2⟩ := info_parts infoCS
  refine step_append_lies w hgd s x _ ho base 23 i0 _ 1 24 Try.underlying24 hi0 hz0 hz1 hz2 rfl (by decide) v M.length _ hs hown
    ⟨B, 0, none⟩ 1 1 [sl] hx rfl (World.news_of_block (cs := #[sl]) hB) (by simpa using hone) (by decide) (by simp only [maxLen]; omega) (by omega) hbase _ rfl ?_
  intro g cap w' h1 h2 h3 _
  exact h g cap w' (by simpa [HO] using h1) h2 ((Below.refl _ _).grown h2 hbase (owns_base hown))
end
theorem COO.fresh {w : World} {base : Nat} {v : Value} {xss : List (List (Int × Int))} {vs : List Value} (h : COO w base v xss vs) : ∀ r, v.ownBlock = some r → base ≤ r := owns_base h.row

end Go.Proofs.Ytpbmehodcllncaa

