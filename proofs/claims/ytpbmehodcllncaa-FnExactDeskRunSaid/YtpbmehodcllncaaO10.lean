/- Desks in memory: customers, and slices of slices of customers, as they are read, and as a call owns them -/
import Derived.Test.YtpbmehodcllncaaO9
import Derived.Test.YtpbmehodcllncaaM34
namespace Go.Proofs.Ytpbmehodcllncaa
set_option linter.unusedVariables false
open Go.RowKit

def LL (Ls : List (List (Int × Int))) (k : Nat) : List (Int × Int) := Ls.getD k []
theorem LL_get {Ls : List (List (Int × Int))} {k : Nat} (h : k < Ls.length) : LL Ls k = Ls[k] := by simp [LL, h]
/-- a slice of slices of customers that reads as Ls, below block B -/
def Css (w : World) (B : Nat) (A : Option Addr) (Ls : List (List (Int × Int))) : Prop :=
  0 < Ls.length → ∃ b off, A = some ⟨b, off, none⟩ ∧ b < B ∧ ∀ k, k < Ls.length → ∃ Ak ck, w.cell? ⟨b, off + k, none⟩ = some (.slice Ak (LL Ls k).length ck) ∧ (LL Ls k).length ≤ ck ∧ Cs w B Ak (LL Ls k)
theorem Css.below {w w' : World} {B : Nat} {A : Option Addr} {Ls : List (List (Int × Int))} (h : Css w B A Ls) (hb : Below B w w') : Css w' B A Ls := by
  intro hn
  obtain ⟨b, off, rfl, hlt, hc⟩ := h hn
  refine ⟨b, off, rfl, hlt, fun k hk => ?_⟩
  obtain ⟨Ak, ck, h1, h2, h3⟩ := hc k hk
  exact ⟨Ak, ck, (hb.cell (p := ⟨b, _, none⟩) hlt).trans h1, h2, h3.below hb⟩
theorem Css.more {w : World} {B B' : Nat} {A : Option Addr} {Ls : List (List (Int × Int))} (h : Css w B A Ls) (hb : B ≤ B') : Css w B' A Ls := by
  intro hn
  obtain ⟨b, off, rfl, hlt, hc⟩ := h hn
  refine ⟨b, off, rfl, by omega, fun k hk => ?_⟩
  obtain ⟨Ak, ck, h1, h2, h3⟩ := hc k hk
  exact ⟨Ak, ck, h1, h2, h3.more hb⟩
theorem Css.nil (w : World) (B : Nat) (A : Option Addr) : Css w B A [] := fun h => by simp at h

/-- v owns a row of rows at any place of its block; vs: the rows' headers; no two lie in one block -/
structure PL (w : World) (base : Nat) (v : Value) (Ls : List (List (Int × Int))) (vs : List Value) : Prop where
  row : (v = .slice none 0 0 ∧ Ls = []) ∨ ∃ g off c, v = .slice (some ⟨g, off, none⟩) Ls.length c ∧ Ls.length ≤ c ∧ c ≤ maxLen ∧ base ≤ g ∧ g < w.heap.size ∧
    (∀ k, k < Ls.length → w.cell? ⟨g, off + k, none⟩ = some (vs.getD k undef)) ∧ ∀ j, j < c → (w.cell? ⟨g, off + j, none⟩).isSome = true ∧ w.frozen? ⟨g, off + j, none⟩ = false
  len : vs.length = Ls.length
  inner : ∀ k, k < Ls.length → CO w base (vs.getD k undef) (LL Ls k)
  apart : ∀ k, k < Ls.length → ∀ r, (vs.getD k undef).ownBlock = some r → v.ownBlock ≠ some r
  diff : ∀ i j, i < Ls.length → j < Ls.length → i ≠ j → ∀ r, (vs.getD i undef).ownBlock = some r → (vs.getD j undef).ownBlock ≠ some r
theorem PL.ofCOO {w : World} {base : Nat} {v : Value} {Ls : List (List (Int × Int))} {vs : List Value} (h : COO w base v Ls vs) : PL w base v Ls vs := by
  have hl := owns_lt h.row
  refine ⟨?_, h.len, h.inner, h.apart, h.diff⟩
  rcases h.row.2 with ⟨rfl, h0⟩ | ⟨g, cap, cur, rfl, hg, hh, h1, h2, h3, h4⟩
  · exact .inl ⟨rfl, List.length_eq_zero_iff.1 h0⟩
  · obtain ⟨_, hc, hf⟩ := h.cells
    refine .inr ⟨g, 0, cap, rfl, h1, h2, hg, hl g (by simp [Value.ownBlock]), fun k hk => by rw [Nat.zero_add]; exact hc k hk, fun j hj => ?_⟩
    rw [Nat.zero_add]
    refine ⟨?_, hf j⟩
    rw [cell_of_row w g j cur _ _ hh, Array.getElem?_eq_getElem (by omega)]; rfl
theorem PL.base_lt {w : World} {base : Nat} {v : Value} {Ls : List (List (Int × Int))} {vs : List Value} (h : PL w base v Ls vs) : ∀ r, v.ownBlock = some r → base ≤ r ∧ r < w.heap.size := by
  intro r hr
  rcases h.row with ⟨rfl, _⟩ | ⟨g, off, c, rfl, _, _, h3, h4, _⟩
  · simp [Value.ownBlock] at hr
  · have e : g = r := by simpa [Value.ownBlock] using hr
    subst e
    exact ⟨h3, h4⟩
theorem PL.kept {w w' : World} {base : Nat} {row : Option Nat} {v : Value} {Ls : List (List (Int × Int))} {vs : List Value} (h : PL w base v Ls vs) (hg : w.grownBy w' row) (hr : ∀ r, v.ownBlock = some r → row ≠ some r)
    (hri : ∀ k, k < Ls.length → ∀ r, (vs.getD k undef).ownBlock = some r → row ≠ some r) : PL w' base v Ls vs := by
  refine ⟨?_, h.len, fun k hk => (h.inner k hk).grownR' hg (hri k hk), h.apart, h.diff⟩
  rcases h.row with h0 | ⟨g, off, c, rfl, h1, h2, h3, h4, h5, h6⟩
  · exact .inl h0
  · have hb : ∀ o, (w'.heap[(⟨g, o, none⟩ : Addr).block]?) = w.heap[(⟨g, o, none⟩ : Addr).block]? := fun o => hg.block g h4 fun e => hr g (by simp [Value.ownBlock]) e.symm
    exact .inr ⟨g, off, c, rfl, h1, h2, h3, Nat.lt_of_lt_of_le h4 hg.size, fun j hj => (World.cell?_of_block (hb _)).trans (h5 j hj), fun j hj => by
      have := h6 j hj
      rw [World.cell?_of_block (hb _), World.frozen?_of_block (hb _)]
      exact this⟩
theorem PL.below {w w' : World} {base B : Nat} {v : Value} {Ls : List (List (Int × Int))} {vs : List Value} (h : PL w base v Ls vs) (hb : Below B w w') (hB : w.heap.size ≤ B) : PL w' base v Ls vs :=
  h.kept (row := none) ⟨hb.os, hb.tape, hb.output, hb.size, fun k hk _ => hb.block k (by omega)⟩ (fun _ _ e => by cases e) (fun _ _ _ _ e => by cases e)
theorem PL.mono {w : World} {base base' : Nat} {v : Value} {Ls : List (List (Int × Int))} {vs : List Value} (h : PL w base v Ls vs) (hB : base' ≤ base) : PL w base' v Ls vs := by
  refine ⟨?_, h.len, fun k hk => (h.inner k hk).mono hB, h.apart, h.diff⟩
  rcases h.row with h0 | ⟨g, off, c, rfl, h1, h2, h3, h4, h5, h6⟩
  · exact .inl h0
  · exact .inr ⟨g, off, c, rfl, h1, h2, by omega, h4, h5, h6⟩
theorem PL.nil (w : World) (base : Nat) : PL w base (.slice none 0 0) [] [] := ⟨.inl ⟨rfl, rfl⟩, rfl, fun k h => by simp at h, fun k h => by simp at h, fun i j h => by simp at h⟩
/-- as it is read -/
theorem PL.css {w : World} {base n c : Nat} {A : Option Addr} {Ls : List (List (Int × Int))} {vs : List Value} (h : PL w base (.slice A n c) Ls vs) : n = Ls.length ∧ Ls.length ≤ c ∧ Css w w.heap.size A Ls := by
  rcases h.row with ⟨e, h0⟩ | ⟨g, off, c', e, h1, h2, h3, h4, h5, h6⟩
  · injection e with e1 e2 e3
    subst h0 e2 e3
    exact ⟨rfl, Nat.le_refl _, Css.nil _ _ _⟩
  · injection e with e1 e2 e3
    subst e1 e2 e3
    refine ⟨rfl, h1, fun _ => ⟨g, off, rfl, h4, fun k hk => ?_⟩⟩
    obtain ⟨Ak, ck, e, hc1, _, hcs⟩ := (h.inner k hk).form
    exact ⟨Ak, ck, by rw [h5 k hk, e], hc1, hcs⟩
/-- without its last row, which is handed back -/
theorem PL.cutLast {w : World} {base g off n c : Nat} {Ls : List (List (Int × Int))} {vs : List Value} (h : PL w base (.slice (some ⟨g, off, none⟩) n c) Ls vs) (hn : 0 < Ls.length) :
    PL w base (.slice (some ⟨g, off, none⟩) (Ls.length - 1) c) (Ls.take (Ls.length - 1)) (vs.take (Ls.length - 1)) := by
  have hlt : ∀ k, k < (Ls.take (Ls.length - 1)).length → k < Ls.length - 1 ∧ (vs.take (Ls.length - 1)).getD k undef = vs.getD k undef ∧ LL (Ls.take (Ls.length - 1)) k = LL Ls k := by
    intro k hk
    rw [List.length_take] at hk
    refine ⟨by omega, ?_, ?_⟩ <;> simp [LL, List.getD_eq_getElem?_getD, List.getElem?_take_of_lt (show k < Ls.length - 1 by omega)]
  refine ⟨?_, by have := h.len; simp; omega, fun k hk => ?_, fun k hk r hr => ?_, fun i j hi hj hij r hr => ?_⟩
  · rcases h.row with ⟨e, _⟩ | ⟨g', off', c', e, h1, h2, h3, h4, h5, h6⟩
    · injection e with e1; cases e1
    · injection e with e1 e2 e3
      injection e1 with e1
      injection e1 with e1 e4 _
      subst e1 e2 e3 e4
      refine .inr ⟨g, off, c, by rw [List.length_take, Nat.min_eq_left (by omega)], by rw [List.length_take]; omega, h2, h3, h4, fun k hk => ?_, h6⟩
      rw [(hlt k hk).2.1]; exact h5 k (by have := (hlt k hk).1; omega)
  · rw [(hlt k hk).2.1, (hlt k hk).2.2]; exact h.inner k (by have := (hlt k hk).1; omega)
  · rw [(hlt k hk).2.1] at hr
    exact h.apart k (by have := (hlt k hk).1; omega) r hr
  · rw [(hlt i hi).2.1] at hr
    rw [(hlt j hj).2.1]
    exact h.diff i j (by have := (hlt i hi).1; omega) (by have := (hlt j hj).1; omega) hij r hr
/-- without its first row -/
theorem PL.cutHead {w : World} {base g off n c : Nat} {Ls : List (List (Int × Int))} {vs : List Value} (h : PL w base (.slice (some ⟨g, off, none⟩) n c) Ls vs) (hn : 1 < Ls.length) :
    PL w base (.slice (some ⟨g, off + 1, none⟩) (Ls.length - 1) (c - 1)) (Ls.drop 1) (vs.drop 1) := by
  have hlt : ∀ k, k < (Ls.drop 1).length → k + 1 < Ls.length ∧ (vs.drop 1).getD k undef = vs.getD (k + 1) undef ∧ LL (Ls.drop 1) k = LL Ls (k + 1) := by
    intro k hk
    rw [List.length_drop] at hk
    refine ⟨by omega, ?_, ?_⟩ <;> simp [LL, List.getD_eq_getElem?_getD]
  refine ⟨?_, by have := h.len; simp; omega, fun k hk => ?_, fun k hk r hr => ?_, fun i j hi hj hij r hr => ?_⟩
  · rcases h.row with ⟨e, _⟩ | ⟨g', off', c', e, h1, h2, h3, h4, h5, h6⟩
    · injection e with e1; cases e1
    · injection e with e1 e2 e3
      injection e1 with e1
      injection e1 with e1 e4 _
      subst e1 e2 e3 e4
      refine .inr ⟨g, off + 1, c - 1, by rw [List.length_drop], by rw [List.length_drop]; omega, by omega, h3, h4, fun k hk => ?_, fun j hj => ?_⟩
      · rw [(hlt k hk).2.1, show off + 1 + k = off + (k + 1) by omega]; exact h5 (k + 1) (hlt k hk).1
      · rw [show off + 1 + j = off + (j + 1) by omega]; exact h6 (j + 1) (by omega)
  · rw [(hlt k hk).2.1, (hlt k hk).2.2]; exact h.inner (k + 1) (hlt k hk).1
  · rw [(hlt k hk).2.1] at hr
    have := h.apart (k + 1) (hlt k hk).1 r hr
    simpa [Value.ownBlock] using this
  · rw [(hlt i hi).2.1] at hr
    rw [(hlt j hj).2.1]
    exact h.diff (i + 1) (j + 1) (hlt i hi).1 (hlt j hj).1 (by omega) r hr

/-- a desk that a call owns: its customers, and the rows of before; no two lie in one block -/
structure KO (w : World) (base : Nat) (vn vp : Value) (D : KV) (vs : List Value) : Prop where
  now : CO w base vn D.now
  past : PL w base vp D.past vs
  apn : ∀ r, vn.ownBlock = some r → vp.ownBlock ≠ some r
  api : ∀ k, k < D.past.length → ∀ r, (vs.getD k undef).ownBlock = some r → vn.ownBlock ≠ some r
theorem KO.below {w w' : World} {base B : Nat} {vn vp : Value} {D : KV} {vs : List Value} (h : KO w base vn vp D vs) (hb : Below B w w') (hB : w.heap.size ≤ B) : KO w' base vn vp D vs := ⟨h.now.below hb hB, h.past.below hb hB, h.apn, h.api⟩
theorem KO.mono {w : World} {base base' : Nat} {vn vp : Value} {D : KV} {vs : List Value} (h : KO w base vn vp D vs) (hB : base' ≤ base) : KO w base' vn vp D vs := ⟨h.now.mono hB, h.past.mono hB, h.apn, h.api⟩
theorem KO.zero (w : World) (base : Nat) : KO w base (.slice none 0 0) (.slice none 0 0) noK [] := ⟨CO.nil _ _, PL.nil _ _, fun r h => by simp [Value.ownBlock] at h, fun k h => by simp [noK] at h⟩
/-- a desk as it is read -/
structure Ks (w : World) (B : Nat) (vn vp : Value) (D : KV) : Prop where
  now : ∃ A c, vn = .slice A D.now.length c ∧ D.now.length ≤ c ∧ Cs w B A D.now
  past : ∃ A c, vp = .slice A D.past.length c ∧ D.past.length ≤ c ∧ Css w B A D.past
theorem Ks.below {w w' : World} {B : Nat} {vn vp : Value} {D : KV} (h : Ks w B vn vp D) (hb : Below B w w') : Ks w' B vn vp D := by
  obtain ⟨⟨A, c, e1, e2, e3⟩, A', c', e4, e5, e6⟩ := h
  exact ⟨⟨A, c, e1, e2, e3.below hb⟩, A', c', e4, e5, e6.below hb⟩
theorem Ks.more {w : World} {B B' : Nat} {vn vp : Value} {D : KV} (h : Ks w B vn vp D) (hb : B ≤ B') : Ks w B' vn vp D := by
  obtain ⟨⟨A, c, e1, e2, e3⟩, A', c', e4, e5, e6⟩ := h
  exact ⟨⟨A, c, e1, e2, e3.more hb⟩, A', c', e4, e5, e6.more hb⟩
theorem KO.ks {w : World} {base : Nat} {vn vp : Value} {D : KV} {vs : List Value} (h : KO w base vn vp D vs) : Ks w w.heap.size vn vp D := by
  obtain ⟨A, c, e, hc, _, hcs⟩ := h.now.form
  refine ⟨⟨A, c, e, hc, hcs⟩, ?_⟩
  have hp := h.past
  rcases hp.row with ⟨rfl, h0⟩ | ⟨g, off, c', rfl, h1, h2, h3, h4, h5, h6⟩
  · exact ⟨none, 0, by rw [h0]; rfl, by rw [h0]; simp, by rw [h0]; exact Css.nil _ _ _⟩
  · exact ⟨_, c', rfl, h1, hp.css.2.2⟩

end Go.Proofs.Ytpbmehodcllncaa

