/- draws of orders: l20Order, l20Served (ahead of the landing) -/
import Derived.Test.YtmimcgjobgfgfaaK5
import Derived.Test.YtmimcgjobgfgfaaI
import Derived.Deep.CutRange
import Derived.Deep.CutBlock
namespace Go.Proofs.Ytmimcgjobgfgfaa
set_option linter.unusedVariables false
open Go.RowKit
attribute [local go_sem ↓] Go.wp_at_zero Go.wp_at_succ

theorem CO.cs {w : World} {base : Nat} {A : Option Addr} {n c : Nat} {L : List (Int × Int)} (h : CO w base (.slice A n c) L) : Cs w w.heap.size A L := by
  obtain ⟨A', c', e, _, _, hc⟩ := h.form
  injection e with e1 e2 e3
  subst e1
  exact hc
theorem IO.is {w : World} {base : Nat} {A : Option Addr} {n c : Nat} {xs : List Int} (h : IO w base (.slice A n c) xs) : Is w w.heap.size A xs := by
  obtain ⟨A', c', e, _, _, hc⟩ := h.form
  injection e with e1 e2 e3
  subst e1
  exact hc
theorem Is.tail {w : World} {B b off : Nat} {x : Int} {xs : List Int} (h : Is w B (some ⟨b, off, none⟩) (x :: xs)) : Is w B (some ⟨b, off + 1, none⟩) xs := by
  intro hn
  obtain ⟨b', off', e, hlt, hc⟩ := h (by simp)
  injection e with e; injection e with e1 e2
  subst e1 e2
  refine ⟨b, off + 1, rfl, hlt, fun k hk => ?_⟩
  have := hc (k + 1) (by simp; omega)
  rw [show off + 1 + k = off + (k + 1) by omega, this]
  rfl
/-- a slice of numbers that lies in another block than r -/
def IsN (r : Nat) (w : World) (B : Nat) (A : Option Addr) (xs : List Int) : Prop :=
  0 < xs.length → ∃ b off, A = some ⟨b, off, none⟩ ∧ b < B ∧ b ≠ r ∧ ∀ k, k < xs.length → w.cell? ⟨b, off + k, none⟩ = some (.int .i64 (Z xs k))
theorem IsN.is {r : Nat} {w : World} {B : Nat} {A : Option Addr} {xs : List Int} (h : IsN r w B A xs) : Is w B A xs := fun hp => by
  obtain ⟨b, off, e, hb, _, hc⟩ := h hp
  exact ⟨b, off, e, hb, hc⟩
theorem IsN.grown {r : Nat} {w w' : World} {A : Option Addr} {xs : List Int} (h : IsN r w w.heap.size A xs) (hg : w.grownBy w' (some r)) : IsN r w' w'.heap.size A xs := fun hp => by
  obtain ⟨b, off, e, hb, hne, hc⟩ := h hp
  exact ⟨b, off, e, Nat.lt_of_lt_of_le hb hg.size, hne, fun k hk => (hg.cell (hc k hk) (by simpa using hne))⟩
theorem IO.isN {w : World} {base n c r : Nat} {A : Option Addr} {xs : List Int} (h : IO w base (.slice A n c) xs) (hr : r < base) : IsN r w w.heap.size A xs := by
  obtain ⟨A', c', e, _, hc⟩ := h.formG
  injection e with e1 e2 e3
  subst e1
  intro hp
  obtain ⟨g, e, h1, h2, h3⟩ := hc hp
  exact ⟨g, 0, e, h2, by omega, fun k hk => by rw [Nat.zero_add]; exact h3 k hk⟩
theorem IsN.tail {r : Nat} {w : World} {B b off : Nat} {x : Int} {xs : List Int} (h : IsN r w B (some ⟨b, off, none⟩) (x :: xs)) : IsN r w B (some ⟨b, off + 1, none⟩) xs := by
  intro hn
  obtain ⟨b', off', e, hlt, hne, hc⟩ := h (by simp)
  injection e with e; injection e with e1 e2
  subst e1 e2
  refine ⟨b, off + 1, rfl, hlt, hne, fun k hk => ?_⟩
  have := hc (k + 1) (by simp; omega)
  rw [show off + 1 + k = off + (k + 1) by omega, this]
  rfl
theorem grown_trans_row {w w1 w2 : World} {r g : Nat} (h : w.grownBy w1 (some r)) (hg : w1.grownBy w2 (some g)) (hn : w.heap.size ≤ g) : w.grownBy w2 (some r) :=
  ⟨hg.os.trans h.os, hg.tape.trans h.tape, hg.output.trans h.output, Nat.le_trans h.size hg.size, fun k hk hne => (hg.block k (Nat.lt_of_lt_of_le hk h.size) (by simp; omega)).trans (h.block k hk hne)⟩
theorem Rd.rowOther {w w' : World} {base r p g : Nat} (h : Rd w base r p) (hg : w.grownBy w' (some g)) (h1 : g ≠ r) (h2 : base ≤ g) : Rd w' base r p := by
  obtain ⟨a1, a2, A, n, c, hn, hh, hb⟩ := h
  exact ⟨a1, Nat.lt_of_lt_of_le a2 hg.size, A, n, c, hn, (hg.block r a2 (by simp; omega)).trans hh, hb.keep fun k hk => hg.block k (by omega) (by simp; omega)⟩
/-- of those who are there, each has units left -/
def thOk (L : List (Int × Int)) (lf TH : List Int) : Prop := ∀ i, i < TH.length → ∃ p : Nat, Z TH i = p ∧ p < L.length ∧ 0 < Z lf p
theorem thOk_snoc {L : List (Int × Int)} {lf TH : List Int} (h : thOk L lf TH) {k : Nat} (hk : k < L.length) (hz : 0 < Z lf k) : thOk L lf (TH ++ [(k : Int)]) := by
  intro i hi
  by_cases e : i < TH.length
  · have := h i e
    simpa [Z, List.getElem?_append_left e] using this
  · have : i = TH.length := by simp at hi; omega
    subst this
    exact ⟨k, by simp [Z], hk, hz⟩

end Go.Proofs.Ytmimcgjobgfgfaa

