/- Plain mathematics of chapter 1: no program. -/
import Derived.WalkKit
import Derived.Deep.QuietTactic
import Derived.BigQuiet
import Derived.WalkSpells
import Derived.Lib.Hide
namespace Go.Proofs.Ytjjncpimelpfiaa
set_option linter.unusedVariables false
open Go.RowKit

def X (L : List (Int × Int)) (k : Nat) : Int := (L.getD k (0, 0)).1
def Y (L : List (Int × Int)) (k : Nat) : Int := (L.getD k (0, 0)).2
def cok (x y : Int) : Bool := decide (0 ≤ x ∧ x ≤ 60) && decide (1 ≤ y ∧ y ≤ 9)
def prevOf (L : List (Int × Int)) (k : Nat) : Int := if k = 0 then 0 else X L (k - 1)
def okAt (L : List (Int × Int)) (k : Nat) : Bool := cok (X L k) (Y L k) && decide (prevOf L k ≤ X L k)
def okTo (L : List (Int × Int)) : Nat → Bool
  | 0 => true
  | k + 1 => okTo L k && okAt L k
def cOk (L : List (Int × Int)) : Bool := decide (L.length ≤ 8) && okTo L L.length

theorem okTo_le {L : List (Int × Int)} {n : Nat} (h : okTo L n = true) : ∀ k, k ≤ n → okTo L k = true := by
  induction n with
  | zero => intro k hk; obtain rfl : k = 0 := by omega
            exact h
  | succ n ih =>
    intro k hk
    simp only [okTo, Bool.and_eq_true] at h
    by_cases e : k = n + 1
    · subst e; simp [okTo, h]
    · exact ih h.1 k (by omega)
theorem okTo_no {L : List (Int × Int)} {k n : Nat} (hk : k < n) (h : okAt L k = false) : okTo L n = false := by
  cases e : okTo L n with
  | false => rfl
  | true => have := okTo_le e (k + 1) (by omega); simp [okTo, h] at this

def sumTo (L : List (Int × Int)) : Nat → Int
  | 0 => 0
  | k + 1 => sumTo L k + Y L k
def needOf (L : List (Int × Int)) : Int := if cOk L = true then sumTo L L.length else -1
theorem cok_bd {x y : Int} (h : cok x y = true) : 0 ≤ x ∧ x ≤ 60 ∧ 1 ≤ y ∧ y ≤ 9 := by simp [cok] at h; omega
theorem okTo_at {L : List (Int × Int)} {n k : Nat} (h : okTo L n = true) (hk : k < n) : okAt L k = true := by
  have := okTo_le h (k + 1) (by omega); simp [okTo] at this; exact this.2
theorem okTo_bd {L : List (Int × Int)} {n k : Nat} (h : okTo L n = true) (hk : k < n) : 0 ≤ X L k ∧ X L k ≤ 60 ∧ 1 ≤ Y L k ∧ Y L k ≤ 9 := by
  have := okTo_at h hk; simp [okAt] at this; exact cok_bd this.1
theorem okTo_prev {L : List (Int × Int)} {n k : Nat} (h : okTo L n = true) (hk : k < n) : prevOf L k ≤ X L k := by
  have := okTo_at h hk; simp [okAt] at this; exact this.2
theorem cOk_len {L : List (Int × Int)} (h : cOk L = true) : L.length ≤ 8 := by simp [cOk] at h; exact h.1
theorem cOk_to {L : List (Int × Int)} (h : cOk L = true) : okTo L L.length = true := by simp [cOk] at h; exact h.2
theorem cOk_bd {L : List (Int × Int)} {k : Nat} (h : cOk L = true) (hk : k < L.length) : 0 ≤ X L k ∧ X L k ≤ 60 ∧ 1 ≤ Y L k ∧ Y L k ≤ 9 := okTo_bd (cOk_to h) hk
theorem cOk_mono {L : List (Int × Int)} (h : cOk L = true) {i j : Nat} (hij : i ≤ j) (hj : j < L.length) : X L i ≤ X L j := by
  induction j with
  | zero => obtain rfl : i = 0 := by omega
            exact Int.le_refl _
  | succ j ih =>
    by_cases e : i = j + 1
    · subst e; exact Int.le_refl _
    · have h1 := ih (by omega) (by omega)
      have h2 := okTo_prev (cOk_to h) hj
      simp [prevOf] at h2; omega
theorem sumTo_bd {L : List (Int × Int)} (h : cOk L = true) : ∀ k, k ≤ L.length → (k : Int) ≤ sumTo L k ∧ sumTo L k ≤ 9 * k := by
  intro k
  induction k with
  | zero => intro _; simp [sumTo]
  | succ k ih => intro hk; have := ih (by omega); have := cOk_bd h (k := k) (by omega); simp only [sumTo]; omega

/-- the cells of customers -/
def Cells (w : World) (b off : Nat) (L : List (Int × Int)) : Prop :=
  ∀ k, k < L.length → w.cell? ⟨b, off + k * 2, none⟩ = some (.int .i64 (X L k)) ∧ w.cell? ⟨b, off + k * 2 + 1, none⟩ = some (.int .i64 (Y L k))
/-- a slice of customers that reads as L, below block B -/
def Cs (w : World) (B : Nat) (A : Option Addr) (L : List (Int × Int)) : Prop :=
  0 < L.length → ∃ b off, A = some ⟨b, off, none⟩ ∧ b < B ∧ Cells w b off L
theorem Cs.below {w w' : World} {B : Nat} {A : Option Addr} {L : List (Int × Int)} (h : Cs w B A L) (hb : Below B w w') : Cs w' B A L := by
  intro hn
  obtain ⟨b, off, rfl, hlt, hc⟩ := h hn
  exact ⟨b, off, rfl, hlt, fun k hk => ⟨(hb.cell (p := ⟨b, _, none⟩) hlt).trans (hc k hk).1, (hb.cell (p := ⟨b, _, none⟩) hlt).trans (hc k hk).2⟩⟩
theorem prevOf_pos {L : List (Int × Int)} {k : Nat} (h : 0 < k) : prevOf L k = X L (k - 1) := by simp [prevOf]; omega
theorem prevOf_succ (L : List (Int × Int)) (k : Nat) : prevOf L (k + 1) = X L k := rfl
theorem okAt_of {L : List (Int × Int)} {k : Nat} (h1 : cok (X L k) (Y L k) = true) (h2 : prevOf L k ≤ X L k) : okAt L k = true := by simp [okAt, h1, h2]
theorem okAt_no1 {L : List (Int × Int)} {k : Nat} (h1 : cok (X L k) (Y L k) = false) : okAt L k = false := by simp [okAt, h1]
theorem okAt_no2 {L : List (Int × Int)} {k : Nat} (h2 : X L k < prevOf L k) : okAt L k = false := by simp [okAt]; omega
theorem Cs.more {w : World} {B B' : Nat} {A : Option Addr} {L : List (Int × Int)} (h : Cs w B A L) (hb : B ≤ B') : Cs w B' A L := by
  intro hn
  obtain ⟨b, off, rfl, hlt, hc⟩ := h hn
  exact ⟨b, off, rfl, by omega, hc⟩
theorem Below.drewN {B : Nat} {a w : World} (h : Below B a w) (n : Nat) : Below B a (w.drewN n) := ⟨h.os, h.tape, h.output, h.size, h.block⟩
theorem cOk_no {L : List (Int × Int)} {k : Nat} (hk : k < L.length) (h : okAt L k = false) : cOk L = false := by simp [cOk, okTo_no hk h]
theorem cOk_no1 {L : List (Int × Int)} {k : Nat} (hk : k < L.length) (h : ¬ (0 ≤ X L k ∧ X L k ≤ 60)) : cOk L = false := cOk_no hk (by simp [okAt, cok]; omega)
theorem cOk_no2 {L : List (Int × Int)} {k : Nat} (hk : k < L.length) (h : ¬ (1 ≤ Y L k ∧ Y L k ≤ 9)) : cOk L = false := cOk_no hk (by simp [okAt, cok]; omega)
theorem cOk_no3 {L : List (Int × Int)} {k : Nat} (hk : k < L.length) (h0 : 0 < k) (h : X L k < X L (k - 1)) : cOk L = false := cOk_no hk (by simp [okAt, prevOf_pos h0]; omega)
theorem okTo_step {L : List (Int × Int)} {k : Nat} (h : okTo L k = true) (h1 : 0 ≤ X L k ∧ X L k ≤ 60) (h2 : 1 ≤ Y L k ∧ Y L k ≤ 9) (h3 : 0 < k → X L (k - 1) ≤ X L k) : okTo L (k + 1) = true := by
  simp only [okTo, okAt, cok, h, h1, h2, Bool.and_eq_true, decide_eq_true_eq, and_true, true_and]
  by_cases h0 : 0 < k
  · rw [prevOf_pos h0]; exact h3 h0
  · obtain rfl : k = 0 := by omega
    exact h1.1
theorem cOk_end {L : List (Int × Int)} (h : okTo L L.length = true) : (decide ((L.length : Int) ≤ 8)) = cOk L := by simp [cOk, h]; omega
theorem bcell {W w1 : World} (hb : Below W.heap.size W w1) : (∀ b o, b < W.heap.size → w1.cell? ⟨b, o, none⟩ = W.cell? ⟨b, o, none⟩) ∧ (∀ b o, b < W.heap.size → w1.frozen? ⟨b, o, none⟩ = W.frozen? ⟨b, o, none⟩) :=
  ⟨fun b o h => hb.cell (p := ⟨b, o, none⟩) h, fun b o h => hb.frozen (p := ⟨b, o, none⟩) h⟩

end Go.Proofs.Ytjjncpimelpfiaa

