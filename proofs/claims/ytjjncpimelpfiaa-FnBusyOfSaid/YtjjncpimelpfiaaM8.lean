/- Plain mathematics of chapter 3: busy periods. A period is a pair: its first unit, the unit behind its last one. -/
import Derived.Test.YtjjncpimelpfiaaM7
namespace Go.Proofs.Ytjjncpimelpfiaa
set_option linter.unusedVariables false
open Go.RowKit

def lastIs (B : List (Int × Int)) (t : Int) : Bool := decide (0 < B.length ∧ Y B (B.length - 1) = t)
def busyNext (B : List (Int × Int)) (t : Int) : List (Int × Int) := if lastIs B t = true then B.set (B.length - 1) (X B (B.length - 1), t + 1) else B ++ [(t, t + 1)]
def busyT (L : List (Int × Int)) : Nat → List (Int × Int)
  | 0 => []
  | t + 1 => if wk L t = 0 then busyT L t else busyNext (busyT L t) t
def busyP (L : List (Int × Int)) : List (Int × Int) := if cOk L = true then busyT L 200 else []
theorem busyP_yes {L : List (Int × Int)} (h : cOk L = true) : busyP L = busyT L 200 := if_pos h
theorem busyP_no {L : List (Int × Int)} (h : cOk L = false) : busyP L = [] := by simp [busyP, h]
theorem X_set {B : List (Int × Int)} {n k : Nat} {c : Int × Int} (h : n < B.length) : X (B.set n c) k = if n = k then c.1 else X B k := by
  simp only [X, List.getD, List.getElem?_set]
  split
  · rfl
  · rfl
theorem Y_set {B : List (Int × Int)} {n k : Nat} {c : Int × Int} (h : n < B.length) : Y (B.set n c) k = if n = k then c.2 else Y B k := by
  simp only [Y, List.getD, List.getElem?_set]
  split
  · rfl
  · rfl
theorem X_app {B : List (Int × Int)} {k : Nat} {c : Int × Int} : X (B ++ [c]) k = if k < B.length then X B k else if k = B.length then c.1 else 0 := by
  simp only [X, List.getD]
  by_cases h : k < B.length
  · rw [if_pos h, List.getElem?_append_left h]
  · rw [if_neg h]
    by_cases e : k = B.length
    · subst e; simp
    · rw [if_neg e, List.getElem?_eq_none (by simp; omega)]; rfl
theorem Y_app {B : List (Int × Int)} {k : Nat} {c : Int × Int} : Y (B ++ [c]) k = if k < B.length then Y B k else if k = B.length then c.2 else 0 := by
  simp only [Y, List.getD]
  by_cases h : k < B.length
  · rw [if_pos h, List.getElem?_append_left h]
  · rw [if_neg h]
    by_cases e : k = B.length
    · subst e; simp
    · rw [if_neg e, List.getElem?_eq_none (by simp; omega)]; rfl

structure BInv (L : List (Int × Int)) (t : Nat) (B : List (Int × Int)) : Prop where
  rng : ∀ k, k < B.length → 0 ≤ X B k ∧ X B k < Y B k ∧ Y B k ≤ t
  busy : ∀ k, k < B.length → ∀ u : Nat, X B k ≤ u → (u : Int) < Y B k → wk L u ≠ 0
  before : ∀ k, k < B.length → ∀ u : Nat, X B k = (u : Int) + 1 → wk L u = 0
  after : ∀ k, k < B.length → ∀ u : Nat, Y B k = u → u < t → wk L u = 0
  ord : ∀ k, k + 1 < B.length → Y B k < X B (k + 1)
  full : ∀ u : Nat, u < t → wk L u ≠ 0 → ∃ k, k < B.length ∧ X B k ≤ u ∧ (u : Int) < Y B k
theorem BInv.far {L : List (Int × Int)} {t : Nat} {B : List (Int × Int)} (h : BInv L t B) {i j : Nat} (hij : i < j) (hj : j < B.length) : Y B i < X B j := by
  induction j with
  | zero => omega
  | succ j ih =>
    have o := h.ord j hj
    by_cases e : i = j
    · subst e; exact o
    · have := ih (by omega) (by omega)
      have := h.rng j (by omega)
      omega
theorem BInv.next {L : List (Int × Int)} {t : Nat} {B : List (Int × Int)} (h : BInv L t B) : BInv L (t + 1) (if wk L t = 0 then B else busyNext B t) := by
  by_cases hw : wk L t = 0
  · rw [if_pos hw]
    refine ⟨fun k hk => ?_, h.busy, h.before, fun k hk u e hu => ?_, h.ord, fun u hu hne => ?_⟩
    · have := h.rng k hk; omega
    · by_cases e2 : u = t
      · subst e2; exact hw
      · exact h.after k hk u e (by omega)
    · by_cases e2 : u = t
      · subst e2; exact absurd hw hne
      · exact h.full u (by omega) hne
  · rw [if_neg hw]
    unfold busyNext
    by_cases hl : lastIs B t = true
    · rw [if_pos hl]
      obtain ⟨hp, he⟩ := of_decide_eq_true hl
      have hm : B.length - 1 < B.length := by omega
      obtain ⟨m, hmm⟩ : ∃ m, m = B.length - 1 := ⟨_, rfl⟩
      rw [← hmm] at he hm ⊢
      have rm := h.rng m hm
      refine ⟨fun k hk => ?_, fun k hk u h1 h2 => ?_, fun k hk u h1 => ?_, fun k hk u h1 h2 => ?_, fun k hk => ?_, fun u hu hne => ?_⟩
      · rw [List.length_set] at hk
        have := h.rng k hk
        rw [X_set hm, Y_set hm]
        split
        · subst_vars; simp only; omega
        · omega
      · rw [List.length_set] at hk
        rw [X_set hm] at h1
        rw [Y_set hm] at h2
        split at h1
        · rename_i e; subst e
          rw [if_pos rfl] at h2
          simp only at h1 h2
          by_cases e2 : u = t
          · subst e2; exact hw
          · exact h.busy _ hk u h1 (by omega)
        · rename_i e
          rw [if_neg e] at h2
          exact h.busy k hk u h1 h2
      · rw [List.length_set] at hk
        rw [X_set hm] at h1
        split at h1
        · rename_i e; subst e; exact h.before _ hk u h1
        · exact h.before k hk u h1
      · rw [List.length_set] at hk
        rw [Y_set hm] at h1
        split at h1
        · simp only at h1; omega
        · rename_i e
          have := h.far (i := k) (j := m) (by omega) hm
          exact h.after k hk u h1 (by omega)
      · rw [List.length_set] at hk
        rw [Y_set hm, X_set hm]
        have o := h.ord k hk
        rw [if_neg (by omega)]
        split
        · rename_i e; rw [e]; exact o
        · exact o
      · by_cases e2 : u = t
        · subst e2
          refine ⟨m, by rw [List.length_set]; exact hm, ?_, ?_⟩
          · rw [X_set hm, if_pos rfl]; simp only; omega
          · rw [Y_set hm, if_pos rfl]; simp only; omega
        · obtain ⟨k, hk, h1, h2⟩ := h.full u (by omega) hne
          refine ⟨k, by rw [List.length_set]; exact hk, ?_, ?_⟩
          · rw [X_set hm]; split
            · rename_i e; rw [e]; exact h1
            · exact h1
          · rw [Y_set hm]; split
            · simp only; omega
            · exact h2
    · rw [if_neg hl]
      have hnl : ∀ k, k < B.length → Y B k < t := by
        intro k hk
        have r := h.rng k hk
        have hne : Y B k ≠ t := fun e => by
          by_cases ek : k = B.length - 1
          · exact hl (decide_eq_true ⟨by omega, by rw [← ek]; exact e⟩)
          · have := h.far (i := k) (j := B.length - 1) (by omega) (by omega)
            have := h.rng (B.length - 1) (by omega)
            omega
        omega
      refine ⟨fun k hk => ?_, fun k hk u h1 h2 => ?_, fun k hk u h1 => ?_, fun k hk u h1 h2 => ?_, fun k hk => ?_, fun u hu hne => ?_⟩
      · simp only [List.length_append, List.length_singleton] at hk
        rw [X_app, Y_app]
        by_cases e : k < B.length
        · have := h.rng k e
          rw [if_pos e, if_pos e]; omega
        · rw [if_neg e, if_neg e, if_pos (by omega), if_pos (by omega)]; simp only; omega
      · simp only [List.length_append, List.length_singleton] at hk
        rw [X_app] at h1
        rw [Y_app] at h2
        by_cases e : k < B.length
        · rw [if_pos e] at h1 h2
          exact h.busy k e u h1 h2
        · rw [if_neg e, if_pos (by omega)] at h1 h2
          simp only at h1 h2
          obtain rfl : u = t := by omega
          exact hw
      · simp only [List.length_append, List.length_singleton] at hk
        rw [X_app] at h1
        by_cases e : k < B.length
        · rw [if_pos e] at h1
          exact h.before k e u h1
        · rw [if_neg e, if_pos (by omega)] at h1
          simp only at h1
          refine Classical.byContradiction fun hne => ?_
          obtain ⟨j, hj, _, h3⟩ := h.full u (by omega) hne
          have := hnl j hj
          omega
      · simp only [List.length_append, List.length_singleton] at hk
        rw [Y_app] at h1
        by_cases e : k < B.length
        · rw [if_pos e] at h1
          have := hnl k e
          exact h.after k e u h1 (by omega)
        · rw [if_neg e, if_pos (by omega)] at h1
          simp only at h1; omega
      · simp only [List.length_append, List.length_singleton] at hk
        rw [X_app, Y_app]
        by_cases e : k + 1 < B.length
        · rw [if_pos e, if_pos (by omega)]; exact h.ord k e
        · rw [if_neg e, if_pos (by omega), if_pos (by omega)]
          exact hnl k (by omega)
      · by_cases e2 : u = t
        · subst e2
          refine ⟨B.length, by simp, ?_, ?_⟩
          · rw [X_app, if_neg (by omega), if_pos rfl]; exact Int.le_refl _
          · rw [Y_app, if_neg (by omega), if_pos rfl]; simp only; omega
        · obtain ⟨k, hk, h1, h2⟩ := h.full u (by omega) hne
          refine ⟨k, by simp; omega, ?_, ?_⟩
          · rw [X_app, if_pos hk]; exact h1
          · rw [Y_app, if_pos hk]; exact h2
theorem busyT_inv (L : List (Int × Int)) : ∀ t, BInv L t (busyT L t) := by
  intro t
  induction t with
  | zero => exact ⟨fun k hk => by simp [busyT] at hk, fun k hk => by simp [busyT] at hk, fun k hk => by simp [busyT] at hk, fun k hk => by simp [busyT] at hk, fun k hk => by simp [busyT] at hk, fun u hu => by omega⟩
  | succ t ih => exact ih.next
theorem busyT_len (L : List (Int × Int)) : ∀ t, (busyT L t).length ≤ t := by
  intro t
  induction t with
  | zero => simp [busyT]
  | succ t ih =>
    simp only [busyT, busyNext]
    split
    · omega
    · split
      · rw [List.length_set]; omega
      · simp; omega

end Go.Proofs.Ytjjncpimelpfiaa

