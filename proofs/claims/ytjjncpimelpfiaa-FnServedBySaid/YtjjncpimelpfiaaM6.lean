/- Plain mathematics of chapter 2: waits, leaves, lacks, idle times, needing more. -/
import Derived.Test.YtjjncpimelpfiaaM5
namespace Go.Proofs.Ytjjncpimelpfiaa
set_option linter.unusedVariables false
open Go.RowKit

/-- how long the customer k waits -/
def waitAt (L : List (Int × Int)) : Nat → Int
  | 0 => 0
  | k + 1 => max (waitAt L k + Y L k - (X L (k + 1) - X L k)) 0
def waitsTo (L : List (Int × Int)) (k : Nat) : List Int := (List.range k).map (waitAt L)
def waits (L : List (Int × Int)) : List Int := if cOk L = true then waitsTo L L.length else []
def leaveAt (L : List (Int × Int)) (k : Nat) : Int := X L k + waitAt L k + Y L k
def leavesTo (L : List (Int × Int)) (k : Nat) : List Int := (List.range k).map (leaveAt L)
def leaves (L : List (Int × Int)) : List Int := if cOk L = true then leavesTo L L.length else []
theorem waitsTo_len (L : List (Int × Int)) (k : Nat) : (waitsTo L k).length = k := by simp [waitsTo]
theorem waitsTo_succ (L : List (Int × Int)) (k : Nat) : waitsTo L (k + 1) = waitsTo L k ++ [waitAt L k] := by simp [waitsTo, List.range_succ]
theorem leavesTo_len (L : List (Int × Int)) (k : Nat) : (leavesTo L k).length = k := by simp [leavesTo]
theorem leavesTo_succ (L : List (Int × Int)) (k : Nat) : leavesTo L (k + 1) = leavesTo L k ++ [leaveAt L k] := by simp [leavesTo, List.range_succ]
theorem waits_yes {L : List (Int × Int)} (h : cOk L = true) : waits L = waitsTo L L.length := if_pos h
theorem waits_no {L : List (Int × Int)} (h : cOk L = false) : waits L = [] := by simp [waits, h]
theorem leaves_yes {L : List (Int × Int)} (h : cOk L = true) : leaves L = leavesTo L L.length := if_pos h
theorem leaves_no {L : List (Int × Int)} (h : cOk L = false) : leaves L = [] := by simp [leaves, h]
theorem waitAt_bd {L : List (Int × Int)} (h : cOk L = true) : ∀ k, k < L.length → 0 ≤ waitAt L k ∧ waitAt L k ≤ 9 * k ∧ waitAt L k ≤ sumTo L k := by
  intro k
  induction k with
  | zero => intro _; simp [waitAt, sumTo]
  | succ k ih =>
    intro hk
    have := ih (by omega)
    have := cOk_bd h (k := k) (by omega)
    have := cOk_mono h (i := k) (j := k + 1) (by omega) hk
    have := sumTo_bd h k (by omega)
    simp only [waitAt, sumTo]; omega
theorem leaveAt_bd {L : List (Int × Int)} (h : cOk L = true) {k : Nat} (hk : k < L.length) : 0 ≤ leaveAt L k ∧ leaveAt L k ≤ 69 + 9 * k := by
  have := waitAt_bd h k hk
  have := cOk_bd h hk
  simp only [leaveAt]; omega
theorem leaveAt_fwd {L : List (Int × Int)} (h : cOk L = true) : ∀ k, k < L.length → leaveAt L k = fwd L (k + 1) := by
  intro k
  induction k with
  | zero =>
    intro hk
    have := cOk_bd h hk
    simp only [leaveAt, waitAt, fwd]; omega
  | succ k ih =>
    intro hk
    have i := ih (by omega)
    have e : fwd L (k + 1 + 1) = max (fwd L (k + 1)) (X L (k + 1)) + Y L (k + 1) := rfl
    rw [e, ← i]
    simp only [leaveAt, waitAt]; omega
theorem leaveAt_step {L : List (Int × Int)} {k : Nat} : leaveAt L k + Y L (k + 1) ≤ leaveAt L (k + 1) := by
  simp only [leaveAt, waitAt]; omega

/-- what all ahead need, less when this one comes -/
def pre (L : List (Int × Int)) (k : Nat) : Int := sumTo L k - X L k
/-- the greatest of all `- pre` up to k -/
def topN (L : List (Int × Int)) : Nat → Int
  | 0 => - pre L 0
  | k + 1 => max (topN L k) (- pre L (k + 1))
theorem pre_succ (L : List (Int × Int)) (k : Nat) : pre L (k + 1) = pre L k + Y L k - (X L (k + 1) - X L k) := by simp only [pre, sumTo]; omega
/-- LINDLEY: waits are greatest sums -/
theorem waitAt_top (L : List (Int × Int)) : ∀ k, waitAt L k = pre L k + topN L k := by
  intro k
  induction k with
  | zero => simp only [waitAt, topN]; omega
  | succ k ih =>
    have := pre_succ L k
    simp only [waitAt, topN, ih]; omega
/-- the greatest lack, told forward -/
def lackF (L : List (Int × Int)) (at' : Nat) : Nat → Int
  | 0 => 0
  | k + 1 => max (lackF L at' k) (pre L at' - pre L k)
theorem lackF_top (L : List (Int × Int)) (n : Nat) : ∀ k, lackF L n (k + 1) = max 0 (pre L n + topN L k) := by
  intro k
  induction k with
  | zero => simp only [lackF, topN]; omega
  | succ k ih =>
    have e : lackF L n (k + 1 + 1) = max (lackF L n (k + 1)) (pre L n - pre L (k + 1)) := rfl
    rw [e, ih]
    simp only [topN]; omega
theorem lackF_all (L : List (Int × Int)) (n : Nat) : lackF L n n = waitAt L n := by
  cases n with
  | zero => rfl
  | succ k =>
    rw [lackF_top, waitAt_top]
    simp only [topN]; omega
/-- told backward: what the greatest of the ones behind k, and b, must be -/
def lackInv (L : List (Int × Int)) (n k : Nat) (b : Int) : Prop := 0 ≤ b ∧ b ≤ waitAt L n ∧ (∀ j, k = j + 1 → max b (pre L n + topN L j) = waitAt L n) ∧ (k = 0 → b = waitAt L n)
theorem lackInv_start {L : List (Int × Int)} (h : cOk L = true) {n : Nat} (hn : n < L.length) : lackInv L n n 0 := by
  have hw := waitAt_bd h n hn
  refine ⟨Int.le_refl _, hw.1, fun j e => ?_, fun e => by subst e; rfl⟩
  subst e
  rw [waitAt_top]
  simp only [topN]; omega
theorem lackInv_step {L : List (Int × Int)} {n k : Nat} {b : Int} (h : lackInv L n (k + 1) b) : lackInv L n k (max b (pre L n - pre L k)) := by
  obtain ⟨h1, h2, h3, _⟩ := h
  have h4 := h3 k rfl
  cases k with
  | zero =>
    simp only [topN] at h4
    exact ⟨by omega, by omega, fun j e => by omega, fun _ => by omega⟩
  | succ j =>
    simp only [topN] at h4
    refine ⟨by omega, by omega, fun i e => ?_, fun e => by omega⟩
    obtain rfl : i = j := by omega
    omega
theorem lackInv_end {L : List (Int × Int)} {n : Nat} {b : Int} (h : lackInv L n 0 b) : b = waitAt L n := h.2.2.2 rfl
def placeOk (L : List (Int × Int)) (a : Int) : Bool := cOk L && decide (0 ≤ a ∧ a ≤ (L.length : Int) - 1)
def lackV (L : List (Int × Int)) (a : Int) : Int := if placeOk L a = true then waitAt L a.toNat else -1
theorem lackV_yes {L : List (Int × Int)} {a : Int} (h : placeOk L a = true) : lackV L a = waitAt L a.toNat := if_pos h
theorem lackV_no {L : List (Int × Int)} {a : Int} (h : placeOk L a = false) : lackV L a = -1 := by simp [lackV, h]
theorem placeOk_parts {L : List (Int × Int)} {a : Int} (h : placeOk L a = true) : cOk L = true ∧ 0 ≤ a ∧ a ≤ (L.length : Int) - 1 := by
  simp only [placeOk, Bool.and_eq_true, decide_eq_true_eq] at h; exact h
theorem pre_bd {L : List (Int × Int)} (h : cOk L = true) {k : Nat} (hk : k < L.length) : -60 ≤ pre L k ∧ pre L k ≤ 72 := by
  have := sumTo_bd h k (by omega)
  have := cOk_bd h hk
  have := cOk_len h
  simp only [pre]; omega
theorem lackF_bd {L : List (Int × Int)} (h : cOk L = true) {n : Nat} (hn : n < L.length) : ∀ k, k ≤ n → 0 ≤ lackF L n k ∧ lackF L n k ≤ 200 := by
  intro k
  induction k with
  | zero => intro _; simp [lackF]
  | succ k ih =>
    intro hk
    have := ih (by omega)
    have := pre_bd h hn
    have := pre_bd h (k := k) (by omega)
    simp only [lackF]; omega

/-- idle times -/
def idleTo (L : List (Int × Int)) : Nat → Int
  | 0 => 0
  | k + 1 => max (idleTo L k) (X L k - sumTo L k)
theorem idleTo_fwd (L : List (Int × Int)) : ∀ k, idleTo L k = fwd L k - sumTo L k := by
  intro k
  induction k with
  | zero => simp [idleTo, fwd, sumTo]
  | succ k ih => simp only [idleTo, fwd, sumTo, ih]; omega
def idleV (L : List (Int × Int)) : Int := if cOk L = true then idleTo L L.length else -1
theorem idleV_yes {L : List (Int × Int)} (h : cOk L = true) : idleV L = idleTo L L.length := if_pos h
theorem idleV_no {L : List (Int × Int)} (h : cOk L = false) : idleV L = -1 := by simp [idleV, h]
theorem idle_leave {L : List (Int × Int)} (h : cOk L = true) {n : Nat} (hn : L.length = n + 1) : leaveAt L n - sumTo L L.length = idleTo L L.length := by
  rw [idleTo_fwd, leaveAt_fwd h n (by omega), hn]
theorem idleTo_bd {L : List (Int × Int)} (h : cOk L = true) : ∀ k, k ≤ L.length → 0 ≤ idleTo L k ∧ idleTo L k ≤ 60 := by
  intro k
  induction k with
  | zero => intro _; simp [idleTo]
  | succ k ih =>
    intro hk
    have := ih (by omega)
    have := cOk_bd h (k := k) (by omega)
    have := sumTo_bd h k (by omega)
    simp only [idleTo]; omega
theorem idleTo_first {L : List (Int × Int)} : ∀ k, 1 ≤ k → X L 0 ≤ idleTo L k := by
  intro k
  induction k with
  | zero => intro h; omega
  | succ k ih =>
    intro _
    by_cases e : k = 0
    · subst e; simp only [idleTo, sumTo]; omega
    · have := ih (by omega); simp only [idleTo]; omega

/-- one unit more for the customer at n -/
def moreL (L : List (Int × Int)) (n : Nat) : List (Int × Int) := L.set n (X L n, Y L n + 1)
theorem moreL_len (L : List (Int × Int)) (n : Nat) : (moreL L n).length = L.length := by simp [moreL]
theorem moreL_X (L : List (Int × Int)) (n k : Nat) : X (moreL L n) k = X L k := by
  by_cases h : k < L.length
  · by_cases e : n = k
    · subst e; simp [X, moreL, List.getD, h]
    · simp [X, moreL, List.getD, e]
  · simp [X, moreL, List.getD, h]
theorem moreL_Yat {L : List (Int × Int)} {n : Nat} (h : n < L.length) : Y (moreL L n) n = Y L n + 1 := by
  simp [Y, moreL, h, List.getD]
theorem moreL_Y {L : List (Int × Int)} {n k : Nat} (e : n ≠ k) : Y (moreL L n) k = Y L k := by
  simp [Y, moreL, List.getD, e]
def moreOk (L : List (Int × Int)) (a : Int) : Bool := placeOk L a && cOk (moreL L a.toNat)
def moreR (L : List (Int × Int)) (a : Int) : List (Int × Int) := if moreOk L a = true then moreL L a.toNat else []
theorem moreR_yes {L : List (Int × Int)} {a : Int} (h : moreOk L a = true) : moreR L a = moreL L a.toNat := if_pos h
theorem moreR_no {L : List (Int × Int)} {a : Int} (h : moreOk L a = false) : moreR L a = [] := by simp [moreR, h]
theorem sumTo_more {L : List (Int × Int)} {n : Nat} (h : n < L.length) : ∀ k, k ≤ L.length → sumTo (moreL L n) k = sumTo L k + (if n < k then 1 else 0) := by
  intro k
  induction k with
  | zero => intro _; simp [sumTo]
  | succ k ih =>
    intro hk
    simp only [sumTo, ih (by omega)]
    by_cases e : n = k
    · subst e; rw [moreL_Yat h]; simp
      omega
    · rw [moreL_Y e]
      by_cases e2 : n < k
      · rw [if_pos e2, if_pos (by omega)]; omega
      · rw [if_neg e2, if_neg (by omega)]; omega
theorem waitAt_more {L : List (Int × Int)} {n : Nat} (h : n < L.length) : ∀ k, k < L.length → waitAt L k ≤ waitAt (moreL L n) k ∧ waitAt (moreL L n) k ≤ waitAt L k + 1 ∧ (k ≤ n → waitAt (moreL L n) k = waitAt L k) := by
  intro k
  induction k with
  | zero => intro _; simp [waitAt]
  | succ k ih =>
    intro hk
    have i := ih (by omega)
    by_cases e : n = k
    · subst e
      have := i.2.2 (Nat.le_refl _)
      simp only [waitAt, moreL_X, moreL_Yat h]; omega
    · simp only [waitAt, moreL_X, moreL_Y e]; omega
theorem idleTo_moreLast {L : List (Int × Int)} {n : Nat} (hn : L.length = n + 1) : idleTo (moreL L n) L.length = idleTo L L.length := by
  have key : ∀ k, k ≤ n + 1 → idleTo (moreL L n) k = idleTo L k := by
    intro k
    induction k with
    | zero => intro _; rfl
    | succ k ih =>
      intro hk
      have e := sumTo_more (L := L) (n := n) (by omega) k (by omega)
      rw [if_neg (by omega)] at e
      simp only [idleTo, ih (by omega), moreL_X, e]; omega
  rw [hn]
  exact key _ (Nat.le_refl _)
theorem waitAt_take {L : List (Int × Int)} {n : Nat} : ∀ k, k < n → waitAt (L.take n) k = waitAt L k := by
  intro k
  induction k with
  | zero => intro _; rfl
  | succ k ih => intro h; simp only [waitAt, ih (by omega), X_take (L := L) (n := n) (k := k) (by omega), X_take (L := L) (n := n) (k := k + 1) (by omega), Y_take (L := L) (n := n) (k := k) (by omega)]
theorem waitsTo_take {L : List (Int × Int)} {n : Nat} : waitsTo (L.take n) n = waitsTo L n := by
  unfold waitsTo
  apply List.map_congr_left
  intro i hi
  exact waitAt_take i (List.mem_range.1 hi)
theorem waits_take {L : List (Int × Int)} {n : Nat} (h : cOk L = true) (hn : n ≤ L.length) : waits (L.take n) = waitsTo L n := by
  rw [waits_yes (cOk_take h hn), len_take hn, waitsTo_take]
theorem waitAt_later {L : List (Int × Int)} {t : Int} : ∀ k, k < L.length → waitAt (laterL L t) k = waitAt L k := by
  intro k
  induction k with
  | zero => intro _; rfl
  | succ k ih =>
    intro hk
    simp only [waitAt, ih (by omega), laterL_X (L := L) (t := t) (k := k) (by omega), laterL_X (L := L) (t := t) hk, laterL_Y (L := L) (t := t) (k := k) (by omega)]
    omega
theorem waits_later {L : List (Int × Int)} {t : Int} (h : laterOk L t = true) : waits (laterR L t) = waits L := by
  obtain ⟨h1, h2, h3⟩ := laterOk_parts h
  rw [laterR_yes h, waits_yes h3, waits_yes h1, laterL_len]
  unfold waitsTo
  apply List.map_congr_left
  intro i hi
  exact waitAt_later i (List.mem_range.1 hi)

end Go.Proofs.Ytjjncpimelpfiaa

