/- Plain mathematics of chapter 1, more: no program. -/
import Derived.Test.YtjjncpimelpfiaaM
namespace Go.Proofs.Ytjjncpimelpfiaa
set_option linter.unusedVariables false
open Go.RowKit

theorem X_take {L : List (Int × Int)} {n k : Nat} (h : k < n) : X (L.take n) k = X L k := by simp [X, h]
theorem Y_take {L : List (Int × Int)} {n k : Nat} (h : k < n) : Y (L.take n) k = Y L k := by simp [Y, h]
theorem prevOf_take {L : List (Int × Int)} {n k : Nat} (h : k < n) : prevOf (L.take n) k = prevOf L k := by
  unfold prevOf; split
  · rfl
  · exact X_take (by omega)
theorem okTo_take {L : List (Int × Int)} {n : Nat} : ∀ k, k ≤ n → okTo (L.take n) k = okTo L k := by
  intro k
  induction k with
  | zero => intro _; rfl
  | succ k ih => intro h; simp [okTo, ih (by omega), okAt, X_take (L := L) (n := n) (k := k) (by omega), Y_take (L := L) (n := n) (k := k) (by omega), prevOf_take (L := L) (n := n) (k := k) (by omega)]
theorem sumTo_take {L : List (Int × Int)} {n : Nat} : ∀ k, k ≤ n → sumTo (L.take n) k = sumTo L k := by
  intro k
  induction k with
  | zero => intro _; rfl
  | succ k ih => intro h; simp [sumTo, ih (by omega), Y_take (L := L) (n := n) (k := k) (by omega)]
theorem len_take {L : List (Int × Int)} {n : Nat} (h : n ≤ L.length) : (L.take n).length = n := by simp; omega
theorem cOk_take {L : List (Int × Int)} {n : Nat} (h : cOk L = true) (hn : n ≤ L.length) : cOk (L.take n) = true := by
  have h1 := cOk_len h
  have h2 := okTo_le (cOk_to h) n hn
  simp only [cOk, len_take hn, okTo_take n (Nat.le_refl _), h2, Bool.and_true, decide_eq_true_eq]
  omega
theorem needOf_take {L : List (Int × Int)} {n : Nat} (h : cOk L = true) (hn : n ≤ L.length) : needOf (L.take n) = sumTo L n := by
  simp only [needOf, cOk_take h hn, if_true, len_take hn, sumTo_take n (Nat.le_refl _)]
theorem Cs.take {w : World} {B : Nat} {A : Option Addr} {L : List (Int × Int)} (h : Cs w B A L) (n : Nat) : Cs w B A (L.take n) := by
  intro hn
  simp only [List.length_take] at hn
  obtain ⟨b, off, rfl, hlt, hc⟩ := h (by omega)
  refine ⟨b, off, rfl, hlt, fun k hk => ?_⟩
  simp only [List.length_take] at hk
  rw [X_take (by omega), Y_take (by omega)]
  exact hc k (by omega)

/-- how many have come at t -/
def cnt (L : List (Int × Int)) (t : Int) : Nat := (L.takeWhile fun c => decide (c.1 ≤ t)).length
theorem cnt_le (L : List (Int × Int)) (t : Int) : cnt L t ≤ L.length := (List.takeWhile_sublist _).length_le
theorem cnt_of {t : Int} : ∀ {L : List (Int × Int)} {n : Nat}, n ≤ L.length → (∀ j, j < n → X L j ≤ t) → (n < L.length → t < X L n) → cnt L t = n
  | [], n, h, _, _ => by simp at h; subst h; rfl
  | c :: L, n, h, h1, h2 => by
    cases n with
    | zero =>
      have := h2 (by simp)
      simp only [X, List.getD_cons_zero] at this
      have e : decide (c.1 ≤ t) = false := by simp; omega
      simp [cnt, e]
    | succ n =>
      have := h1 0 (by omega)
      simp only [X, List.getD_cons_zero] at this
      have e : decide (c.1 ≤ t) = true := by simp; omega
      have ih := cnt_of (t := t) (L := L) (n := n) (by simpa using h) (fun j hj => by simpa [X] using h1 (j + 1) (by omega)) (fun hn => by simpa [X] using h2 (by simpa using hn))
      unfold cnt at ih ⊢
      simp [e, ih]
def comeOk (L : List (Int × Int)) (t : Int) : Bool := cOk L && decide (0 ≤ t ∧ t ≤ 1000)
def comeV (L : List (Int × Int)) (t : Int) : Value :=
  if comeOk L t = true then .tuple #[.int .i64 (cnt L t), .int .i64 (sumTo L (cnt L t)), .bool true] else .tuple #[.int .i64 (-1), .int .i64 (-1), .bool false]
theorem comeV_yes {L : List (Int × Int)} {t : Int} (h : comeOk L t = true) : comeV L t = .tuple #[.int .i64 (cnt L t), .int .i64 (sumTo L (cnt L t)), .bool true] := if_pos h
theorem comeV_no {L : List (Int × Int)} {t : Int} (h : ¬ comeOk L t = true) : comeV L t = .tuple #[.int .i64 (-1), .int .i64 (-1), .bool false] := if_neg h
theorem cnt_at {t : Int} : ∀ {L : List (Int × Int)}, (∀ j, j < cnt L t → X L j ≤ t) ∧ (cnt L t < L.length → t < X L (cnt L t))
  | [] => ⟨fun j h => by simp [cnt] at h, fun h => by simp at h⟩
  | c :: L => by
    have ih := cnt_at (t := t) (L := L)
    by_cases e : c.1 ≤ t
    · have hc : cnt (c :: L) t = cnt L t + 1 := by simp [cnt, e]
      rw [hc]
      refine ⟨fun j hj => ?_, fun h => ?_⟩
      · cases j with
        | zero => simpa [X] using e
        | succ j => simpa [X] using ih.1 j (by omega)
      · simpa [X] using ih.2 (by simpa using h)
    · have hc : cnt (c :: L) t = 0 := by simp [cnt, e]
      rw [hc]
      exact ⟨fun j hj => by omega, fun _ => by simp [X]; omega⟩

end Go.Proofs.Ytjjncpimelpfiaa

