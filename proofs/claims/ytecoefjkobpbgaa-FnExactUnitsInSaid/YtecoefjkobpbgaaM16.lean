/- Plain mathematics of chapter 5 (ahead): without the last customer, spreads, the answers. -/
import Derived.Test.YtecoefjkobpbgaaM15
import Derived.Test.YtecoefjkobpbgaaK5
namespace Go.Proofs.Ytecoefjkobpbgaa
set_option linter.unusedVariables false
open Go.RowKit

/-- an order in whose units of the customer n nobody is served -/
def without (n : Nat) (o : List Int) : List Int := o.map fun x => if x = (n : Int) then -1 else x
theorem without_len (n : Nat) (o : List Int) : (without n o).length = o.length := by simp [without]
theorem without_Z {n : Nat} {o : List Int} {t : Nat} (h : t < o.length) : Z (without n o) t = if Z o t = (n : Int) then -1 else Z o t := by simp [Z, without, h]
theorem without_left {L : List (Int × Int)} {o : List Int} {n : Nat} (hn : L.length = n + 1) (hu : unitsOk L o o.length = true) : ∀ t, t ≤ o.length → ∀ k, k < n → Z (leftOf (L.take n) (without n o) t) k = Z (leftOf L o t) k := by
  intro t
  induction t with
  | zero =>
    intro _ k hk
    show Z (needs (L.take n)) k = Z (needs L) k
    rw [needs_Z (by rw [len_take (by omega)]; exact hk), needs_Z (by omega), Y_take hk]
  | succ t ih =>
    intro ht k hk
    have i := ih (by omega)
    have hl := leftOf_len L o t
    have hl' := leftOf_len (L.take n) (without n o) t
    rw [len_take (by omega)] at hl'
    show Z (stepL (leftOf (L.take n) (without n o) t) (Z (without n o) t)) k = Z (stepL (leftOf L o t) (Z o t)) k
    rw [without_Z (by omega)]
    rcases unitOk_cases (unitsOk_at _ hu t (by omega)) with e | ⟨q, e, hq, _, _⟩
    · rw [e, if_neg (by omega)]
      simp only [stepL]
      rw [if_neg (by omega), if_neg (by omega)]
      exact i k hk
    · rw [e]
      by_cases hqn : q = n
      · subst hqn
        rw [if_pos rfl]
        simp only [stepL]
        rw [if_neg (by omega), if_pos (by omega)]
        simp only [Int.toNat_natCast]
        rw [Z_set (by omega), if_neg (by omega)]
        exact i k hk
      · rw [if_neg (by omega)]
        simp only [stepL]
        rw [if_pos (by omega), if_pos (by omega)]
        simp only [Int.toNat_natCast]
        rw [Z_set (by omega), Z_set (by omega), i q (by omega), i k hk]
theorem without_ok {L : List (Int × Int)} {o : List Int} {n : Nat} (hn : L.length = n + 1) (h : ordOk L o = true) : ordOk (L.take n) (without n o) = true := by
  obtain ⟨hc, hl, hu, hz⟩ := ordOk_parts h
  have hlen : (L.take n).length = n := len_take (by omega)
  have hw := without_left hn hu
  simp only [ordOk, Bool.and_eq_true, decide_eq_true_eq, without_len, hlen]
  refine ⟨⟨⟨cOk_take hc (by omega), hl⟩, unitsOk_of _ fun t ht => unitOk_of ?_⟩, noneLeft_of _ fun k hk => ?_⟩
  · rw [without_Z ht]
    rcases unitOk_cases (unitsOk_at _ hu t ht) with e | ⟨q, e, hq, hx, hzq⟩
    · left; rw [e, if_neg (by omega)]
    · by_cases hqn : q = n
      · left; rw [e, if_pos (by omega)]
      · right
        refine ⟨q, by rw [e, if_neg (by omega)], by omega, by rw [X_take (by omega)]; exact hx, ?_⟩
        rw [hw t (by omega) q (by omega)]; exact hzq
  · rw [hw _ (Nat.le_refl _) k hk]
    exact noneLeft_at _ hz k (by omega)
theorem without_end {o : List Int} {n k : Nat} (hk : k < n) : ∀ t, t ≤ o.length → endTo (without n o) k t = endTo o k t := by
  intro t
  induction t with
  | zero => intro _; rfl
  | succ t ih =>
    intro ht
    simp only [endTo, ih (by omega)]
    rw [without_Z (by omega)]
    by_cases e : Z o t = (n : Int)
    · rw [if_pos e, if_neg (by omega), if_neg (by omega)]
    · rw [if_neg e]
theorem without_tm {L : List (Int × Int)} {o : List Int} {n : Nat} : ∀ j, j ≤ n → tmTo (L.take n) (without n o) j = tmTo L o j := by
  intro j
  induction j with
  | zero => intro _; rfl
  | succ j ih =>
    intro hj
    simp only [tmTo, ih (by omega), without_len]
    rw [without_end (by omega) _ (Nat.le_refl _), X_take (by omega)]
def leastV (L : List (Int × Int)) : Int := if cOk L = true then tmTo L (orderR L 2) L.length else -1
theorem leastV_yes {L : List (Int × Int)} (h : cOk L = true) : leastV L = tmTo L (orderR L 2) L.length := if_pos h
theorem leastV_no {L : List (Int × Int)} (h : cOk L = false) : leastV L = -1 := by simp [leastV, h]
theorem orderR_two {L : List (Int × Int)} (h : cOk L = true) {r : Int} (hr : 0 ≤ r ∧ r ≤ 3) {T : Nat} (hT : lastLeave L = T) : orderR L r = orderTo L r T := by
  rw [orderR_yes (by simp [byOk, h]; omega), hT]; rfl
theorem least_le {L : List (Int × Int)} {o : List Int} (h : ordOk L o = true) : leastV L ≤ tmTo L o L.length := by
  have hc := (ordOk_parts h).1
  obtain ⟨T, hT, _⟩ := lastLeave_nat hc
  rw [leastV_yes hc, orderR_two hc (by omega) hT]
  exact sum_least h hT
theorem least_drop {L : List (Int × Int)} (hc : cOk L = true) {n : Nat} (hn : L.length = n + 1) : leastV (L.take n) + Y L n ≤ leastV L := by
  obtain ⟨T, hT, _⟩ := lastLeave_nat hc
  have hR := orderTo_ok hc 2 hT
  have h1 := least_le (without_ok hn hR)
  rw [len_take (by omega), without_tm n (Nat.le_refl _)] at h1
  have nd := ends_need hR (k := n) (by omega)
  rw [leastV_yes hc, orderR_two hc (by omega) hT, hn]
  simp only [tmTo]; omega
theorem leastV_bd (L : List (Int × Int)) : -1 ≤ leastV L ∧ leastV L ≤ 2000 := by
  unfold leastV
  split
  · rename_i hc
    obtain ⟨T, hT, _⟩ := lastLeave_nat hc
    have := tmTo_bd (orderTo_ok hc 2 hT) L.length (Nat.le_refl _)
    have := cOk_len hc
    rw [orderR_two hc (by omega) hT]; omega
  · omega

def sumV (L : List (Int × Int)) (o : List Int) : Int := if ordOk L o = true then tmTo L o L.length else -1
theorem sumV_yes {L : List (Int × Int)} {o : List Int} (h : ordOk L o = true) : sumV L o = tmTo L o L.length := if_pos h
theorem sumV_no {L : List (Int × Int)} {o : List Int} (h : ordOk L o = false) : sumV L o = -1 := by simp [sumV, h]
def timeL (L : List (Int × Int)) (o : List Int) (n : Nat) : List Int := (List.range n).map fun k => endTo o k o.length - X L k
def timesR (L : List (Int × Int)) (o : List Int) : List Int := if ordOk L o = true then timeL L o L.length else []
theorem timesR_yes {L : List (Int × Int)} {o : List Int} (h : ordOk L o = true) : timesR L o = timeL L o L.length := if_pos h
theorem timesR_no {L : List (Int × Int)} {o : List Int} (h : ordOk L o = false) : timesR L o = [] := by simp [timesR, h]
theorem timeL_len (L : List (Int × Int)) (o : List Int) (n : Nat) : (timeL L o n).length = n := by simp [timeL]
theorem timeL_succ (L : List (Int × Int)) (o : List Int) (n : Nat) : timeL L o (n + 1) = timeL L o n ++ [endTo o n o.length - X L n] := by simp [timeL, List.range_succ]
theorem timeL_Z {L : List (Int × Int)} {o : List Int} {n k : Nat} (h : k < n) : Z (timeL L o n) k = endTo o k o.length - X L k := by simp [Z, timeL, h]
theorem time_bd {L : List (Int × Int)} {o : List Int} (h : ordOk L o = true) {k : Nat} (hk : k < L.length) : Y L k ≤ endTo o k o.length - X L k ∧ endTo o k o.length - X L k ≤ o.length ∧ o.length ≤ 200 := by
  obtain ⟨hc, hl, _, _⟩ := ordOk_parts h
  have bd := cOk_bd hc hk
  have := ends_need h hk
  have := (endTo_le o k o.length).2
  omega
/-- as they come each is there for the wait and the need -/
theorem time_first {L : List (Int × Int)} (hc : cOk L = true) {k : Nat} (hk : k < L.length) : endTo (orderR L 0) k (orderR L 0).length - X L k = waitAt L k + Y L k := by
  obtain ⟨T, hT, _⟩ := lastLeave_nat hc
  rw [orderR_two hc (by omega) hT, orderTo_len, fcfs_ends hc hT hk]
  simp only [leaveAt]; omega
def thereV (L : List (Int × Int)) (o : List Int) (t : Int) : Int := if ordOk L o = true ∧ 0 ≤ t ∧ t ≤ 199 then thereN L o t L.length else -1
theorem thereV_yes {L : List (Int × Int)} {o : List Int} {t : Int} (h : ordOk L o = true) (ht : 0 ≤ t ∧ t ≤ 199) : thereV L o t = thereN L o t L.length := if_pos ⟨h, ht⟩
theorem thereV_no {L : List (Int × Int)} {o : List Int} {t : Int} (h : ¬ (ordOk L o = true ∧ 0 ≤ t ∧ t ≤ 199)) : thereV L o t = -1 := if_neg h
theorem there_two {L : List (Int × Int)} {o : List Int} (h : ordOk L o = true) (t : Nat) : thereN L (orderR L 2) t L.length ≤ thereN L o t L.length := by
  have hc := (ordOk_parts h).1
  obtain ⟨T, hT, _⟩ := lastLeave_nat hc
  rw [orderR_two hc (by omega) hT]
  exact there_least h hT t
/-- how many units more than needed one of the first k is there, at most -/
def spTo (L : List (Int × Int)) (o : List Int) : Nat → Int
  | 0 => 0
  | k + 1 => max (spTo L o k) (endTo o k o.length - X L k - Y L k)
def spreadV (L : List (Int × Int)) (o : List Int) : Int := if ordOk L o = true then spTo L o L.length else -1
theorem spreadV_yes {L : List (Int × Int)} {o : List Int} (h : ordOk L o = true) : spreadV L o = spTo L o L.length := if_pos h
theorem spreadV_no {L : List (Int × Int)} {o : List Int} (h : ordOk L o = false) : spreadV L o = -1 := by simp [spreadV, h]
theorem spTo_bd {L : List (Int × Int)} {o : List Int} (h : ordOk L o = true) : ∀ j, j ≤ L.length → 0 ≤ spTo L o j ∧ spTo L o j ≤ o.length := by
  intro j
  induction j with
  | zero => intro _; simp [spTo]
  | succ j ih =>
    intro hj
    have := time_bd h (k := j) (by omega)
    have := cOk_bd (ordOk_parts h).1 (k := j) (by omega)
    have := ih (by omega)
    simp only [spTo]; omega
/-- whether each of the first k is there as long as needed -/
def sameTo (L : List (Int × Int)) (o : List Int) : Nat → Bool
  | 0 => true
  | k + 1 => sameTo L o k && decide (endTo o k o.length - X L k = Y L k)
theorem spTo_zero {L : List (Int × Int)} {o : List Int} (h : ordOk L o = true) : ∀ j, j ≤ L.length → (spTo L o j = 0 ↔ sameTo L o j = true) := by
  intro j
  induction j with
  | zero => intro _; simp [spTo, sameTo]
  | succ j ih =>
    intro hj
    have i := ih (by omega)
    have b := time_bd h (k := j) (by omega)
    have s := spTo_bd h j (by omega)
    simp only [spTo, sameTo, Bool.and_eq_true, decide_eq_true_eq]
    constructor
    · intro e
      exact ⟨i.1 (by omega), by omega⟩
    · rintro ⟨e1, e2⟩
      have := i.2 e1
      omega

end Go.Proofs.Ytecoefjkobpbgaa

