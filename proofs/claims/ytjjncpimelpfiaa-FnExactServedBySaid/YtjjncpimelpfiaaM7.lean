/- Plain mathematics of chapter 3: work by time, units served. -/
import Derived.Test.YtjjncpimelpfiaaM6
namespace Go.Proofs.Ytjjncpimelpfiaa
set_option linter.unusedVariables false
open Go.RowKit

/-- what those who come at the time t need, of the first j -/
def arrTo (L : List (Int × Int)) (t : Int) : Nat → Int
  | 0 => 0
  | j + 1 => arrTo L t j + (if X L j = t then Y L j else 0)
def arr (L : List (Int × Int)) (t : Int) : Int := arrTo L t L.length
/-- the work at the time t, with those who come at it -/
def wk (L : List (Int × Int)) : Nat → Int
  | 0 => arr L 0
  | t + 1 => max (wk L t - 1) 0 + arr L ((t : Int) + 1)
/-- the units before t at whose beginning there was work -/
def srv (L : List (Int × Int)) : Nat → Int
  | 0 => 0
  | t + 1 => srv L t + (if 0 < wk L t then 1 else 0)
theorem lt_cnt {L : List (Int × Int)} (h : cOk L = true) {t : Int} {j : Nat} (hj : j < L.length) : j < cnt L t ↔ X L j ≤ t := by
  have hc := cnt_at (t := t) (L := L)
  constructor
  · exact fun hl => hc.1 j hl
  · intro hx
    refine Nat.lt_of_not_le fun hge => ?_
    have h1 := hc.2 (by omega)
    have h2 := cOk_mono h (i := cnt L t) (j := j) hge hj
    omega
theorem arrTo_cnt {L : List (Int × Int)} (h : cOk L = true) (s : Int) : ∀ j, j ≤ L.length → arrTo L s j = sumTo L (min j (cnt L s)) - sumTo L (min j (cnt L (s - 1))) := by
  intro j
  induction j with
  | zero => intro _; simp [arrTo, sumTo]
  | succ j ih =>
    intro hj
    have i := ih (by omega)
    have c1 := lt_cnt h (t := s) (j := j) (by omega)
    have c2 := lt_cnt h (t := s - 1) (j := j) (by omega)
    simp only [arrTo, i]
    by_cases e1 : X L j ≤ s - 1
    · have a1 : j < cnt L (s - 1) := c2.2 e1
      have a2 : j < cnt L s := c1.2 (by omega)
      rw [show min (j + 1) (cnt L s) = j + 1 by omega, show min (j + 1) (cnt L (s - 1)) = j + 1 by omega, show min j (cnt L s) = j by omega, show min j (cnt L (s - 1)) = j by omega, if_neg (by omega)]
      omega
    · have a1 : ¬ j < cnt L (s - 1) := fun x => e1 (c2.1 x)
      by_cases e2 : X L j ≤ s
      · have a2 : j < cnt L s := c1.2 e2
        rw [show min (j + 1) (cnt L s) = j + 1 by omega, show min (j + 1) (cnt L (s - 1)) = cnt L (s - 1) by omega, show min j (cnt L s) = j by omega, show min j (cnt L (s - 1)) = cnt L (s - 1) by omega, if_pos (by omega)]
        simp only [sumTo]; omega
      · have a2 : ¬ j < cnt L s := fun x => e2 (c1.1 x)
        rw [show min (j + 1) (cnt L s) = cnt L s by omega, show min (j + 1) (cnt L (s - 1)) = cnt L (s - 1) by omega, show min j (cnt L s) = cnt L s by omega, show min j (cnt L (s - 1)) = cnt L (s - 1) by omega, if_neg (by omega)]
        omega
theorem cnt_le' (L : List (Int × Int)) (s : Int) : cnt L (s - 1) ≤ cnt L s := by
  induction L with
  | nil => simp [cnt]
  | cons c L ih =>
    by_cases e : c.1 ≤ s - 1
    · have e2 : c.1 ≤ s := by omega
      have h1 : cnt (c :: L) (s - 1) = cnt L (s - 1) + 1 := by simp [cnt, e]
      have h2 : cnt (c :: L) s = cnt L s + 1 := by simp [cnt, e2]
      omega
    · have h1 : cnt (c :: L) (s - 1) = 0 := by simp [cnt, e]
      omega
theorem arr_cnt {L : List (Int × Int)} (h : cOk L = true) (s : Int) : sumTo L (cnt L s) = sumTo L (cnt L (s - 1)) + arr L s := by
  have := arrTo_cnt h s L.length (Nat.le_refl _)
  have h1 := cnt_le L s
  have h2 := cnt_le L (s - 1)
  rw [show min L.length (cnt L s) = cnt L s by omega, show min L.length (cnt L (s - 1)) = cnt L (s - 1) by omega] at this
  unfold arr; omega
theorem cnt_neg {L : List (Int × Int)} (h : cOk L = true) : cnt L (-1) = 0 := by
  refine Nat.eq_zero_of_not_pos fun hp => ?_
  have hl := cnt_le L (-1)
  have := (lt_cnt h (t := -1) (j := 0) (by omega)).1 hp
  have := cOk_bd h (k := 0) (by omega)
  omega
theorem arrTo_nn {L : List (Int × Int)} (h : cOk L = true) (t : Int) : ∀ j, j ≤ L.length → 0 ≤ arrTo L t j ∧ arrTo L t j ≤ 9 * j := by
  intro j
  induction j with
  | zero => intro _; simp [arrTo]
  | succ j ih =>
    intro hj
    have := ih (by omega)
    have := cOk_bd h (k := j) (by omega)
    simp only [arrTo]; split <;> omega
theorem wk_nn {L : List (Int × Int)} (h : cOk L = true) : ∀ t, 0 ≤ wk L t := by
  intro t
  cases t with
  | zero => exact (arrTo_nn h 0 _ (Nat.le_refl _)).1
  | succ t =>
    have := (arrTo_nn h ((t : Int) + 1) _ (Nat.le_refl _)).1
    simp only [wk, arr]; omega
/-- work and what was served are together what those who have come need -/
theorem wk_srv {L : List (Int × Int)} (h : cOk L = true) : ∀ t : Nat, wk L t + srv L t = sumTo L (cnt L t) := by
  intro t
  induction t with
  | zero =>
    have := arr_cnt h 0
    rw [show (0 : Int) - 1 = -1 by omega, cnt_neg h] at this
    rw [show ((0 : Nat) : Int) = 0 by rfl]
    simp only [wk, srv, sumTo] at this ⊢
    omega
  | succ t ih =>
    have a := arr_cnt h ((t : Int) + 1)
    rw [show (t : Int) + 1 - 1 = t by omega] at a
    have n := wk_nn h t
    simp only [wk, srv]
    rw [show ((t + 1 : Nat) : Int) = (t : Int) + 1 by omega]
    split <;> omega
theorem srv_nn {L : List (Int × Int)} : ∀ t : Nat, 0 ≤ srv L t ∧ srv L t ≤ t := by
  intro t
  induction t with
  | zero => simp [srv]
  | succ t ih => simp only [srv]; split <;> omega
theorem sumTo_le {L : List (Int × Int)} (h : cOk L = true) {j : Nat} (hj : j ≤ L.length) : 0 ≤ sumTo L j ∧ sumTo L j ≤ 72 := by
  have := sumTo_bd h j hj
  have := cOk_len h
  omega
theorem wk_bd {L : List (Int × Int)} (h : cOk L = true) (t : Nat) : 0 ≤ wk L t ∧ wk L t ≤ 72 := by
  have := wk_srv h t
  have := srv_nn (L := L) t
  have := sumTo_le h (cnt_le L t)
  exact ⟨wk_nn h t, by omega⟩
theorem fwd_step {L : List (Int × Int)} (h : cOk L = true) {j : Nat} (hj : j < L.length) : fwd L j ≤ fwd L (j + 1) := by
  have := cOk_bd h hj
  simp only [fwd]; omega
theorem fwd_mono {L : List (Int × Int)} (h : cOk L = true) {i j : Nat} (hij : i ≤ j) (hj : j ≤ L.length) : fwd L i ≤ fwd L j := by
  induction j with
  | zero => obtain rfl : i = 0 := by omega
            exact Int.le_refl _
  | succ j ih =>
    by_cases e : i = j + 1
    · subst e; exact Int.le_refl _
    · exact Int.le_trans (ih (by omega) (by omega)) (fwd_step h (by omega))
theorem fwd_arr {L : List (Int × Int)} (h : cOk L = true) (s : Int) : max (fwd L (cnt L s)) s = max (fwd L (cnt L (s - 1))) s + arr L s := by
  have hle := cnt_le' L s
  have hl := cnt_le L s
  have key : ∀ j, cnt L (s - 1) ≤ j → j ≤ cnt L s → max (fwd L j) s = max (fwd L (cnt L (s - 1))) s + (sumTo L j - sumTo L (cnt L (s - 1))) := by
    intro j
    induction j with
    | zero => intro h1 _; rw [show cnt L (s - 1) = 0 by omega]; simp [sumTo]
    | succ j ih =>
      intro h1 h2
      by_cases e : cnt L (s - 1) = j + 1
      · rw [e]; omega
      · have i := ih (by omega) (by omega)
        have x1 := (lt_cnt h (t := s) (j := j) (by omega)).1 (by omega)
        have x2 : ¬ X L j ≤ s - 1 := fun x => by have := (lt_cnt h (t := s - 1) (j := j) (by omega)).2 x; omega
        have bd := cOk_bd h (k := j) (by omega)
        simp only [fwd, sumTo]; omega
  have k := key (cnt L s) hle (Nat.le_refl _)
  have a := arr_cnt h s
  omega
/-- the work, told by the least time at which those who have come may be served -/
theorem wk_fwd {L : List (Int × Int)} (h : cOk L = true) : ∀ t : Nat, wk L t = max (fwd L (cnt L t)) t - t := by
  intro t
  induction t with
  | zero =>
    have a := fwd_arr h 0
    rw [show (0 : Int) - 1 = -1 by omega, cnt_neg h] at a
    simp only [wk, fwd] at a ⊢
    rw [show ((0 : Nat) : Int) = 0 by rfl]
    omega
  | succ t ih =>
    have a := fwd_arr h ((t : Int) + 1)
    rw [show (t : Int) + 1 - 1 = t by omega] at a
    simp only [wk]
    rw [show ((t + 1 : Nat) : Int) = (t : Int) + 1 by omega]
    omega
theorem wk_end {L : List (Int × Int)} (h : cOk L = true) {t : Nat} (ht : lastLeave L ≤ t) : wk L t = 0 := by
  rw [lastLeave_fwd h] at ht
  have := fwd_mono h (cnt_le L t) (Nat.le_refl _)
  rw [wk_fwd h]; omega
/-- if there is no work, nobody comes -/
theorem arr_zero {L : List (Int × Int)} (h : cOk L = true) : ∀ {t : Nat}, wk L t = 0 → arr L t = 0
  | 0, e => e
  | t + 1, e => by
    have := (arrTo_nn h ((t : Int) + 1) _ (Nat.le_refl _)).1
    rw [show ((t + 1 : Nat) : Int) = (t : Int) + 1 by omega]
    simp only [wk, arr] at e ⊢; omega
theorem srv_end {L : List (Int × Int)} (h : cOk L = true) : srv L 200 = needOf L := by
  have hl := lastLeave_bd h
  have e := wk_end h (t := 200) (by omega)
  have s := wk_srv h 200
  have c : cnt L ((200 : Nat) : Int) = L.length := cnt_of (Nat.le_refl _) (fun j hj => by have := cOk_bd h hj; omega) (fun h => absurd h (Nat.lt_irrefl _))
  rw [c] at s
  simp only [needOf, h, if_true]; omega
def momentOk (L : List (Int × Int)) (t : Int) : Bool := cOk L && decide (0 ≤ t ∧ t ≤ 200)
def workV (L : List (Int × Int)) (t : Int) : Int := if momentOk L t = true then wk L t.toNat else -1
def servedV (L : List (Int × Int)) (t : Int) : Int := if momentOk L t = true then srv L t.toNat else -1
theorem workV_yes {L : List (Int × Int)} {t : Int} (h : momentOk L t = true) : workV L t = wk L t.toNat := if_pos h
theorem workV_no {L : List (Int × Int)} {t : Int} (h : momentOk L t = false) : workV L t = -1 := by simp [workV, h]
theorem servedV_yes {L : List (Int × Int)} {t : Int} (h : momentOk L t = true) : servedV L t = srv L t.toNat := if_pos h
theorem servedV_no {L : List (Int × Int)} {t : Int} (h : momentOk L t = false) : servedV L t = -1 := by simp [servedV, h]
theorem momentOk_parts {L : List (Int × Int)} {t : Int} (h : momentOk L t = true) : cOk L = true ∧ 0 ≤ t ∧ t ≤ 200 := by
  simp only [momentOk, Bool.and_eq_true, decide_eq_true_eq] at h; exact h
theorem momentOk_nat {L : List (Int × Int)} {t : Int} (h : momentOk L t = true) : ∃ n : Nat, t = n ∧ n ≤ 200 ∧ cOk L = true := by
  obtain ⟨h1, h2, h3⟩ := momentOk_parts h
  exact ⟨t.toNat, by omega, by omega, h1⟩
def workTo (L : List (Int × Int)) (k : Nat) : List Int := (List.range k).map (wk L)
theorem workTo_len (L : List (Int × Int)) (k : Nat) : (workTo L k).length = k := by simp [workTo]
theorem workTo_succ (L : List (Int × Int)) (k : Nat) : workTo L (k + 1) = workTo L k ++ [wk L k] := by simp [workTo, List.range_succ]
/-- what is left of the work at the beginning of the unit t, ahead of those who come at it -/
def carry (L : List (Int × Int)) : Nat → Int
  | 0 => 0
  | t + 1 => max (wk L t - 1) 0
theorem wk_carry (L : List (Int × Int)) (t : Nat) : wk L t = carry L t + arr L t := by
  cases t with
  | zero => simp only [wk, carry]; rw [show ((0 : Nat) : Int) = 0 by rfl]; omega
  | succ t => simp only [wk, carry]; rw [show ((t + 1 : Nat) : Int) = (t : Int) + 1 by omega]

end Go.Proofs.Ytjjncpimelpfiaa

