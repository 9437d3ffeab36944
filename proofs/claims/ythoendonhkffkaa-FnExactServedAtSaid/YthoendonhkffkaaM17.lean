/- Plain mathematics of chapter 6 (ahead): areas of those who wait, of work. -/
import Derived.Test.YthoendonhkffkaaM16
namespace Go.Proofs.Ythoendonhkffkaa
set_option linter.unusedVariables false
open Go.RowKit

def leftSum (lf : List Int) : Nat → Int
  | 0 => 0
  | k + 1 => leftSum lf k + Z lf k
theorem leftSum_set {lf : List Int} {q : Nat} {v : Int} (hq : q < lf.length) : ∀ j, leftSum (lf.set q v) j = leftSum lf j + (if q < j then v - Z lf q else 0) := by
  intro j
  induction j with
  | zero => simp [leftSum]
  | succ j ih =>
    simp only [leftSum, ih]
    rw [Z_set hq]
    by_cases e : q = j
    · subst e; rw [if_pos rfl, if_neg (by omega), if_pos (by omega)]; omega
    · rw [if_neg e]
      by_cases h : q < j
      · rw [if_pos h, if_pos (by omega)]; omega
      · rw [if_neg h, if_neg (by omega)]; omega
/-- the units in which somebody is served, of the first t -/
def busyTo (o : List Int) : Nat → Int
  | 0 => 0
  | t + 1 => busyTo o t + (if 0 ≤ Z o t then 1 else 0)
theorem busyTo_bd (o : List Int) : ∀ t, 0 ≤ busyTo o t ∧ busyTo o t ≤ t := by
  intro t
  induction t with
  | zero => simp [busyTo]
  | succ t ih => simp only [busyTo]; split <;> omega
theorem busy_left {L : List (Int × Int)} {o : List Int} {n : Nat} (hu : unitsOk L o n = true) : ∀ t, t ≤ n → leftSum (leftOf L o t) L.length + busyTo o t = sumTo L L.length := by
  intro t
  induction t with
  | zero =>
    intro _
    have key : ∀ j, j ≤ L.length → leftSum (needs L) j = sumTo L j := by
      intro j
      induction j with
      | zero => intro _; rfl
      | succ j ih => intro hj; simp only [leftSum, sumTo, ih (by omega)]; rw [needs_Z (by omega)]
    show leftSum (needs L) L.length + 0 = _
    rw [key _ (Nat.le_refl _)]; omega
  | succ t ih =>
    intro ht
    have i := ih (by omega)
    have hl := leftOf_len L o t
    show leftSum (stepL (leftOf L o t) (Z o t)) L.length + (busyTo o t + (if 0 ≤ Z o t then 1 else 0)) = _
    rcases unitOk_cases (unitsOk_at n hu t (by omega)) with e | ⟨q, e, hq, _, _⟩
    · rw [e]; simp only [stepL]; rw [if_neg (by omega), if_neg (by omega)]; omega
    · rw [e]; simp only [stepL]; rw [if_pos (by omega), if_pos (by omega)]
      simp only [Int.toNat_natCast]
      rw [leftSum_set (by omega), if_pos hq]; omega
theorem busy_need {L : List (Int × Int)} {o : List Int} (h : ordOk L o = true) : busyTo o o.length = sumTo L L.length := by
  obtain ⟨hc, _, hu, hn⟩ := ordOk_parts h
  have b := busy_left hu o.length (Nat.le_refl _)
  have inv := leftOf_inv hc hu o.length (Nat.le_refl _)
  have key : ∀ j, j ≤ L.length → leftSum (leftOf L o o.length) j = 0 := by
    intro j
    induction j with
    | zero => intro _; rfl
    | succ j ih =>
      intro hj
      have := noneLeft_at _ hn j (by omega)
      have := (inv.rng j (by omega)).1
      simp only [leftSum, ih (by omega)]; omega
  rw [key _ (Nat.le_refl _)] at b
  omega
def areaV (L : List (Int × Int)) (o : List Int) : Int := if ordOk L o = true then areaTo L o L.length o.length else -1
theorem areaV_yes {L : List (Int × Int)} {o : List Int} (h : ordOk L o = true) : areaV L o = areaTo L o L.length o.length := if_pos h
theorem areaV_no {L : List (Int × Int)} {o : List Int} (h : ordOk L o = false) : areaV L o = -1 := by simp [areaV, h]
theorem areaV_sum {L : List (Int × Int)} {o : List Int} (h : ordOk L o = true) : areaV L o = sumV L o := by
  rw [areaV_yes h, sumV_yes h, area_sum h (Nat.le_refl _) _ (Nat.le_refl _)]
/-- there and not served, added over the first m units -/
def waArea (L : List (Int × Int)) (o : List Int) (m : Nat) : Int := areaTo L o L.length m - busyTo o m
theorem waArea_succ (L : List (Int × Int)) (o : List Int) (m : Nat) : waArea L o (m + 1) = waArea L o m + thereN L o m L.length - (if 0 ≤ Z o m then 1 else 0) := by
  simp only [waArea, areaTo, busyTo]; omega
theorem areaTo_bd (L : List (Int × Int)) (o : List Int) (j : Nat) : ∀ m, 0 ≤ areaTo L o j m ∧ areaTo L o j m ≤ j * m := by
  intro m
  induction m with
  | zero => simp [areaTo]
  | succ m ih =>
    have := thereN_bd L o m j
    have e : (j : Int) * ((m + 1 : Nat) : Int) = j * m + j := by rw [Int.natCast_add, Int.mul_add]; simp
    simp only [areaTo]; rw [e]; omega
def waitingV (L : List (Int × Int)) (o : List Int) : Int := if ordOk L o = true then waArea L o o.length else -1
theorem waitingV_yes {L : List (Int × Int)} {o : List Int} (h : ordOk L o = true) : waitingV L o = waArea L o o.length := if_pos h
theorem waitingV_no {L : List (Int × Int)} {o : List Int} (h : ordOk L o = false) : waitingV L o = -1 := by simp [waitingV, h]
/-- WHO WAITS IS THERE AND NOT SERVED -/
theorem waitingV_need {L : List (Int × Int)} {o : List Int} (h : ordOk L o = true) : waitingV L o = areaV L o - needOf L := by
  have hc := (ordOk_parts h).1
  rw [waitingV_yes h, areaV_yes h, waArea, busy_need h]
  simp [needOf, hc]
theorem waitingV_nn {L : List (Int × Int)} {o : List Int} (h : ordOk L o = true) : 0 ≤ waitingV L o ∧ waitingV L o ≤ 2000 := by
  have e := waitingV_need h
  have a := areaV_sum h
  have hc := (ordOk_parts h).1
  have hlen := cOk_len hc
  have t := tmTo_need h L.length (Nat.le_refl _)
  have b := tmTo_bd h L.length (Nat.le_refl _)
  have n : needOf L = sumTo L L.length := by simp [needOf, hc]
  have s := sumTo_le hc (Nat.le_refl L.length)
  rw [a, sumV_yes h] at e
  omega
def waitSumTo (L : List (Int × Int)) : Nat → Int
  | 0 => 0
  | k + 1 => waitSumTo L k + waitAt L k
theorem waiting_first {L : List (Int × Int)} (hc : cOk L = true) : waitingV L (orderR L 0) = waitSumTo L L.length := by
  obtain ⟨T, hT, _⟩ := lastLeave_nat hc
  have hR : ordOk L (orderR L 0) = true := by rw [orderR_two hc (by omega) hT]; exact orderTo_ok hc 0 hT
  have n : needOf L = sumTo L L.length := by simp [needOf, hc]
  rw [waitingV_need hR, areaV_sum hR, sumV_yes hR, n]
  have key : ∀ j, j ≤ L.length → tmTo L (orderR L 0) j = waitSumTo L j + sumTo L j := by
    intro j
    induction j with
    | zero => intro _; rfl
    | succ j ih =>
      intro hj
      have := time_first hc (k := j) (by omega)
      simp only [tmTo, waitSumTo, sumTo, ih (by omega)]
      omega
  rw [key _ (Nat.le_refl _)]; omega

/-- 1 + 2 + .. + j -/
def tri : Nat → Int
  | 0 => 0
  | j + 1 => tri j + ((j : Int) + 1)
theorem tri_half {y : Int} (h : 1 ≤ y ∧ y ≤ 9) : tri y.toNat = (y * (y + 1)).tdiv 2 := by
  have : y = 1 ∨ y = 2 ∨ y = 3 ∨ y = 4 ∨ y = 5 ∨ y = 6 ∨ y = 7 ∨ y = 8 ∨ y = 9 := by omega
  rcases this with rfl | rfl | rfl | rfl | rfl | rfl | rfl | rfl | rfl <;> decide
theorem tri_bd {y : Int} (h : 1 ≤ y ∧ y ≤ 9) : 1 ≤ tri y.toNat ∧ tri y.toNat ≤ 45 := by
  have : y = 1 ∨ y = 2 ∨ y = 3 ∨ y = 4 ∨ y = 5 ∨ y = 6 ∨ y = 7 ∨ y = 8 ∨ y = 9 := by omega
  rcases this with rfl | rfl | rfl | rfl | rfl | rfl | rfl | rfl | rfl <;> decide
/-- the work of one who comes at x, waits w and needs y, added over the first m units -/
def workOne (x w y : Nat) : Nat → Int
  | 0 => 0
  | m + 1 => workOne x w y m + (if x ≤ m then max 0 (min (y : Int) ((x + w + y : Nat) - (m : Int))) else 0)
theorem workOne_step (x w y m : Nat) : workOne x w y (m + 1) = workOne x w y m + (if x ≤ m then max 0 (min (y : Int) ((x + w + y : Nat) - (m : Int))) else 0) := rfl
theorem workOne_a {x w y : Nat} : ∀ m, m ≤ x → workOne x w y m = 0 := by
  intro m
  induction m with
  | zero => intro _; rfl
  | succ m ih => intro h; simp only [workOne, ih (by omega)]; rw [if_neg (by omega)]; omega
theorem workOne_b {x w y : Nat} : ∀ j, j ≤ w → workOne x w y (x + j) = y * j := by
  intro j
  induction j with
  | zero => intro _; rw [Nat.add_zero, workOne_a x (Nat.le_refl _)]; simp
  | succ j ih =>
    intro h
    rw [show x + (j + 1) = x + j + 1 by omega, workOne_step, ih (by omega), if_pos (by omega)]
    have e : (y : Int) * ((j + 1 : Nat) : Int) = y * j + y := by rw [Int.natCast_add, Int.mul_add]; simp
    rw [e]
    omega
theorem workOne_c {x w y : Nat} : ∀ j, j ≤ y → workOne x w y (x + w + j) = y * w + (tri y - tri (y - j)) := by
  intro j
  induction j with
  | zero => intro _; rw [Nat.add_zero, workOne_b w (Nat.le_refl _), Nat.sub_zero]; omega
  | succ j ih =>
    intro h
    rw [show x + w + (j + 1) = x + w + j + 1 by omega, workOne_step, ih (by omega), if_pos (by omega)]
    have e : tri (y - j) = tri (y - (j + 1)) + (((y - (j + 1) : Nat) : Int) + 1) := by
      have : y - j = (y - (j + 1)) + 1 := by omega
      rw [this]; rfl
    omega
theorem workOne_d {x w y : Nat} : ∀ j, workOne x w y (x + w + y + j) = y * w + tri y := by
  intro j
  induction j with
  | zero =>
    have := workOne_c (x := x) (w := w) (y := y) y (Nat.le_refl _)
    rw [Nat.add_zero, this, Nat.sub_self]; simp [tri]
  | succ j ih =>
    rw [show x + w + y + (j + 1) = x + w + y + j + 1 by omega, workOne_step, ih]
    split <;> omega
/-- work, added over the first m units -/
def wkArea (L : List (Int × Int)) : Nat → Int
  | 0 => 0
  | m + 1 => wkArea L m + wk L m
def wkOnes (L : List (Int × Int)) (m : Nat) : Nat → Int
  | 0 => 0
  | k + 1 => wkOnes L m k + workOne (X L k).toNat (waitAt L k).toNat (Y L k).toNat m
theorem wk_ones {L : List (Int × Int)} (hc : cOk L = true) : ∀ m, wkArea L m = wkOnes L m L.length := by
  intro m
  induction m with
  | zero =>
    have : ∀ k, wkOnes L 0 k = 0 := by intro k; induction k with | zero => rfl | succ k ih => simp [wkOnes, ih, workOne]
    rw [this]; rfl
  | succ m ih =>
    have inv := ordL_inv hc 0 m
    have hs := fcfs_inv hc m
    have key : ∀ k, k ≤ L.length → wkOnes L (m + 1) k = wkOnes L m k + thereTo L (ordL L 0 m) m k := by
      intro k
      induction k with
      | zero => intro _; simp [wkOnes, thereTo]
      | succ k ihk =>
        intro hk
        have bd := cOk_bd hc (k := k) (by omega)
        have wb := waitAt_bd hc k (by omega)
        have e := hs k (by omega)
        simp only [wkOnes, thereTo, ihk (by omega), workOne]
        rw [e]
        have el : leaveAt L k = X L k + waitAt L k + Y L k := by simp only [leaveAt]
        by_cases hx : X L k ≤ m
        · rw [if_pos hx, if_pos (by omega)]
          simp only [fcfsLeft]
          omega
        · rw [if_neg hx, if_neg (by omega)]; omega
    rw [key _ (Nat.le_refl _), inv.sum]
    show wkArea L m + wk L m = _
    rw [ih]
def workByTo (L : List (Int × Int)) : Nat → Int
  | 0 => 0
  | k + 1 => workByTo L k + Y L k * waitAt L k + (Y L k * (Y L k + 1)).tdiv 2
def workByV (L : List (Int × Int)) : Int := if cOk L = true then workByTo L L.length else -1
theorem workByV_yes {L : List (Int × Int)} (h : cOk L = true) : workByV L = workByTo L L.length := if_pos h
theorem workByV_no {L : List (Int × Int)} (h : cOk L = false) : workByV L = -1 := by simp [workByV, h]
def workAreaV (L : List (Int × Int)) : Int := if cOk L = true then wkArea L 201 else -1
theorem workAreaV_yes {L : List (Int × Int)} (h : cOk L = true) : workAreaV L = wkArea L 201 := if_pos h
theorem workAreaV_no {L : List (Int × Int)} (h : cOk L = false) : workAreaV L = -1 := by simp [workAreaV, h]
/-- WORK IS ADDED BY THOSE WHO HAVE IT -/
theorem work_by {L : List (Int × Int)} (hc : cOk L = true) : wkArea L 201 = workByTo L L.length := by
  rw [wk_ones hc]
  have hlen := cOk_len hc
  have key : ∀ k, k ≤ L.length → wkOnes L 201 k = workByTo L k := by
    intro k
    induction k with
    | zero => intro _; rfl
    | succ k ih =>
      intro hk
      have bd := cOk_bd hc (k := k) (by omega)
      have wb := waitAt_bd hc k (by omega)
      have lf := leaveAt_bd hc (k := k) (by omega)
      have el : leaveAt L k = X L k + waitAt L k + Y L k := by simp only [leaveAt]
      simp only [wkOnes, workByTo, ih (by omega)]
      obtain ⟨j, hj⟩ : ∃ j, 201 = (X L k).toNat + (waitAt L k).toNat + (Y L k).toNat + j := ⟨201 - ((X L k).toNat + (waitAt L k).toNat + (Y L k).toNat), by omega⟩
      have e := workOne_d (x := (X L k).toNat) (w := (waitAt L k).toNat) (y := (Y L k).toNat) j
      rw [← hj] at e
      rw [e, tri_half ⟨bd.2.2.1, bd.2.2.2⟩]
      have e1 : (((Y L k).toNat : Nat) : Int) = Y L k := by omega
      have e2 : (((waitAt L k).toNat : Nat) : Int) = waitAt L k := by omega
      rw [e1, e2]; omega
  exact key _ (Nat.le_refl _)

end Go.Proofs.Ythoendonhkffkaa

