/- Plain mathematics of chapter 7 (ahead): tasks, orders that have each once, weighted sums; least needs for the weight are first. -/
import Derived.Test.YtecoefjkobpbgaaM10
namespace Go.Proofs.Ytecoefjkobpbgaa
set_option linter.unusedVariables false
open Go.RowKit

/-- what the task v needs, and its weight -/
def nd (L : List (Int × Int)) (v : Int) : Int := X L v.toNat
def wt (L : List (Int × Int)) (v : Int) : Int := Y L v.toNat
def sumL (f : Int → Int) : List Int → Int
  | [] => 0
  | v :: o => f v + sumL f o
theorem sumL_append (f : Int → Int) (p q : List Int) : sumL f (p ++ q) = sumL f p + sumL f q := by
  induction p with
  | nil => simp [sumL]
  | cons v p ih => simp only [List.cons_append, sumL, ih]; omega
theorem sumL_perm (f : Int → Int) {p q : List Int} (h : p.Perm q) : sumL f p = sumL f q := by
  induction h with
  | nil => rfl
  | cons v _ ih => simp only [sumL, ih]
  | swap a b l => simp only [sumL]; omega
  | trans _ _ i j => exact i.trans j
theorem sumL_mul (c : Int) (f : Int → Int) (p : List Int) : sumL (fun j => c * f j) p = c * sumL f p := by
  induction p with
  | nil => simp [sumL]
  | cons v p ih => simp only [sumL, ih, Int.mul_add]
theorem sumL_le {f g : Int → Int} {p : List Int} (h : ∀ v, v ∈ p → f v ≤ g v) : sumL f p ≤ sumL g p := by
  induction p with
  | nil => exact Int.le_refl _
  | cons v p ih =>
    have a := h v (by simp)
    have b := ih (fun u hu => h u (by simp [hu]))
    simp only [sumL]; omega
theorem sumL_congr {f g : Int → Int} {p : List Int} (h : ∀ v, v ∈ p → f v = g v) : sumL f p = sumL g p := by
  induction p with
  | nil => rfl
  | cons v p ih => simp only [sumL, h v (by simp), ih (fun u hu => h u (by simp [hu]))]
/-- the weighted sum of an order that begins at t -/
def wl (L : List (Int × Int)) : Int → List Int → Int
  | _, [] => 0
  | t, v :: o => (t + nd L v) * wt L v + wl L (t + nd L v) o
theorem wl_append (L : List (Int × Int)) (p q : List Int) : ∀ t, wl L t (p ++ q) = wl L t p + wl L (t + sumL (nd L) p) q := by
  induction p with
  | nil => intro t; simp [wl, sumL]
  | cons v p ih => intro t; simp only [List.cons_append, wl, sumL, ih]; rw [show t + nd L v + sumL (nd L) p = t + (nd L v + sumL (nd L) p) by omega]; omega
/-- whoever is ahead adds to each behind -/
def cross (L : List (Int × Int)) : List Int → Int
  | [] => 0
  | v :: o => sumL (fun j => nd L v * wt L j) o + cross L o
def minc (L : List (Int × Int)) : List Int → Int
  | [] => 0
  | v :: o => sumL (fun j => min (nd L v * wt L j) (nd L j * wt L v)) o + minc L o
theorem wl_cross (L : List (Int × Int)) (o : List Int) : ∀ t, wl L t o = t * sumL (wt L) o + sumL (fun v => nd L v * wt L v) o + cross L o := by
  induction o with
  | nil => intro t; simp [wl, sumL, cross]
  | cons v o ih =>
    intro t
    simp only [wl, sumL, cross, ih, sumL_mul, Int.add_mul, Int.mul_add]
    omega
theorem cross_min (L : List (Int × Int)) (o : List Int) : minc L o ≤ cross L o := by
  induction o with
  | nil => exact Int.le_refl _
  | cons v o ih =>
    have a := sumL_le (p := o) (f := fun j => min (nd L v * wt L j) (nd L j * wt L v)) (g := fun j => nd L v * wt L j) (fun j _ => by omega)
    simp only [minc, cross]; omega
theorem minc_perm (L : List (Int × Int)) {p q : List Int} (h : p.Perm q) : minc L p = minc L q := by
  induction h with
  | nil => rfl
  | cons v h ih => simp only [minc, ih, sumL_perm _ h]
  | swap a b l => simp only [minc, sumL]; rw [Int.min_comm (nd L b * wt L a)]; omega
  | trans _ _ i j => exact i.trans j
/-- by ratios: each ahead of another one needs least for the weight -/
def ratioL (L : List (Int × Int)) (o : List Int) : Prop := o.Pairwise fun a b => nd L a * wt L b ≤ nd L b * wt L a
theorem cross_ratio (L : List (Int × Int)) {o : List Int} (h : ratioL L o) : cross L o = minc L o := by
  induction o with
  | nil => rfl
  | cons v o ih =>
    obtain ⟨h1, h2⟩ := List.pairwise_cons.1 h
    simp only [cross, minc, ih h2]
    rw [sumL_congr (g := fun j => min (nd L v * wt L j) (nd L j * wt L v)) (fun j hj => by have := h1 j hj; omega)]
/-- LEAST NEEDS FOR THE WEIGHT ARE FIRST -/
theorem ratio_least (L : List (Int × Int)) {r p : List Int} (hr : ratioL L r) (h : r.Perm p) : wl L 0 r ≤ wl L 0 p := by
  rw [wl_cross, wl_cross, cross_ratio L hr, minc_perm L h, sumL_perm _ h, sumL_perm (fun v => nd L v * wt L v) h]
  have := cross_min L p
  omega
/-- a row of different ones among as few is all of them -/
theorem perm_of_all {p : List Int} : ∀ {q : List Int}, p.Nodup → (∀ v, v ∈ p → v ∈ q) → q.length ≤ p.length → p.Perm q := by
  induction p with
  | nil => intro q _ _ hl; simp at hl; rw [hl]
  | cons a p ih =>
    intro q hn hs hl
    have ha : a ∈ q := hs a (by simp)
    obtain ⟨hna, hn2⟩ := List.nodup_cons.1 hn
    have e := List.perm_cons_erase ha
    have hle : (q.erase a).length = q.length - 1 := List.length_erase_of_mem ha
    have hq : 0 < q.length := List.length_pos_of_mem ha
    refine (List.Perm.cons a (ih hn2 (fun v hv => ?_) (by simp at hl; omega))).trans e.symm
    have hva : v ≠ a := fun e => hna (e ▸ hv)
    exact (List.mem_erase_of_ne hva).2 (hs v (by simp [hv]))
def upto (n : Nat) : List Int := (List.range n).map fun (i : Nat) => (i : Int)
theorem upto_len (n : Nat) : (upto n).length = n := by simp [upto]
theorem mem_upto {n : Nat} {v : Int} : v ∈ upto n ↔ 0 ≤ v ∧ v < n := by
  simp only [upto, List.mem_map, List.mem_range]
  constructor
  · rintro ⟨i, hi, rfl⟩; omega
  · intro h; exact ⟨v.toNat, by omega, by omega⟩

/-! an order that has each once -/
def newAt (o : List Int) (k : Nat) : Nat → Bool
  | 0 => true
  | j + 1 => newAt o k j && decide (Z o j ≠ Z o k)
def eachTo (o : List Int) (n : Int) : Nat → Bool
  | 0 => true
  | k + 1 => eachTo o n k && (decide (0 ≤ Z o k ∧ Z o k ≤ n - 1) && newAt o k k)
def eachV (o : List Int) (n : Int) : Bool := eachTo o n o.length && (decide (1 ≤ n ∧ n ≤ 6) && decide ((o.length : Int) = n))
theorem newAt_iff {o : List Int} {k : Nat} : ∀ {j}, newAt o k j = true ↔ ∀ i, i < j → Z o i ≠ Z o k := by
  intro j
  induction j with
  | zero => simp [newAt]
  | succ j ih =>
    simp only [newAt, Bool.and_eq_true, ih, decide_eq_true_eq]
    constructor
    · rintro ⟨h1, h2⟩ i hi
      by_cases e : i = j
      · subst e; exact h2
      · exact h1 i (by omega)
    · intro h; exact ⟨fun i hi => h i (by omega), h j (by omega)⟩
theorem eachTo_iff {o : List Int} {n : Int} : ∀ {k}, eachTo o n k = true ↔ ∀ i, i < k → (0 ≤ Z o i ∧ Z o i ≤ n - 1) ∧ ∀ j, j < i → Z o j ≠ Z o i := by
  intro k
  induction k with
  | zero => simp [eachTo]
  | succ k ih =>
    simp only [eachTo, Bool.and_eq_true, ih, decide_eq_true_eq, newAt_iff]
    constructor
    · rintro ⟨h1, h2⟩ i hi
      by_cases e : i = k
      · subst e; exact h2
      · exact h1 i (by omega)
    · intro h; exact ⟨fun i hi => h i (by omega), h k (by omega)⟩
theorem Z_get {o : List Int} {i : Nat} (h : i < o.length) : Z o i = o[i] := by simp [Z, h]
theorem each_iff {o : List Int} {n : Int} : eachV o n = true ↔ (1 ≤ n ∧ n ≤ 6) ∧ (o.length : Int) = n ∧ (∀ v, v ∈ o → 0 ≤ v ∧ v ≤ n - 1) ∧ o.Nodup := by
  simp only [eachV, Bool.and_eq_true, decide_eq_true_eq, eachTo_iff]
  constructor
  · rintro ⟨h1, h2, h3⟩
    refine ⟨h2, h3, fun v hv => ?_, ?_⟩
    · obtain ⟨i, hi, rfl⟩ := List.getElem_of_mem hv
      have := (h1 i hi).1
      rw [Z_get hi] at this; exact this
    · refine List.pairwise_iff_getElem.2 (fun i j hi hj hij => ?_)
      have := (h1 j hj).2 i hij
      rw [Z_get hi, Z_get hj] at this; exact this
  · rintro ⟨h2, h3, h4, h5⟩
    refine ⟨fun i hi => ⟨?_, fun j hj => ?_⟩, h2, h3⟩
    · rw [Z_get hi]; exact h4 _ (List.getElem_mem hi)
    · rw [Z_get hi, Z_get (by omega)]
      exact List.pairwise_iff_getElem.1 h5 j i (by omega) hi hj
theorem each_perm {o : List Int} {n : Nat} (h : eachV o n = true) : o.Perm (upto n) := by
  obtain ⟨_, h2, h3, h4⟩ := each_iff.1 h
  exact perm_of_all h4 (fun v hv => mem_upto.2 (by have := h3 v hv; omega)) (by rw [upto_len]; omega)
theorem each_two {o p : List Int} {n : Nat} (h : eachV o n = true) (hp : eachV p n = true) : o.Perm p := (each_perm h).trans (each_perm hp).symm
theorem each_of_perm {o p : List Int} {n : Int} (h : eachV o n = true) (hp : o.Perm p) : eachV p n = true := by
  obtain ⟨h1, h2, h3, h4⟩ := each_iff.1 h
  exact each_iff.2 ⟨h1, by rw [← hp.length_eq]; exact h2, fun v hv => h3 v (hp.mem_iff.2 hv), hp.nodup_iff.1 h4⟩

end Go.Proofs.Ytecoefjkobpbgaa

