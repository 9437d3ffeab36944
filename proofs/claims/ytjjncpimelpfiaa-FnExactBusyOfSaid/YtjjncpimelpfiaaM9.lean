/- Plain mathematics of chapter 3: what the laws say of busy periods. -/
import Derived.Test.YtjjncpimelpfiaaM8
namespace Go.Proofs.Ytjjncpimelpfiaa
set_option linter.unusedVariables false
open Go.RowKit

/-- what those of the first j need who come in b .. e - 1 -/
def inTo (L : List (Int × Int)) (b e : Int) : Nat → Int
  | 0 => 0
  | j + 1 => inTo L b e j + (if b ≤ X L j ∧ X L j < e then Y L j else 0)
/-- whether one of the first j comes at s -/
def begTo (L : List (Int × Int)) (s : Int) : Nat → Bool
  | 0 => false
  | j + 1 => begTo L s j || (X L j == s)
/-- the places of those of the first j who come in b .. e - 1 -/
def placesTo (L : List (Int × Int)) (b e : Int) : Nat → List Int
  | 0 => []
  | j + 1 => if b ≤ X L j ∧ X L j ≤ e - 1 then placesTo L b e j ++ [(j : Int)] else placesTo L b e j
theorem cnt_mono' {L : List (Int × Int)} {t u : Int} (h : t ≤ u) : cnt L t ≤ cnt L u := by
  induction L with
  | nil => simp [cnt]
  | cons c L ih =>
    by_cases e : c.1 ≤ t
    · have e2 : c.1 ≤ u := by omega
      have h1 : cnt (c :: L) t = cnt L t + 1 := by simp [cnt, e]
      have h2 : cnt (c :: L) u = cnt L u + 1 := by simp [cnt, e2]
      omega
    · have h1 : cnt (c :: L) t = 0 := by simp [cnt, e]
      omega
theorem inTo_cnt {L : List (Int × Int)} (h : cOk L = true) {b e : Int} (hbe : b ≤ e) : ∀ j, j ≤ L.length → inTo L b e j = sumTo L (min j (cnt L (e - 1))) - sumTo L (min j (cnt L (b - 1))) := by
  intro j
  induction j with
  | zero => intro _; simp [inTo, sumTo]
  | succ j ih =>
    intro hj
    have i := ih (by omega)
    have c1 := lt_cnt h (t := e - 1) (j := j) (by omega)
    have c2 := lt_cnt h (t := b - 1) (j := j) (by omega)
    simp only [inTo, i]
    by_cases e1 : X L j ≤ b - 1
    · have a1 : j < cnt L (b - 1) := c2.2 e1
      have a2 : j < cnt L (e - 1) := c1.2 (by omega)
      rw [show min (j + 1) (cnt L (e - 1)) = j + 1 by omega, show min (j + 1) (cnt L (b - 1)) = j + 1 by omega, show min j (cnt L (e - 1)) = j by omega, show min j (cnt L (b - 1)) = j by omega, if_neg (by omega)]
      omega
    · have a1 : ¬ j < cnt L (b - 1) := fun x => e1 (c2.1 x)
      by_cases e2 : X L j ≤ e - 1
      · have a2 : j < cnt L (e - 1) := c1.2 e2
        rw [show min (j + 1) (cnt L (e - 1)) = j + 1 by omega, show min (j + 1) (cnt L (b - 1)) = cnt L (b - 1) by omega, show min j (cnt L (e - 1)) = j by omega, show min j (cnt L (b - 1)) = cnt L (b - 1) by omega, if_pos (by omega)]
        simp only [sumTo]; omega
      · have a2 : ¬ j < cnt L (e - 1) := fun x => e2 (c1.1 x)
        have a3 : cnt L (b - 1) ≤ cnt L (e - 1) := cnt_mono' (by omega)
        rw [show min (j + 1) (cnt L (e - 1)) = cnt L (e - 1) by omega, show min (j + 1) (cnt L (b - 1)) = cnt L (b - 1) by omega, show min j (cnt L (e - 1)) = cnt L (e - 1) by omega, show min j (cnt L (b - 1)) = cnt L (b - 1) by omega, if_neg (by omega)]
        omega
theorem inTo_bd {L : List (Int × Int)} (h : cOk L = true) {b e : Int} : ∀ j, j ≤ L.length → 0 ≤ inTo L b e j ∧ inTo L b e j ≤ 9 * j := by
  intro j
  induction j with
  | zero => intro _; simp [inTo]
  | succ j ih =>
    intro hj
    have := ih (by omega)
    have := cOk_bd h (k := j) (by omega)
    simp only [inTo]; split <;> omega
theorem begTo_of {L : List (Int × Int)} {s : Int} : ∀ j, 0 < arrTo L s j → begTo L s j = true := by
  intro j
  induction j with
  | zero => intro h; simp [arrTo] at h
  | succ j ih =>
    intro h
    simp only [arrTo] at h
    by_cases e : X L j = s
    · simp [begTo, e]
    · rw [if_neg e] at h
      simp [begTo, ih (by omega)]
/-- places are a row of numbers -/
theorem placesTo_cnt {L : List (Int × Int)} (h : cOk L = true) {b e : Int} (hbe : b ≤ e) : ∀ j, j ≤ L.length → placesTo L b e j = ((List.range (min j (cnt L (e - 1)) - min j (cnt L (b - 1)))).map fun i => ((cnt L (b - 1) + i : Nat) : Int)) := by
  intro j
  induction j with
  | zero => intro _; simp [placesTo]
  | succ j ih =>
    intro hj
    have i := ih (by omega)
    have c1 := lt_cnt h (t := e - 1) (j := j) (by omega)
    have c2 := lt_cnt h (t := b - 1) (j := j) (by omega)
    simp only [placesTo, i]
    by_cases e1 : X L j ≤ b - 1
    · have a1 : j < cnt L (b - 1) := c2.2 e1
      have a2 : j < cnt L (e - 1) := c1.2 (by omega)
      rw [if_neg (by omega), show min (j + 1) (cnt L (e - 1)) - min (j + 1) (cnt L (b - 1)) = min j (cnt L (e - 1)) - min j (cnt L (b - 1)) by omega]
    · have a1 : ¬ j < cnt L (b - 1) := fun x => e1 (c2.1 x)
      by_cases e2 : X L j ≤ e - 1
      · have a2 : j < cnt L (e - 1) := c1.2 e2
        rw [if_pos (by omega), show min (j + 1) (cnt L (e - 1)) - min (j + 1) (cnt L (b - 1)) = (min j (cnt L (e - 1)) - min j (cnt L (b - 1))) + 1 by omega, List.range_succ, List.map_append]
        congr 1
        simp only [List.map_cons, List.map_nil]
        congr 1
        omega
      · have a2 : ¬ j < cnt L (e - 1) := fun x => e2 (c1.1 x)
        rw [if_neg (by omega), show min (j + 1) (cnt L (e - 1)) - min (j + 1) (cnt L (b - 1)) = min j (cnt L (e - 1)) - min j (cnt L (b - 1)) by omega]
theorem placesTo_len {L : List (Int × Int)} {b e : Int} : ∀ j, (placesTo L b e j).length ≤ j := by
  intro j
  induction j with
  | zero => simp [placesTo]
  | succ j ih =>
    simp only [placesTo]
    split
    · simp; omega
    · omega
def places (L : List (Int × Int)) (b e : Int) : List Int := placesTo L b e L.length
theorem places_cnt {L : List (Int × Int)} (h : cOk L = true) {b e : Int} (hbe : b ≤ e) : places L b e = ((List.range (cnt L (e - 1) - cnt L (b - 1))).map fun i => ((cnt L (b - 1) + i : Nat) : Int)) := by
  have h1 := cnt_le L (e - 1)
  have h2 := cnt_le L (b - 1)
  rw [places, placesTo_cnt h hbe _ (Nat.le_refl _), show min L.length (cnt L (e - 1)) = cnt L (e - 1) by omega, show min L.length (cnt L (b - 1)) = cnt L (b - 1) by omega]

section
variable {L : List (Int × Int)} {t : Nat} {B : List (Int × Int)}
theorem srv_busy {b : Nat} : ∀ n, (∀ u : Nat, b ≤ u → u < b + n → wk L u ≠ 0) → cOk L = true → srv L (b + n) = srv L b + n := by
  intro n
  induction n with
  | zero => intro _ _; simp
  | succ n ih =>
    intro hw h
    have i := ih (fun u h1 h2 => hw u h1 (by omega)) h
    have w1 := hw (b + n) (by omega) (by omega)
    have w2 := wk_nn h (b + n)
    rw [show b + (n + 1) = (b + n) + 1 by omega]
    simp only [srv]
    rw [if_pos (by omega), i]; omega
/-- one period, as natural numbers -/
theorem BInv.nat (h : BInv L t B) {k : Nat} (hk : k < B.length) : ∃ b e : Nat, X B k = b ∧ Y B k = e ∧ b < e ∧ e ≤ t := by
  have r := h.rng k hk
  exact ⟨(X B k).toNat, (Y B k).toNat, by omega, by omega, by omega, by omega⟩
/-- behind a period there is no work, if the time looked at is late enough -/
theorem BInv.free (h : BInv L t B) (hc : cOk L = true) (ht : 132 ≤ t) {k : Nat} (hk : k < B.length) {e : Nat} (he : Y B k = e) : wk L e = 0 := by
  by_cases h1 : e < t
  · exact h.after k hk e he h1
  · exact wk_end hc (by have := lastLeave_bd hc; omega)
theorem arr_pos (hc : cOk L = true) {j : Nat} (hj : j < L.length) : ∀ n, j < n → n ≤ L.length → 0 < arrTo L (X L j) n := by
  intro n
  induction n with
  | zero => intro h; omega
  | succ n ih =>
    intro h1 h2
    have nn := (arrTo_nn hc (X L j) n (by omega)).1
    have bd := cOk_bd hc (k := n) (by omega)
    simp only [arrTo]
    by_cases e : j = n
    · subst e; rw [if_pos rfl]; omega
    · have := ih (by omega) (by omega)
      split <;> omega
theorem wk_come (hc : cOk L = true) {j : Nat} (hj : j < L.length) {u : Nat} (hu : X L j = u) : wk L u ≠ 0 := by
  intro e
  have a := arr_zero hc e
  have p := arr_pos hc hj L.length hj (Nat.le_refl _)
  rw [hu] at p
  unfold arr at a
  omega
theorem come_in (h : BInv L t B) (hc : cOk L = true) (ht : 132 ≤ t) {j : Nat} (hj : j < L.length) : ∃ k, k < B.length ∧ X B k ≤ X L j ∧ X L j < Y B k := by
  have bd := cOk_bd hc hj
  obtain ⟨u, hu⟩ := Int.eq_ofNat_of_zero_le bd.1
  have hu' : X L j = (u : Int) := hu
  obtain ⟨k, hk, h1, h2⟩ := h.full u (by omega) (wk_come hc hj hu')
  exact ⟨k, hk, by omega, by omega⟩
theorem cnt_before (h : BInv L t B) (hc : cOk L = true) {k : Nat} (hk : k < B.length) {b : Nat} (hb : X B k = b) : srv L b = sumTo L (cnt L ((b : Int) - 1)) := by
  cases b with
  | zero => rw [show ((0 : Nat) : Int) - 1 = -1 by omega, cnt_neg hc]; rfl
  | succ u =>
    have w0 := h.before k hk u (by omega)
    have s := wk_srv hc u
    rw [show ((u + 1 : Nat) : Int) - 1 = u by omega]
    simp only [srv]
    rw [if_neg (by omega)]; omega
theorem cnt_end (h : BInv L t B) (hc : cOk L = true) (ht : 132 ≤ t) {k : Nat} (hk : k < B.length) {e : Nat} (he : Y B k = e) : cnt L ((e : Int) - 1) = cnt L e := by
  have w0 := h.free hc ht hk he
  have h1 := cnt_le' L e
  refine Nat.le_antisymm h1 (Nat.le_of_not_lt fun hlt => ?_)
  have hl := cnt_le L e
  have x1 := (lt_cnt hc (t := e) (j := cnt L ((e : Int) - 1)) (by omega)).1 hlt
  have x2 : ¬ X L (cnt L ((e : Int) - 1)) ≤ (e : Int) - 1 := fun x => by have := (lt_cnt hc (t := (e : Int) - 1) (j := cnt L ((e : Int) - 1)) (by omega)).2 x; omega
  exact wk_come hc (j := cnt L ((e : Int) - 1)) (by omega) (u := e) (by omega) w0
/-- A BUSY PERIOD IS AS LONG AS THE WORK IN IT -/
theorem period_sum (h : BInv L t B) (hc : cOk L = true) (ht : 132 ≤ t) {k : Nat} (hk : k < B.length) : Y B k - X B k = inTo L (X B k) (Y B k) L.length := by
  obtain ⟨b, e, hb, he, hbe, het⟩ := h.nat hk
  have w0 := h.free hc ht hk he
  have s1 := wk_srv hc e
  have s2 := srv_busy (L := L) (b := b) (e - b) (fun u h1 h2 => h.busy k hk u (by omega) (by omega)) hc
  rw [show b + (e - b) = e by omega] at s2
  have s3 := cnt_before h hc hk hb
  have s4 := cnt_end h hc ht hk he
  have h1 := cnt_le L ((e : Int) - 1)
  have h2 := cnt_le L ((b : Int) - 1)
  rw [hb, he, inTo_cnt hc (by omega) _ (Nat.le_refl _), show min L.length (cnt L ((e : Int) - 1)) = cnt L ((e : Int) - 1) by omega, show min L.length (cnt L ((b : Int) - 1)) = cnt L ((b : Int) - 1) by omega, s4]
  omega
theorem period_begins (h : BInv L t B) (hc : cOk L = true) {k : Nat} (hk : k < B.length) : begTo L (X B k) L.length = true := by
  obtain ⟨b, e, hb, he, hbe, het⟩ := h.nat hk
  have w1 := h.busy k hk b (by omega) (by omega)
  have w2 := wk_nn hc b
  have hcar : carry L b = 0 := by
    cases b with
    | zero => rfl
    | succ u =>
      have w0 := h.before k hk u (by omega)
      simp only [carry]; omega
  have hw := wk_carry L b
  rw [hb]
  exact begTo_of _ (by unfold arr at hw; omega)
theorem fwd_before (h : BInv L t B) (hc : cOk L = true) {k : Nat} (hk : k < B.length) {b : Nat} (hb : X B k = b) : fwd L (cnt L ((b : Int) - 1)) ≤ b := by
  cases b with
  | zero => rw [show ((0 : Nat) : Int) - 1 = -1 by omega, cnt_neg hc]; exact Int.le_refl _
  | succ u =>
    have w0 := h.before k hk u (by omega)
    rw [wk_fwd hc] at w0
    rw [show ((u + 1 : Nat) : Int) - 1 = u by omega]
    omega
theorem fwd_end (h : BInv L t B) (hc : cOk L = true) (ht : 132 ≤ t) {k : Nat} (hk : k < B.length) {e : Nat} (he : Y B k = e) : fwd L (cnt L ((e : Int) - 1)) = e := by
  obtain ⟨b, e', hb, he', hbe, het⟩ := h.nat hk
  obtain rfl : e = e' := by omega
  have w0 := h.free hc ht hk he
  have w1 := h.busy k hk (e - 1) (by omega) (by omega)
  rw [wk_fwd hc] at w0 w1
  rw [← cnt_end h hc ht hk he] at w0
  rw [show ((e - 1 : Nat) : Int) = (e : Int) - 1 by omega] at w1
  omega
theorem last_end (h : BInv L t B) (hc : cOk L = true) (ht : 132 ≤ t) {m : Nat} (hm : B.length = m + 1) : Y B m = lastLeave L := by
  obtain ⟨b, e, hb, he, hbe, het⟩ := h.nat (k := m) (by omega)
  have hall : cnt L ((e : Int) - 1) = L.length := by
    refine cnt_of (Nat.le_refl _) (fun j hj => ?_) (fun h => absurd h (Nat.lt_irrefl _))
    obtain ⟨k, hk, h1, h2⟩ := come_in h hc ht hj
    by_cases e1 : k = m
    · subst e1; omega
    · have := h.far (i := k) (j := m) (by omega) (by omega)
      omega
  have f := fwd_end h hc ht (k := m) (by omega) he
  rw [hall] at f
  rw [he, lastLeave_fwd hc, f]
theorem none_empty (h : BInv L t B) (hc : cOk L = true) (ht : 132 ≤ t) (hm : B.length = 0) : L.length = 0 := by
  refine Nat.eq_zero_of_not_pos fun hp => ?_
  obtain ⟨k, hk, _⟩ := come_in h hc ht (j := 0) hp
  omega
/-- between two periods nobody comes -/
theorem cnt_gap (h : BInv L t B) (hc : cOk L = true) (ht : 132 ≤ t) {k : Nat} (hk : k + 1 < B.length) : cnt L (X B (k + 1) - 1) = cnt L (Y B k - 1) := by
  have o := h.ord k hk
  refine Nat.le_antisymm (Nat.le_of_not_lt fun hlt => ?_) (cnt_mono' (by omega))
  have hl := cnt_le L (X B (k + 1) - 1)
  have x1 := (lt_cnt hc (t := X B (k + 1) - 1) (j := cnt L (Y B k - 1)) (by omega)).1 hlt
  have x2 : ¬ X L (cnt L (Y B k - 1)) ≤ Y B k - 1 := fun x => by have := (lt_cnt hc (t := Y B k - 1) (j := cnt L (Y B k - 1)) (by omega)).2 x; omega
  obtain ⟨m, hm, h1, h2⟩ := come_in h hc ht (j := cnt L (Y B k - 1)) (by omega)
  rcases Nat.lt_or_ge m (k + 1) with hlt2 | hge
  · by_cases e : m = k
    · subst e; omega
    · have := h.far (i := m) (j := k) (by omega) (by omega)
      have := h.rng k (by omega)
      omega
  · by_cases e : m = k + 1
    · subst e; omega
    · have := h.far (i := k + 1) (j := m) (by omega) hm
      have := h.rng (k + 1) hk
      omega
theorem cnt_first (h : BInv L t B) (hc : cOk L = true) (ht : 132 ≤ t) (hp : 0 < B.length) : cnt L (X B 0 - 1) = 0 := by
  refine Nat.eq_zero_of_not_pos fun hlt => ?_
  have hl := cnt_le L (X B 0 - 1)
  have x1 := (lt_cnt hc (t := X B 0 - 1) (j := 0) (by omega)).1 hlt
  obtain ⟨m, hm, h1, h2⟩ := come_in h hc ht (j := 0) (by omega)
  by_cases e : m = 0
  · subst e; omega
  · have := h.far (i := 0) (j := m) (by omega) hm
    have := h.rng 0 hp
    omega
/-- how many come in the first k periods -/
def manyTo (L B : List (Int × Int)) : Nat → Int
  | 0 => 0
  | k + 1 => manyTo L B k + ((places L (X B k) (Y B k)).length : Int)
theorem manyTo_cnt (h : BInv L t B) (hc : cOk L = true) (ht : 132 ≤ t) : ∀ k, k < B.length → manyTo L B (k + 1) = cnt L (Y B k - 1) := by
  intro k
  induction k with
  | zero =>
    intro hk
    have r := h.rng 0 hk
    have f := cnt_first h hc ht hk
    simp only [manyTo]
    rw [places_cnt hc (by omega)]
    simp; omega
  | succ k ih =>
    intro hk
    have r := h.rng (k + 1) hk
    have i := ih (by omega)
    have g := cnt_gap h hc ht hk
    have m : cnt L (X B (k + 1) - 1) ≤ cnt L (Y B (k + 1) - 1) := cnt_mono' (by omega)
    have e : manyTo L B (k + 1 + 1) = manyTo L B (k + 1) + ((places L (X B (k + 1)) (Y B (k + 1))).length : Int) := rfl
    rw [e, i, places_cnt hc (by omega)]
    simp only [List.length_map, List.length_range]
    omega
theorem manyTo_all (h : BInv L t B) (hc : cOk L = true) (ht : 132 ≤ t) : manyTo L B B.length = L.length := by
  by_cases hp : B.length = 0
  · rw [none_empty h hc ht hp, hp]; rfl
  · have m := manyTo_cnt h hc ht (B.length - 1) (by omega)
    have e := last_end h hc ht (m := B.length - 1) (by omega)
    obtain ⟨b, e', hb, he, hbe, het⟩ := h.nat (k := B.length - 1) (by omega)
    rw [show B.length - 1 + 1 = B.length by omega] at m
    rw [m]
    congr 1
    refine cnt_of (Nat.le_refl _) (fun j hj => ?_) (fun h => absurd h (Nat.lt_irrefl _))
    obtain ⟨k, hk, h1, h2⟩ := come_in h hc ht hj
    by_cases e1 : k = B.length - 1
    · subst e1; omega
    · have := h.far (i := k) (j := B.length - 1) (by omega) (by omega)
      omega
/-- those who come in a period leave in it -/
theorem leave_in (h : BInv L t B) (hc : cOk L = true) (ht : 132 ≤ t) {k : Nat} (hk : k < B.length) {j : Nat} (h1 : cnt L (X B k - 1) ≤ j) (h2 : j < cnt L (Y B k - 1)) : leaveAt L j ≤ Y B k ∧ X B k < leaveAt L j := by
  obtain ⟨b, e, hb, he, hbe, het⟩ := h.nat hk
  have hl := cnt_le L (Y B k - 1)
  have f := fwd_end h hc ht hk he
  rw [he] at h2 hl ⊢
  rw [hb] at h1 ⊢
  have m := fwd_mono hc (i := j + 1) (j := cnt L ((e : Int) - 1)) (by omega) hl
  have x2 : ¬ X L j ≤ (b : Int) - 1 := fun x => by have := (lt_cnt hc (t := (b : Int) - 1) (j := j) (by omega)).2 x; omega
  have bd := cOk_bd hc (k := j) (by omega)
  rw [leaveAt_fwd hc j (by omega)]
  refine ⟨by omega, ?_⟩
  simp only [fwd]; omega
theorem first_waits (h : BInv L t B) (hc : cOk L = true) {k : Nat} (hk : k < B.length) (hj : cnt L (X B k - 1) < L.length) : waitAt L (cnt L (X B k - 1)) = 0 := by
  obtain ⟨b, e, hb, he, hbe, het⟩ := h.nat hk
  have f := fwd_before h hc hk hb
  rw [hb] at hj ⊢
  have x2 : ¬ X L (cnt L ((b : Int) - 1)) ≤ (b : Int) - 1 := fun x => by have := (lt_cnt hc (t := (b : Int) - 1) (j := cnt L ((b : Int) - 1)) hj).2 x; omega
  have l := leaveAt_fwd hc _ hj
  simp only [leaveAt, fwd] at l
  omega
theorem last_leaves (h : BInv L t B) (hc : cOk L = true) (ht : 132 ≤ t) {k : Nat} (hk : k < B.length) {j : Nat} (hj : cnt L (Y B k - 1) = j + 1) : leaveAt L j = Y B k := by
  obtain ⟨b, e, hb, he, hbe, het⟩ := h.nat hk
  have f := fwd_end h hc ht hk he
  have hl := cnt_le L (Y B k - 1)
  rw [he] at hj hl ⊢
  rw [leaveAt_fwd hc j (by omega), ← hj, f]
end

end Go.Proofs.Ytjjncpimelpfiaa

