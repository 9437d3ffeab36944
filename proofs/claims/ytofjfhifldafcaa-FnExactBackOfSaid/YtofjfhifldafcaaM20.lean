/- Plain mathematics of chapter 7, second part (ahead): the order by ratios, and the least sum of all orders. -/
import Derived.Test.YtofjfhifldafcaaM19
namespace Go.Proofs.Ytofjfhifldafcaa
set_option linter.unusedVariables false
open Go.RowKit

def tOkTo (L : List (Int × Int)) : Nat → Bool
  | 0 => true
  | k + 1 => tOkTo L k && decide ((1 ≤ X L k ∧ X L k ≤ 9) ∧ 0 ≤ Y L k ∧ Y L k ≤ 9)
def tOk (L : List (Int × Int)) : Bool := tOkTo L L.length && decide (1 ≤ (L.length : Int) ∧ (L.length : Int) ≤ 6)
theorem tOkTo_iff {L : List (Int × Int)} : ∀ {k}, tOkTo L k = true ↔ ∀ i, i < k → (1 ≤ X L i ∧ X L i ≤ 9) ∧ 0 ≤ Y L i ∧ Y L i ≤ 9 := by
  intro k
  induction k with
  | zero => simp [tOkTo]
  | succ k ih =>
    simp only [tOkTo, Bool.and_eq_true, ih, decide_eq_true_eq]
    constructor
    · rintro ⟨h1, h2⟩ i hi
      by_cases e : i = k
      · subst e; exact h2
      · exact h1 i (by omega)
    · intro h; exact ⟨fun i hi => h i (by omega), h k (by omega)⟩
theorem tOk_parts {L : List (Int × Int)} (h : tOk L = true) : (∀ i, i < L.length → (1 ≤ X L i ∧ X L i ≤ 9) ∧ 0 ≤ Y L i ∧ Y L i ≤ 9) ∧ 1 ≤ L.length ∧ L.length ≤ 6 := by
  simp only [tOk, Bool.and_eq_true, decide_eq_true_eq, tOkTo_iff] at h
  exact ⟨h.1, by omega, by omega⟩
theorem tOk_at {L : List (Int × Int)} (h : tOk L = true) {v : Int} (hv : 0 ≤ v ∧ v ≤ (L.length : Int) - 1) : (1 ≤ nd L v ∧ nd L v ≤ 9) ∧ 0 ≤ wt L v ∧ wt L v ≤ 9 := (tOk_parts h).1 v.toNat (by omega)

/-! the sum as it is added up -/
def tmW (L : List (Int × Int)) (o : List Int) : Nat → Int
  | 0 => 0
  | k + 1 => tmW L o k + nd L (Z o k)
def wsW (L : List (Int × Int)) (o : List Int) : Nat → Int
  | 0 => 0
  | k + 1 => wsW L o k + tmW L o (k + 1) * wt L (Z o k)
theorem wsW_take (L : List (Int × Int)) (o : List Int) : ∀ k, k ≤ o.length → tmW L o k = sumL (nd L) (o.take k) ∧ wsW L o k = wl L 0 (o.take k) := by
  intro k
  induction k with
  | zero => intro _; simp [tmW, wsW, sumL, wl]
  | succ k ih =>
    intro hk
    obtain ⟨i1, i2⟩ := ih (by omega)
    have e : o.take (k + 1) = o.take k ++ [Z o k] := by rw [Z_get (by omega), List.take_append_getElem]
    rw [e, sumL_append, wl_append]
    simp only [tmW, wsW, sumL, wl, i1, i2]
    constructor
    · omega
    · rw [Int.zero_add]; omega
theorem wsW_all (L : List (Int × Int)) (o : List Int) : wsW L o o.length = wl L 0 o := by
  have := (wsW_take L o o.length (Nat.le_refl _)).2
  rwa [List.take_length] at this
theorem each_Z {o : List Int} {n : Int} (h : eachV o n = true) {k : Nat} (hk : k < o.length) : 0 ≤ Z o k ∧ Z o k ≤ n - 1 := by
  rw [Z_get hk]; exact (each_iff.1 h).2.2.1 _ (List.getElem_mem hk)
theorem wsW_bd {L : List (Int × Int)} {o : List Int} (ht : tOk L = true) (h : eachV o L.length = true) : ∀ k, k ≤ o.length → (0 ≤ tmW L o k ∧ tmW L o k ≤ 9 * k) ∧ 0 ≤ wsW L o k ∧ wsW L o k ≤ 486 * k := by
  have hl := (each_iff.1 h).2.1
  have h6 := tOk_parts ht
  intro k
  induction k with
  | zero => intro _; simp [tmW, wsW]
  | succ k ih =>
    intro hk
    obtain ⟨⟨i1, i2⟩, i3, i4⟩ := ih (by omega)
    obtain ⟨⟨b1, b2⟩, b3, b4⟩ := tOk_at ht (each_Z h (k := k) (by omega))
    have m1 : 0 ≤ tmW L o (k + 1) * wt L (Z o k) := Int.mul_nonneg (by simp only [tmW]; omega) b3
    have m2 : tmW L o (k + 1) * wt L (Z o k) ≤ 54 * 9 := Int.mul_le_mul (by simp only [tmW]; omega) b4 b3 (by omega)
    simp only [wsW]
    refine ⟨⟨?_, ?_⟩, by omega, by omega⟩
    · simp only [tmW]; omega
    · simp only [tmW]; omega
def wsumV (L : List (Int × Int)) (o : List Int) : Int := if tOk L = true ∧ eachV o L.length = true then wsW L o o.length else -1
theorem wsumV_yes {L : List (Int × Int)} {o : List Int} (ht : tOk L = true) (h : eachV o L.length = true) : wsumV L o = wsW L o o.length := if_pos ⟨ht, h⟩
theorem wsumV_no {L : List (Int × Int)} {o : List Int} (h : ¬ (tOk L = true ∧ eachV o L.length = true)) : wsumV L o = -1 := if_neg h

/-! by ratios -/
def posTo (L : List (Int × Int)) (o : List Int) (k : Int) : Nat → Nat
  | 0 => 0
  | a + 1 => if nd L k * wt L (Z o a) < nd L (Z o a) * wt L k then posTo L o k a else a + 1
theorem posTo_le (L : List (Int × Int)) (o : List Int) (k : Int) : ∀ a, posTo L o k a ≤ a := by
  intro a
  induction a with
  | zero => exact Nat.le_refl _
  | succ a ih => simp only [posTo]; split <;> omega
theorem posTo_behind (L : List (Int × Int)) (o : List Int) (k : Int) : ∀ a i, posTo L o k a ≤ i → i < a → nd L k * wt L (Z o i) < nd L (Z o i) * wt L k := by
  intro a
  induction a with
  | zero => intro i _ h; omega
  | succ a ih =>
    intro i h1 h2
    simp only [posTo] at h1
    split at h1
    · rename_i hc
      by_cases e : i = a
      · subst e; exact hc
      · exact ih i h1 (by omega)
    · omega
theorem posTo_at (L : List (Int × Int)) (o : List Int) (k : Int) : ∀ a p, posTo L o k a = p + 1 → nd L (Z o p) * wt L k ≤ nd L k * wt L (Z o p) := by
  intro a
  induction a with
  | zero => intro p h; simp [posTo] at h
  | succ a ih =>
    intro p h
    simp only [posTo] at h
    split at h
    · exact ih p h
    · rename_i hc
      have : p = a := by omega
      subst this; omega
def insR (L : List (Int × Int)) (o : List Int) (k : Int) : List Int := o.take (posTo L o k o.length) ++ k :: o.drop (posTo L o k o.length)
def byR (L : List (Int × Int)) : Nat → List Int
  | 0 => []
  | k + 1 => insR L (byR L k) k
theorem insR_perm (L : List (Int × Int)) (o : List Int) (k : Int) : (insR L o k).Perm (k :: o) := by
  have := List.perm_middle (a := k) (l₁ := o.take (posTo L o k o.length)) (l₂ := o.drop (posTo L o k o.length))
  rwa [List.take_append_drop] at this
theorem byR_perm (L : List (Int × Int)) : ∀ k, (byR L k).Perm (upto k) := by
  intro k
  induction k with
  | zero => exact List.Perm.refl _
  | succ k ih =>
    refine (insR_perm L _ _).trans ((List.Perm.cons _ ih).trans ?_)
    have e : upto (k + 1) = upto k ++ [(k : Int)] := by simp [upto, List.range_succ]
    rw [e]
    exact (List.perm_append_singleton _ _).symm
theorem byR_len (L : List (Int × Int)) (k : Nat) : (byR L k).length = k := by rw [(byR_perm L k).length_eq, upto_len]
theorem ratio_trans {L : List (Int × Int)} {a b c : Int} (hb : 1 ≤ nd L b) (ha : 1 ≤ nd L a) (hc : 1 ≤ nd L c) (h1 : nd L a * wt L b ≤ nd L b * wt L a) (h2 : nd L b * wt L c ≤ nd L c * wt L b) : nd L a * wt L c ≤ nd L c * wt L a := by
  have e1 := Int.mul_le_mul_of_nonneg_left h2 (show 0 ≤ nd L a by omega)
  have e2 := Int.mul_le_mul_of_nonneg_left h1 (show 0 ≤ nd L c by omega)
  have e3 : nd L b * (nd L a * wt L c) ≤ nd L b * (nd L c * wt L a) := by
    have x1 : nd L b * (nd L a * wt L c) = nd L a * (nd L b * wt L c) := Int.mul_left_comm _ _ _
    have x2 : nd L b * (nd L c * wt L a) = nd L c * (nd L b * wt L a) := Int.mul_left_comm _ _ _
    have x3 : nd L a * (nd L c * wt L b) = nd L c * (nd L a * wt L b) := Int.mul_left_comm _ _ _
    omega
  exact Int.le_of_mul_le_mul_left e3 (by omega)
theorem byR_ratio {L : List (Int × Int)} (h : tOk L = true) : ∀ k, k ≤ L.length → ratioL L (byR L k) := by
  intro k
  induction k with
  | zero => intro _; exact List.Pairwise.nil
  | succ k ih =>
    intro hk
    have i := ih (by omega)
    have hm : ∀ v, v ∈ byR L k → 1 ≤ nd L v := fun v hv => by
      have := mem_upto.1 ((byR_perm L k).mem_iff.1 hv)
      exact (tOk_at h (by omega)).1.1
    have hkk : 1 ≤ nd L (k : Int) := (tOk_at h (by omega)).1.1
    show ratioL L (insR L (byR L k) k)
    have hb := posTo_behind L (byR L k) k (byR L k).length
    have hp := posTo_at L (byR L k) k (byR L k).length
    have hl := posTo_le L (byR L k) k (byR L k).length
    unfold insR
    generalize posTo L (byR L k) k (byR L k).length = p at *
    have e : byR L k = (byR L k).take p ++ (byR L k).drop p := (List.take_append_drop _ _).symm
    have i' := i
    rw [e] at i'
    obtain ⟨a1, a2, a3⟩ := List.pairwise_append.1 i'
    refine List.pairwise_append.2 ⟨a1, List.pairwise_cons.2 ⟨fun v hv => ?_, a2⟩, fun a ha b hbm => ?_⟩
    · obtain ⟨j, hj, rfl⟩ := List.getElem_of_mem hv
      rw [List.length_drop] at hj
      rw [List.getElem_drop]
      have := hb (p + j) (by omega) (by omega)
      rw [Z_get (by omega)] at this
      omega
    · rcases List.mem_cons.1 hbm with rfl | hbm
      · obtain ⟨j, hj, rfl⟩ := List.getElem_of_mem ha
        rw [List.length_take] at hj
        rw [List.getElem_take]
        have hq := hp (p - 1) (by omega)
        rw [Z_get (by omega)] at hq
        by_cases ej : j = p - 1
        · subst ej; exact hq
        · have hr := List.pairwise_iff_getElem.1 i j (p - 1) (by omega) (by omega) (by omega)
          exact ratio_trans (hm _ (List.getElem_mem _)) (hm _ (List.getElem_mem _)) hkk hr hq
      · exact a3 a ha b hbm
theorem byR_each {L : List (Int × Int)} (h : tOk L = true) : eachV (byR L L.length) L.length = true := by
  have hl := (tOk_parts h).2
  have hn : (upto L.length).Nodup := by
    refine List.pairwise_iff_getElem.2 (fun i j hi hj hij => ?_)
    simp only [upto, List.getElem_map, List.getElem_range]; omega
  exact each_of_perm (each_iff.2 ⟨by omega, by rw [upto_len], fun v hv => by have := mem_upto.1 hv; omega, hn⟩) (byR_perm L _).symm
theorem byR_least {L : List (Int × Int)} (h : tOk L = true) {p : List Int} (hp : eachV p L.length = true) : wl L 0 (byR L L.length) ≤ wl L 0 p :=
  ratio_least L (byR_ratio h _ (Nat.le_refl _)) (each_two (byR_each h) hp)

/-! the least of all orders that go on an order -/
def hasN (o : List Int) (k : Int) : Nat → Bool
  | 0 => false
  | j + 1 => hasN o k j || decide (Z o j = k)
theorem hasN_iff {o : List Int} {k : Int} : ∀ {j}, hasN o k j = true ↔ ∃ i, i < j ∧ Z o i = k := by
  intro j
  induction j with
  | zero => simp [hasN]
  | succ j ih =>
    simp only [hasN, Bool.or_eq_true, ih, decide_eq_true_eq]
    constructor
    · rintro (⟨i, h1, h2⟩ | h)
      · exact ⟨i, by omega, h2⟩
      · exact ⟨j, by omega, h⟩
    · rintro ⟨i, h1, h2⟩
      by_cases e : i = j
      · subst e; exact Or.inr h2
      · exact Or.inl ⟨i, by omega, h2⟩
theorem hasN_mem {o : List Int} {k : Int} : hasN o k o.length = true ↔ k ∈ o := by
  rw [hasN_iff]
  constructor
  · rintro ⟨i, h1, h2⟩; rw [Z_get h1] at h2; exact h2 ▸ List.getElem_mem h1
  · intro h; obtain ⟨i, hi, e⟩ := List.getElem_of_mem h; exact ⟨i, hi, by rw [Z_get hi]; exact e⟩
def minTo (f : Nat → Int) (s : Nat → Bool) : Nat → Int
  | 0 => -1
  | k + 1 => if s k = true then minTo f s k else if minTo f s k < 0 ∨ f k < minTo f s k then f k else minTo f s k
theorem minTo_spec {f : Nat → Int} {s : Nat → Bool} : ∀ {n}, (∀ k, k < n → s k = false → 0 ≤ f k) →
    ((minTo f s n = -1 ∧ ∀ k, k < n → s k = true) ∨ ∃ k, k < n ∧ s k = false ∧ minTo f s n = f k ∧ ∀ j, j < n → s j = false → f k ≤ f j) := by
  intro n
  induction n with
  | zero => intro _; exact Or.inl ⟨rfl, fun k hk => by omega⟩
  | succ n ih =>
    intro h
    have i := ih (fun k hk => h k (by omega))
    by_cases hs : s n = true
    · rw [minTo, if_pos hs]
      rcases i with ⟨a, b⟩ | ⟨k, a, b, c, d⟩
      · refine Or.inl ⟨a, fun k hk => ?_⟩
        by_cases e : k = n
        · subst e; exact hs
        · exact b k (by omega)
      · refine Or.inr ⟨k, by omega, b, c, fun j hj hjs => ?_⟩
        by_cases e : j = n
        · subst e; rw [hs] at hjs; cases hjs
        · exact d j (by omega) hjs
    · have hs' : s n = false := by simpa using hs
      have hf := h n (by omega) hs'
      rw [minTo, if_neg hs]
      refine Or.inr ?_
      rcases i with ⟨a, b⟩ | ⟨k, a, b, c, d⟩
      · rw [if_pos (Or.inl (by omega))]
        refine ⟨n, by omega, hs', rfl, fun j hj hjs => ?_⟩
        by_cases e : j = n
        · subst e; exact Int.le_refl _
        · rw [b j (by omega)] at hjs; cases hjs
      · have hk := h k (by omega) b
        by_cases hc : f n < minTo f s n
        · rw [if_pos (Or.inr hc)]
          refine ⟨n, by omega, hs', rfl, fun j hj hjs => ?_⟩
          by_cases e : j = n
          · subst e; exact Int.le_refl _
          · have := d j (by omega) hjs; omega
        · rw [if_neg (by omega)]
          refine ⟨k, by omega, b, c, fun j hj hjs => ?_⟩
          by_cases e : j = n
          · subst e; omega
          · exact d j (by omega) hjs
def bestF (L : List (Int × Int)) : Nat → List Int → Int
  | 0, o => wl L 0 o
  | m + 1, o => minTo (fun k => bestF L m (o ++ [(k : Int)])) (fun k => hasN o k o.length) L.length
theorem best_spec {L : List (Int × Int)} (ht : tOk L = true) : ∀ m o, o.length + m = L.length → o.Nodup → (∀ v, v ∈ o → 0 ≤ v ∧ v ≤ (L.length : Int) - 1) →
    (∃ p, eachV p L.length = true ∧ o <+: p ∧ bestF L m o = wl L 0 p) ∧ ∀ p, eachV p L.length = true → o <+: p → bestF L m o ≤ wl L 0 p := by
  have hl := (tOk_parts ht).2
  intro m
  induction m with
  | zero =>
    intro o h1 h2 h3
    refine ⟨⟨o, each_iff.2 ⟨by omega, by omega, h3, h2⟩, List.prefix_refl _, rfl⟩, fun p hp hpre => ?_⟩
    have := (each_iff.1 hp).2.1
    rw [hpre.eq_of_length (by omega)]
    exact Int.le_refl _
  | succ m ih =>
    intro o h1 h2 h3
    have hnew : ∀ k : Nat, k < L.length → hasN o k o.length = false → (o ++ [(k : Int)]).length + m = L.length ∧ (o ++ [(k : Int)]).Nodup ∧ (∀ v, v ∈ o ++ [(k : Int)] → 0 ≤ v ∧ v ≤ (L.length : Int) - 1) := by
      intro k hk hs
      have hn : (k : Int) ∉ o := fun h => by rw [hasN_mem.2 h] at hs; cases hs
      refine ⟨by simp; omega, ?_, fun v hv => ?_⟩
      · refine List.nodup_append.2 ⟨h2, by simp, fun a ha b hb => ?_⟩
        simp at hb; subst hb
        intro e; exact hn (e ▸ ha)
      · rcases List.mem_append.1 hv with hv | hv
        · exact h3 v hv
        · simp at hv; subst hv; omega
    have hpos : ∀ k, k < L.length → hasN o k o.length = false → 0 ≤ bestF L m (o ++ [(k : Int)]) := by
      intro k hk hs
      obtain ⟨a, b, c⟩ := hnew k hk hs
      obtain ⟨p, hp, _, e⟩ := (ih _ a b c).1
      rw [e, ← wsW_all]; exact (wsW_bd ht hp _ (Nat.le_refl _)).2.1
    rcases minTo_spec (f := fun k => bestF L m (o ++ [(k : Int)])) (s := fun k => hasN o k o.length) hpos with ⟨_, hall⟩ | ⟨k, hk, hs, he, hle⟩
    · exfalso
      have hn : (upto L.length).Nodup := by
        refine List.pairwise_iff_getElem.2 (fun i j hi hj hij => ?_)
        simp only [upto, List.getElem_map, List.getElem_range]; omega
      have := (perm_of_all (q := o) hn (fun v hv => by
        have b := mem_upto.1 hv
        have c := hall v.toNat (by omega)
        rw [show ((v.toNat : Nat) : Int) = v by omega] at c
        exact hasN_mem.1 c) (by rw [upto_len]; omega)).length_eq
      rw [upto_len] at this; omega
    · obtain ⟨a, b, c⟩ := hnew k hk hs
      obtain ⟨p, hp, hpre, e⟩ := (ih _ a b c).1
      refine ⟨⟨p, hp, (List.prefix_append _ _).trans hpre, he.trans e⟩, fun q hq hpq => ?_⟩
      obtain ⟨r, rfl⟩ := hpq
      have hq' := each_iff.1 hq
      cases r with
      | nil => simp at hq'; omega
      | cons v r =>
        have hv := hq'.2.2.1 v (by simp)
        have hnd := List.nodup_append.1 hq'.2.2.2
        have hvo : v ∉ o := fun h => hnd.2.2 v h v (by simp) rfl
        have hvs : hasN o ((v.toNat : Nat) : Int) o.length = false := by
          rw [show ((v.toNat : Nat) : Int) = v by omega]
          cases hh : hasN o v o.length with
          | false => rfl
          | true => exact absurd (hasN_mem.1 hh) hvo
        have x1 := hle v.toNat (by omega) hvs
        obtain ⟨a', b', c'⟩ := hnew v.toNat (by omega) hvs
        have x2 := (ih _ a' b' c').2 (o ++ v :: r) hq ⟨r, by rw [show ((v.toNat : Nat) : Int) = v by omega]; simp⟩
        have he' : bestF L (m + 1) o = bestF L m (o ++ [(k : Int)]) := he
        rw [he']; exact Int.le_trans x1 x2
def leastW (L : List (Int × Int)) : Int := if tOk L = true then bestF L L.length [] else -1
theorem leastW_no {L : List (Int × Int)} (h : tOk L = false) : leastW L = -1 := by simp [leastW, h]
theorem leastW_yes {L : List (Int × Int)} (h : tOk L = true) : leastW L = bestF L L.length [] := if_pos h
/-- BY RATIOS THE SUM IS LEAST -/
theorem leastW_ratio {L : List (Int × Int)} (h : tOk L = true) : leastW L = wsumV L (byR L L.length) := by
  obtain ⟨⟨p, hp, _, e⟩, hle⟩ := best_spec h L.length [] (by simp) (by simp) (by simp)
  have x1 := hle _ (byR_each h) (List.nil_prefix)
  have x2 := byR_least h hp
  rw [leastW_yes h, wsumV_yes h (byR_each h), wsW_all]; omega
theorem leastW_le {L : List (Int × Int)} (h : tOk L = true) {o : List Int} (ho : eachV o L.length = true) : leastW L ≤ wsumV L o := by
  rw [leastW_ratio h, wsumV_yes h (byR_each h), wsumV_yes h ho, wsW_all, wsW_all]; exact byR_least h ho

end Go.Proofs.Ytofjfhifldafcaa

