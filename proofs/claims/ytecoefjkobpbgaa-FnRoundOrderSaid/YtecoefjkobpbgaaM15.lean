/- Plain mathematics of chapter 5 (ahead): there by the rule 2, areas, sums. -/
import Derived.Test.YtecoefjkobpbgaaM14
namespace Go.Proofs.Ytecoefjkobpbgaa
set_option linter.unusedVariables false
open Go.RowKit

/-- what is left of those who have come -/
def act (L : List (Int × Int)) (lf : List Int) (t : Nat) (i : Nat) : Int := if X L i ≤ t then Z lf i else 0
theorem Dom.congr {n : Nat} {a a' b b' : Nat → Int} (h : Dom n a b) (ha : ∀ i, i < n → a i = a' i) (hb : ∀ i, i < n → b i = b' i) : Dom n a' b' := by
  intro S
  obtain ⟨S', hc, hs⟩ := h S
  exact ⟨S', hc, by rw [← sOut_congr n ha, ← sOut_congr n hb]; exact hs⟩
theorem act_set {L : List (Int × Int)} {lf : List Int} {t q : Nat} (hq : q < lf.length) (hx : X L q ≤ t) : ∀ i, act L (lf.set q (Z lf q - 1)) t i = upd (act L lf t) q (act L lf t q - 1) i := by
  intro i
  by_cases e : i = q
  · subst e
    rw [upd_same]
    simp only [act, if_pos hx]
    rw [Z_set hq, if_pos rfl]
  · rw [upd_ne _ _ e]
    have h2 : Z (lf.set q (Z lf q - 1)) i = Z lf i := by rw [Z_set hq, if_neg (fun x => e x.symm)]
    simp only [act, h2]
theorem act_next {L : List (Int × Int)} {lf : List Int} {t : Nat} (h : ∀ k, k < L.length → ((t : Int) + 1) ≤ X L k → Z lf k = Y L k) : ∀ i, i < L.length → (if decide (X L i = (t : Int) + 1) = true then Y L i else act L lf t i) = act L lf (t + 1) i := by
  intro i hi
  by_cases e : X L i = (t : Int) + 1
  · rw [if_pos (decide_eq_true e)]
    unfold act
    rw [if_pos (by omega), h i hi (by omega)]
  · rw [if_neg (by simp [e])]
    unfold act
    by_cases h2 : X L i ≤ t
    · rw [if_pos h2, if_pos (by omega)]
    · rw [if_neg h2, if_neg (by omega)]
theorem dom_time {L : List (Int × Int)} (hc : cOk L = true) {o : List Int} {n : Nat} (ho : unitsOk L o n = true) : ∀ t, t ≤ n → Dom L.length (act L (ordL L 2 t) t) (act L (leftOf L o t) t) := by
  intro t
  induction t with
  | zero => intro _; exact Dom.refl _ _
  | succ t ih =>
    intro ht
    have D := ih (by omega)
    have inv := ordL_inv hc 2 t
    have inv2 := ordL_inv hc 2 (t + 1)
    have li := leftOf_inv hc ho t (by omega)
    have li2 := leftOf_inv hc ho (t + 1) ht
    have nn : ∀ {lf : List Int} {u : Nat}, (∀ k, k < L.length → 0 ≤ Z lf k ∧ Z lf k ≤ Y L k) → ∀ i, i < L.length → 0 ≤ act L lf u i := by
      intro lf u h i hi
      unfold act
      split
      · exact (h i hi).1
      · exact Int.le_refl _
    have ha := nn (u := t) inv.rng
    have hb' := nn (u := t) li2.rng
    have hbb : ∀ S, sOut (act L (leftOf L o t) t) S L.length ≤ sOut (act L (leftOf L o (t + 1)) t) S L.length + 1 := by
      intro S
      rcases unitOk_cases (unitsOk_at n ho t (by omega)) with e | ⟨q, e, hq, hx, hz⟩
      · have : leftOf L o (t + 1) = leftOf L o t := by simp [leftOf, stepL, e]
        rw [this]; omega
      · have e2 : leftOf L o (t + 1) = (leftOf L o t).set q (Z (leftOf L o t) q - 1) := by simp [leftOf, stepL, e]
        have hl := leftOf_len L o t
        have e3 : sOut (act L (leftOf L o (t + 1)) t) S L.length = sOut (upd (act L (leftOf L o t) t) q (act L (leftOf L o t) t q - 1)) S L.length := by
          rw [e2]; exact sOut_congr _ fun i _ => act_set (by omega) hx i
        rw [e3, sOut_upd]
        split <;> omega
    have D1 : Dom L.length (act L (ordL L 2 (t + 1)) t) (act L (leftOf L o (t + 1)) t) := by
      have eo : ordL L 2 (t + 1) = stepL (ordL L 2 t) (pick L (ordL L 2 t) t 2) := rfl
      rcases pickTo_ok L (ordL L 2 t) t 2 L.length with ⟨e, hk⟩ | ⟨p, e, hp, hpx, hpz⟩
      · have e1 : pick L (ordL L 2 t) t 2 = -1 := e
        rw [eo, e1]
        have e2 : stepL (ordL L 2 t) (-1) = ordL L 2 t := by simp [stepL]
        rw [e2]
        refine D.done (fun i hi => ?_) hb'
        unfold act
        rcases hk i hi with h | h
        · rw [if_neg (by omega)]
        · rw [h]; split <;> rfl
      · have e1 : pick L (ordL L 2 t) t 2 = p := e
        have hl := inv.len
        have e2 : stepL (ordL L 2 t) (p : Int) = (ordL L 2 t).set p (Z (ordL L 2 t) p - 1) := by simp [stepL]
        rw [eo, e1, e2]
        have few := pickTo_fewest L.length p e
        have hpa : act L (ordL L 2 t) t p = Z (ordL L 2 t) p := by unfold act; rw [if_pos hpx]
        have hr := inv.rng p hp
        have hs := Dom.serve D ha hb' hbb hp (by rw [hpa]; omega) (fun i hi hai => by
          rw [hpa]
          unfold act at hai ⊢
          split at hai
          · rename_i hx
            rw [if_pos hx]
            have := few i hi (fun hh => by rcases hh with h | h <;> omega)
            omega
          · omega)
        exact hs.congr (fun i _ => (act_set (by omega) hpx i).symm) (fun _ _ => rfl)
    have D2 := D1.come (y := Y L) (fun i => decide (X L i = (t : Int) + 1)) (fun i _ h => by
      have h := of_decide_eq_true h
      unfold act; rw [if_neg (by omega)]) (fun i _ h => by
      have h := of_decide_eq_true h
      unfold act; rw [if_neg (by omega)])
    refine D2.congr (act_next fun k hk hx => inv2.late k hk (by omega)) (act_next fun k hk hx => li2.late k hk (by omega))

/-- there in the unit t, of the first j -/
def thereN (L : List (Int × Int)) (o : List Int) (t : Int) : Nat → Int
  | 0 => 0
  | j + 1 => thereN L o t j + (if X L j ≤ t ∧ t < endTo o j o.length then 1 else 0)
theorem thereN_bd (L : List (Int × Int)) (o : List Int) (t : Int) : ∀ j, 0 ≤ thereN L o t j ∧ thereN L o t j ≤ j := by
  intro j
  induction j with
  | zero => simp [thereN]
  | succ j ih => simp only [thereN]; split <;> omega
theorem left_end {L : List (Int × Int)} {o : List Int} (h : ordOk L o = true) {k t : Nat} (hk : k < L.length) (ht : t ≤ o.length) : 0 < Z (leftOf L o t) k ↔ (t : Int) < endTo o k o.length := by
  obtain ⟨hc, _, hu, hn⟩ := ordOk_parts h
  constructor
  · intro hz
    refine Classical.byContradiction fun hne => ?_
    have e := leftOf_same hu (k := k) (a := t) o.length ht (Nat.le_refl _) (fun u h1 h2 e => by
      have := endTo_late (o := o) (k := k) o.length u h2 e
      omega)
    have := noneLeft_at _ hn k hk
    omega
  · exact fun he => end_left hc hu hk ht he
theorem thereN_pos {L : List (Int × Int)} {o : List Int} (h : ordOk L o = true) {t : Nat} (ht : t ≤ o.length) : ∀ j, j ≤ L.length → thereN L o t j = (posTo (act L (leftOf L o t) t) j : Int) := by
  intro j
  induction j with
  | zero => intro _; rfl
  | succ j ih =>
    intro hj
    have le := left_end h (k := j) (by omega) ht
    simp only [thereN, posTo, ih (by omega)]
    by_cases hx : X L j ≤ t
    · have ea : act L (leftOf L o t) t j = Z (leftOf L o t) j := if_pos hx
      rw [ea]
      by_cases hz : 0 < Z (leftOf L o t) j
      · rw [if_pos ⟨hx, le.1 hz⟩, if_pos hz]; omega
      · rw [if_neg (fun hh => hz (le.2 hh.2)), if_neg hz]; omega
    · have ea : act L (leftOf L o t) t j = 0 := if_neg hx
      rw [ea, if_neg (fun hh => hx hh.1), if_neg (by omega)]; omega
theorem thereN_late {L : List (Int × Int)} {o : List Int} {t : Nat} (ht : o.length ≤ t) : ∀ j, thereN L o t j = 0 := by
  intro j
  induction j with
  | zero => rfl
  | succ j ih =>
    have := (endTo_le o j o.length).2
    simp only [thereN, ih]
    rw [if_neg (by omega)]; omega
/-- BY THE LEAST LEFT NOBODY MORE IS THERE -/
theorem there_least {L : List (Int × Int)} {o : List Int} (h : ordOk L o = true) {T : Nat} (hT : lastLeave L = T) (t : Nat) : thereN L (orderTo L 2 T) t L.length ≤ thereN L o t L.length := by
  obtain ⟨hc, _, hu, _⟩ := ordOk_parts h
  have hl := ordOk_late h
  by_cases ht : t < T
  · have hR := orderTo_ok hc 2 hT
    have D := dom_time hc hu t (by omega)
    rw [thereN_pos hR (by rw [orderTo_len]; omega) _ (Nat.le_refl _), thereN_pos h (by omega) _ (Nat.le_refl _), leftOf_orderTo L 2 T t (by omega)]
    have li := leftOf_inv hc hu t (by omega)
    have inv := ordL_inv hc 2 t
    have := D.many (fun i hi => by unfold act; split; exact (inv.rng i hi).1; exact Int.le_refl _) (fun i hi => by unfold act; split; exact (li.rng i hi).1; exact Int.le_refl _)
    omega
  · rw [thereN_late (by rw [orderTo_len]; omega)]
    exact (thereN_bd L o t _).1

/-- how long those are there, added, of the first k -/
def tmTo (L : List (Int × Int)) (o : List Int) : Nat → Int
  | 0 => 0
  | k + 1 => tmTo L o k + (endTo o k o.length - X L k)
/-- there, added over the first m units, of the first j -/
def areaTo (L : List (Int × Int)) (o : List Int) (j : Nat) : Nat → Int
  | 0 => 0
  | m + 1 => areaTo L o j m + thereN L o m j
theorem areaTo_zero (L : List (Int × Int)) (o : List Int) : ∀ m, areaTo L o 0 m = 0 := by
  intro m; induction m with | zero => rfl | succ m ih => simp [areaTo, ih, thereN]
/-- the units of one -/
def unitsOne (x e : Int) : Nat → Int
  | 0 => 0
  | m + 1 => unitsOne x e m + (if x ≤ m ∧ (m : Int) < e then 1 else 0)
theorem unitsOne_eq {x e : Int} (hx : 0 ≤ x) : ∀ m : Nat, unitsOne x e m = max 0 (min (m : Int) e - x) := by
  intro m
  induction m with
  | zero => simp only [unitsOne]; omega
  | succ m ih => simp only [unitsOne, ih]; split <;> omega
theorem areaTo_succ (L : List (Int × Int)) (o : List Int) (j : Nat) : ∀ m, areaTo L o (j + 1) m = areaTo L o j m + unitsOne (X L j) (endTo o j o.length) m := by
  intro m
  induction m with
  | zero => rfl
  | succ m ih => simp only [areaTo, ih, thereN, unitsOne]; omega
/-- AREAS ARE SUMS OF TIMES -/
theorem area_sum {L : List (Int × Int)} {o : List Int} (h : ordOk L o = true) {m : Nat} (hm : o.length ≤ m) : ∀ j, j ≤ L.length → areaTo L o j m = tmTo L o j := by
  have hc := (ordOk_parts h).1
  intro j
  induction j with
  | zero => intro _; rw [areaTo_zero]; rfl
  | succ j ih =>
    intro hj
    have bd := cOk_bd hc (k := j) (by omega)
    have nd := ends_need h (k := j) (by omega)
    have le := (endTo_le o j o.length).2
    rw [areaTo_succ, ih (by omega), unitsOne_eq bd.1]
    simp only [tmTo]; omega
theorem areaTo_mono {L : List (Int × Int)} {o o' : List Int} {j : Nat} (h : ∀ t : Nat, thereN L o t j ≤ thereN L o' t j) : ∀ m, areaTo L o j m ≤ areaTo L o' j m := by
  intro m
  induction m with
  | zero => exact Int.le_refl _
  | succ m ih => have := h m; simp only [areaTo]; omega
/-- NO ORDER HAS A LESSER SUM -/
theorem sum_least {L : List (Int × Int)} {o : List Int} (h : ordOk L o = true) {T : Nat} (hT : lastLeave L = T) : tmTo L (orderTo L 2 T) L.length ≤ tmTo L o L.length := by
  have hc := (ordOk_parts h).1
  have hR := orderTo_ok hc 2 hT
  have hl := ordOk_late h
  rw [← area_sum hR (m := o.length) (by rw [orderTo_len]; omega) _ (Nat.le_refl _), ← area_sum h (Nat.le_refl _) _ (Nat.le_refl _)]
  exact areaTo_mono (there_least h hT) _
theorem tmTo_need {L : List (Int × Int)} {o : List Int} (h : ordOk L o = true) : ∀ j, j ≤ L.length → sumTo L j ≤ tmTo L o j := by
  intro j
  induction j with
  | zero => intro _; exact Int.le_refl _
  | succ j ih =>
    intro hj
    have := ends_need h (k := j) (by omega)
    have := ih (by omega)
    simp only [sumTo, tmTo]; omega
theorem tmTo_bd {L : List (Int × Int)} {o : List Int} (h : ordOk L o = true) : ∀ j, j ≤ L.length → 0 ≤ tmTo L o j ∧ tmTo L o j ≤ 200 * j := by
  obtain ⟨hc, hl, _, _⟩ := ordOk_parts h
  intro j
  induction j with
  | zero => intro _; simp [tmTo]
  | succ j ih =>
    intro hj
    have bd := cOk_bd hc (k := j) (by omega)
    have := ends_need h (k := j) (by omega)
    have := (endTo_le o j o.length).2
    have := ih (by omega)
    simp only [tmTo]; omega

end Go.Proofs.Ytecoefjkobpbgaa

