/- Last come: periods from a customer on, and that by the rule 1 each is there as long. -/
import Derived.Test.YtmimcgjobgfgfaaM10
namespace Go.Proofs.Ytmimcgjobgfgfaa
set_option linter.unusedVariables false
open Go.RowKit

/-- when the period from a would end, if only those up to a + m came -/
def perTo (L : List (Int × Int)) (a : Nat) : Nat → Int
  | 0 => X L a + Y L a
  | m + 1 => if X L (a + 1 + m) < perTo L a m then perTo L a m + Y L (a + 1 + m) else perTo L a m
def perE (L : List (Int × Int)) (a : Nat) : Int := perTo L a (L.length - (a + 1))
theorem perTo_spec {L : List (Int × Int)} (hc : cOk L = true) (a : Nat) : ∀ m, a + 1 + m ≤ L.length → ∃ p, a < p ∧ p ≤ a + 1 + m ∧ perTo L a m = X L a + (sumTo L p - sumTo L a) ∧
    (∀ q, a < q → q < p → X L q < X L a + (sumTo L q - sumTo L a)) ∧ (p < a + 1 + m → perTo L a m ≤ X L p) := by
  intro m
  induction m with
  | zero => intro _; exact ⟨a + 1, by omega, by omega, by simp only [perTo, sumTo]; omega, fun q h1 h2 => by omega, fun h => by omega⟩
  | succ m ih =>
    intro hm
    obtain ⟨p, h1, h2, h3, h4, h5⟩ := ih (by omega)
    simp only [perTo]
    by_cases hx : X L (a + 1 + m) < perTo L a m
    · rw [if_pos hx]
      have hp : p = a + 1 + m := by
        refine Classical.byContradiction fun hne => ?_
        have hlt : p < a + 1 + m := by omega
        have := h5 hlt
        have mo := cOk_mono hc (i := p) (j := a + 1 + m) (by omega) (by omega)
        omega
      subst hp
      refine ⟨a + 1 + m + 1, by omega, by omega, ?_, fun q q1 q2 => ?_, fun h => by omega⟩
      · simp only [sumTo]; omega
      · by_cases e : q = a + 1 + m
        · subst e; omega
        · exact h4 q q1 (by omega)
    · rw [if_neg hx]
      refine ⟨p, h1, by omega, h3, h4, fun h => ?_⟩
      by_cases e : p = a + 1 + m
      · subst e; omega
      · exact h5 (by omega)
theorem perE_spec {L : List (Int × Int)} (hc : cOk L = true) {a : Nat} (ha : a < L.length) : ∃ p, a < p ∧ p ≤ L.length ∧ perE L a = X L a + (sumTo L p - sumTo L a) ∧
    (∀ q, a < q → q < p → X L q < X L a + (sumTo L q - sumTo L a)) ∧ (p < L.length → perE L a ≤ X L p) := by
  obtain ⟨p, h1, h2, h3, h4, h5⟩ := perTo_spec hc a (L.length - (a + 1)) (by omega)
  exact ⟨p, h1, by omega, h3, h4, fun h => h5 (by omega)⟩
theorem sumTo_mono {L : List (Int × Int)} (hc : cOk L = true) {i j : Nat} (hij : i ≤ j) (hj : j ≤ L.length) : sumTo L i ≤ sumTo L j := by
  obtain ⟨d, rfl⟩ : ∃ d, j = i + d := ⟨j - i, by omega⟩
  clear hij
  induction d with
  | zero => exact Int.le_refl _
  | succ d ih =>
    have := ih (by omega)
    have b := cOk_bd hc (k := i + d) (by omega)
    show sumTo L i ≤ sumTo L (i + d) + Y L (i + d)
    omega
theorem perE_bd {L : List (Int × Int)} (hc : cOk L = true) {a : Nat} (ha : a < L.length) : X L a + Y L a ≤ perE L a ∧ perE L a ≤ 132 := by
  obtain ⟨p, h1, h2, h3, h4, h5⟩ := perE_spec hc ha
  have m := sumTo_mono hc (i := a + 1) (j := p) (by omega) h2
  have b := sumTo_le hc h2
  have c := sumTo_le hc (j := a) (by omega)
  have d := cOk_bd hc ha
  simp only [sumTo] at m
  omega
/-- who has come before a time within the period needs more than has been served -/
theorem perE_work {L : List (Int × Int)} (hc : cOk L = true) {a : Nat} (ha : a < L.length) {t : Int} (h1 : X L a < t) (h2 : t ≤ perE L a) :
    t - X L a ≤ sumTo L (cnt L (t - 1)) - sumTo L a ∧ (sumTo L (cnt L (t - 1)) - sumTo L a = t - X L a → t = perE L a) := by
  obtain ⟨p, p1, p2, p3, p4, p5⟩ := perE_spec hc ha
  have hca : a < cnt L (t - 1) := (lt_cnt hc ha).2 (by omega)
  have hcl := cnt_le L (t - 1)
  rcases Nat.lt_or_ge (cnt L (t - 1)) p with hlt | hge
  · have hx := p4 _ hca hlt
    have hn : ¬ X L (cnt L (t - 1)) ≤ t - 1 := fun h => by
      have := (lt_cnt hc (t := t - 1) (j := cnt L (t - 1)) (by omega)).2 h
      omega
    omega
  · have := sumTo_mono hc hge hcl
    omega
theorem perE_all {L : List (Int × Int)} (hc : cOk L = true) {a : Nat} (ha : a < L.length) : sumTo L (cnt L (perE L a - 1)) - sumTo L a = perE L a - X L a := by
  obtain ⟨p, p1, p2, p3, p4, p5⟩ := perE_spec hc ha
  have b := perE_bd hc ha
  have d := cOk_bd hc ha
  have e : cnt L (perE L a - 1) = p := by
    refine Nat.le_antisymm ?_ ?_
    · refine Nat.le_of_not_lt fun h => ?_
      have hcl := cnt_le L (perE L a - 1)
      have := (lt_cnt hc (t := perE L a - 1) (j := p) (by omega)).1 h
      have := p5 (by omega)
      omega
    · have hq : ∀ q, a ≤ q → q < p → q < cnt L (perE L a - 1) := fun q q1 q2 => by
        refine (lt_cnt hc (by omega)).2 ?_
        by_cases e : q = a
        · subst e; omega
        · have := p4 q (by omega) q2
          have m := sumTo_mono hc (i := q + 1) (j := p) (by omega) p2
          have bq := cOk_bd hc (k := q) (by omega)
          simp only [sumTo] at m
          omega
      have := hq (p - 1) (by omega) (by omega)
      omega
  rw [e]; omega

/-- the first j numbers added -/
def zTo (lf : List Int) : Nat → Int
  | 0 => 0
  | j + 1 => zTo lf j + Z lf j
theorem zTo_set {lf : List Int} {p : Nat} {v : Int} (hp : p < lf.length) : ∀ j, zTo (lf.set p v) j = zTo lf j + (if p < j then v - Z lf p else 0) := by
  intro j
  induction j with
  | zero => simp [zTo]
  | succ j ih =>
    simp only [zTo, ih, Z_set hp]
    by_cases e : p = j
    · subst e; rw [if_pos rfl, if_neg (by omega), if_pos (by omega)]; omega
    · by_cases h : p < j
      · rw [if_neg e, if_pos h, if_pos (by omega)]; omega
      · rw [if_neg e, if_neg h, if_neg (by omega)]; omega
theorem zTo_same {L : List (Int × Int)} {lf : List Int} {a : Nat} : ∀ d, (∀ i, a ≤ i → i < a + d → Z lf i = Y L i) → zTo lf (a + d) - zTo lf a = sumTo L (a + d) - sumTo L a := by
  intro d
  induction d with
  | zero => intro _; simp
  | succ d ih =>
    intro h
    have := ih fun i h1 h2 => h i h1 (by omega)
    have e := h (a + d) (by omega) (by omega)
    show zTo lf (a + d) + Z lf (a + d) - zTo lf a = sumTo L (a + d) + Y L (a + d) - sumTo L a
    omega
theorem zTo_none {lf : List Int} {a : Nat} : ∀ d, (∀ i, a ≤ i → i < a + d → Z lf i = 0) → zTo lf (a + d) - zTo lf a = 0 := by
  intro d
  induction d with
  | zero => intro _; simp
  | succ d ih =>
    intro h
    have := ih fun i h1 h2 => h i h1 (by omega)
    have e := h (a + d) (by omega) (by omega)
    show zTo lf (a + d) + Z lf (a + d) - zTo lf a = 0
    omega
/-- nothing is left of those who have come, everything of the others: then as much is left as the others need -/
theorem zTo_split {L : List (Int × Int)} (hc : cOk L = true) {lf : List Int} {a : Nat} {t : Int} (ha : a < L.length) (hx : X L a ≤ t) (h1 : ∀ i, a ≤ i → i < L.length → X L i ≤ t → Z lf i = 0) (h2 : ∀ i, a ≤ i → i < L.length → t < X L i → Z lf i = Y L i) :
    zTo lf L.length - zTo lf a = sumTo L L.length - sumTo L (cnt L t) := by
  have hca : a < cnt L t := (lt_cnt hc ha).2 hx
  have hcl := cnt_le L t
  have n := zTo_none (lf := lf) (a := a) (cnt L t - a) fun i i1 i2 => h1 i i1 (by omega) ((lt_cnt hc (by omega)).1 (by omega))
  have s := zTo_same (L := L) (lf := lf) (a := cnt L t) (L.length - cnt L t) fun i i1 i2 => h2 i (by omega) (by omega) (by
    have := lt_cnt hc (t := t) (j := i) (by omega)
    omega)
  rw [show a + (cnt L t - a) = cnt L t by omega] at n
  rw [show cnt L t + (L.length - cnt L t) = L.length by omega] at s
  omega

theorem ordW_behind {L : List (Int × Int)} {lf : List Int} {t : Int} {a i p : Nat} (h : pick L lf t 1 = p) (hi : a ≤ i) (hil : i < L.length) (hx : X L i ≤ t) (hz : Z lf i ≠ 0) : a ≤ p := by
  refine Nat.le_of_not_lt fun hlt => ?_
  have := pickTo_greatest L.length p h i (by omega) hil
  omega
theorem ordL_zTo {L : List (Int × Int)} (hc : cOk L = true) {t p : Nat} (h : ordW L 1 t = p) (j : Nat) : zTo (ordL L 1 (t + 1)) j = zTo (ordL L 1 t) j - (if p < j then 1 else 0) := by
  have inv := ordL_inv hc 1 t
  obtain ⟨hp, hx, hz, h1, h2⟩ := ordL_next hc h
  have es : ordL L 1 (t + 1) = (ordL L 1 t).set p (Z (ordL L 1 t) p - 1) := by
    show stepL (ordL L 1 t) (ordW L 1 t) = _
    rw [h]; simp [stepL]
  rw [es, zTo_set (by rw [inv.len]; exact hp)]
  split <;> omega
/-- within the period from a as much is served of a and those behind as units have gone -/
theorem period_left {L : List (Int × Int)} (hc : cOk L = true) {a : Nat} (ha : a < L.length) : ∀ d : Nat, X L a + d ≤ perE L a →
    zTo (ordL L 1 ((X L a).toNat + d)) L.length - zTo (ordL L 1 ((X L a).toNat + d)) a = sumTo L L.length - sumTo L a - d := by
  have bd := cOk_bd hc ha
  intro d
  induction d with
  | zero =>
    intro _
    have inv := ordL_inv hc 1 ((X L a).toNat + 0)
    have s := zTo_same (L := L) (lf := ordL L 1 ((X L a).toNat + 0)) (a := a) (L.length - a) fun i i1 i2 => inv.late i (by omega) (by
      have := cOk_mono hc (i := a) (j := i) i1 (by omega)
      omega)
    rw [show a + (L.length - a) = L.length by omega] at s
    omega
  | succ d ih =>
    intro hd
    have i := ih (by omega)
    obtain ⟨t, ht⟩ : ∃ t : Nat, t = (X L a).toNat + d := ⟨_, rfl⟩
    have htx : (t : Int) = X L a + d := by omega
    rw [← ht] at i
    rw [show (X L a).toNat + (d + 1) = t + 1 by omega]
    have inv := ordL_inv hc 1 t
    have w := perE_work hc ha (t := (t : Int) + 1) (by omega) (by omega)
    rw [show (t : Int) + 1 - 1 = t by omega] at w
    -- somebody from a on waits
    have hcand : ∃ k, a ≤ k ∧ k < L.length ∧ X L k ≤ t ∧ Z (ordL L 1 t) k ≠ 0 := by
      refine Classical.byContradiction fun hno => ?_
      have s := zTo_split hc (lf := ordL L 1 t) (t := (t : Int)) ha (by omega) (fun i i1 i2 i3 => Classical.byContradiction fun hz => hno ⟨i, i1, i2, i3, hz⟩) (fun i i1 i2 i3 => inv.late i i2 (by omega))
      omega
    obtain ⟨k, k1, k2, k3, k4⟩ := hcand
    rcases inv.picks 1 with ⟨e, h0⟩ | ⟨p, e, hp, hx, hz, _⟩
    · exfalso
      rcases pickTo_ok L (ordL L 1 t) t 1 L.length with ⟨_, hk⟩ | ⟨q, e2, _⟩
      · have := hk k k2; omega
      · unfold pick at e; omega
    · have hap := ordW_behind (a := a) e k1 k2 k3 k4
      have e' : ordW L 1 t = p := e
      rw [ordL_zTo hc e', ordL_zTo hc e', if_pos (by omega), if_neg (by omega)]
      omega
/-- HOW LONG ONE IS THERE DOES NOT DEPEND ON THOSE BEFORE -/
theorem last_ends {L : List (Int × Int)} (hc : cOk L = true) {T a : Nat} (hT : lastLeave L = T) (ha : a < L.length) : endTo (orderTo L 1 T) a T = perE L a := by
  have bd := cOk_bd hc ha
  have pb := perE_bd hc ha
  obtain ⟨E, hE⟩ : ∃ E : Nat, perE L a = E := ⟨(perE L a).toNat, by omega⟩
  have all := perE_all hc ha
  -- nothing is left of a at E
  have pl := period_left hc ha (E - (X L a).toNat) (by omega)
  rw [show (X L a).toNat + (E - (X L a).toNat) = E by omega] at pl
  have inv := ordL_inv hc 1 E
  have z0 : Z (ordL L 1 E) a = 0 := by
    have hcl := cnt_le L (perE L a - 1)
    have hca : a < cnt L (perE L a - 1) := (lt_cnt hc ha).2 (by omega)
    have s := zTo_same (L := L) (lf := ordL L 1 E) (a := cnt L (perE L a - 1)) (L.length - cnt L (perE L a - 1)) fun i i1 i2 => inv.late i (by omega) (by
      have := lt_cnt hc (t := perE L a - 1) (j := i) (by omega)
      omega)
    rw [show cnt L (perE L a - 1) + (L.length - cnt L (perE L a - 1)) = L.length by omega] at s
    have hsum : zTo (ordL L 1 E) (cnt L (perE L a - 1)) - zTo (ordL L 1 E) a = 0 := by omega
    have nn : ∀ d, a + 1 + d ≤ L.length → Z (ordL L 1 E) a ≤ zTo (ordL L 1 E) (a + 1 + d) - zTo (ordL L 1 E) a := by
      intro d
      induction d with
      | zero => intro _; simp only [zTo]; omega
      | succ d ih =>
        intro hd
        have := ih (by omega)
        have r := (inv.rng (a + 1 + d) (by omega)).1
        show _ ≤ zTo (ordL L 1 E) (a + 1 + d) + Z (ordL L 1 E) (a + 1 + d) - _
        omega
    have := nn (cnt L (perE L a - 1) - (a + 1)) (by omega)
    rw [show a + 1 + (cnt L (perE L a - 1) - (a + 1)) = cnt L (perE L a - 1) by omega] at this
    have r := (inv.rng a ha).1
    omega
  have ok := ordOk_parts (orderTo_ok hc 1 hT)
  rw [orderTo_len] at ok
  have hneed := ends_need (orderTo_ok hc 1 hT) ha
  rw [orderTo_len] at hneed
  rcases endTo_at (orderTo L 1 T) a T with z | ⟨u, hu, e, hz⟩
  · omega
  · rw [orderTo_Z hu] at hz
    obtain ⟨_, hx, hzu, h1, h2⟩ := ordL_next hc hz
    -- the unit is the last one of a
    have hlast : Z (ordL L 1 (u + 1)) a = 0 := by
      refine Classical.byContradiction fun hne => ?_
      have r := ((ordL_inv hc 1 (u + 1)).rng a ha).1
      have hp : 0 < Z (leftOf L (orderTo L 1 T) (u + 1)) a := by rw [leftOf_orderTo L 1 T (u + 1) (by omega)]; omega
      have s := leftOf_same ok.2.2.1 (k := a) (a := u + 1) T (by omega) (Nat.le_refl _) fun v v1 v2 ev => by
        have := endTo_late (o := orderTo L 1 T) (k := a) T v v2 ev
        omega
      have nz := noneLeft_at _ ok.2.2.2 a ha
      omega
    have hle : (u : Int) + 1 ≤ E := by
      refine Int.not_lt.1 fun hlt => ?_
      have hm : ∀ d, E + d ≤ u → Z (ordL L 1 (E + d)) a ≤ 0 := by
        intro d
        induction d with
        | zero => intro _; simp only [Nat.add_zero]; omega
        | succ d ih =>
          intro hd
          have i := ih (by omega)
          have r := ((ordL_inv hc 1 (E + d)).rng a ha).1
          rcases (ordL_inv hc 1 (E + d)).picks 1 with ⟨e2, _⟩ | ⟨q, e2, hq, _, hzq, _⟩
          · have es : ordL L 1 (E + d + 1) = ordL L 1 (E + d) := by
              show stepL (ordL L 1 (E + d)) (pick L (ordL L 1 (E + d)) ((E + d : Nat) : Int) 1) = _
              rw [e2]; simp [stepL]
            show Z (ordL L 1 (E + d + 1)) a ≤ 0
            rw [es]; exact i
          · have hqa : q ≠ a := fun h => by subst h; omega
            have := (ordL_next hc (rule := 1) (t := E + d) (k := q) e2).2.2.2.2 a (fun h => hqa h.symm)
            show Z (ordL L 1 (E + d + 1)) a ≤ 0
            omega
      have := hm (u - E) (by omega)
      rw [show E + (u - E) = u by omega] at this
      omega
    have hge : (E : Int) ≤ u + 1 := by
      refine Int.not_lt.1 fun hlt => ?_
      have inv2 := ordL_inv hc 1 (u + 1)
      have pg := pickTo_greatest L.length a hz
      have s := zTo_split hc (lf := ordL L 1 (u + 1)) (t := (u : Int)) ha hx (fun i i1 i2 i3 => by
        by_cases e2 : i = a
        · subst e2; exact hlast
        · have := pg i (by omega) i2
          rw [h2 i e2]; omega) (fun i i1 i2 i3 => inv2.late i i2 (by omega))
      have pl2 := period_left hc ha (u + 1 - (X L a).toNat) (by omega)
      rw [show (X L a).toNat + (u + 1 - (X L a).toNat) = u + 1 by omega] at pl2
      have w := perE_work hc ha (t := (u : Int) + 1) (by omega) (by omega)
      rw [show (u : Int) + 1 - 1 = u by omega] at w
      have := w.2 (by omega)
      omega
    omega

end Go.Proofs.Ytmimcgjobgfgfaa

