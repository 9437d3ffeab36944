/- Last come: periods from a customer on, and that by the rule 1 each is there as long. · Last come: who is left; services are within each other; how deep; the first busy period from a customer on. · Last come: without the first customers; the first busy period from a customer on. · The stack of who is left (chapter 8's program): who has ended is taken off its top -/
import Derived.Test.YtmimcgjobgfgfaaM10
import Derived.Test.YtmimcgjobgfgfaaM16
import Derived.Test.YtmimcgjobgfgfaaK5
import Derived.Test.YtmimcgjobgfgfaaK1
namespace Go.Proofs.Ytmimcgjobgfgfaa
set_option linter.unusedVariables false
open Go.RowKit

/-- when the period from a would end, if only those up to a + m came -/
def perTo (L : List (Int × Int)) (a : Nat) : Nat → Int
  | 0 => X L a + Y L a
  | m + 1 => if X L (a + 1 + m) < perTo L a m then perTo L a m + Y L (a + 1 + m) else perTo L a m
def perE (L : List (Int × Int)) (a : Nat) : Int := perTo L a (L.length - (a + 1))
theorem perTo_spec {L : List (Int × Int)} (hc : cOk L = true) (a : Nat) : ∀ m, a + 1 + m ≤ L.length → ∃ p, a < p ∧ p ≤ a + 1 + m ∧ perTo L a m = X L a + (sumTo L p - sumTo L a) ∧
    (∀ q, a < q → q < p → X L q < X L a + (sumTo L q - sumTo L a)) ∧ (p < a + 1 + m → perTo L a m ≤ X L p) := by
  intro m
  induction m with
  | zero => intro _; exact ⟨a + 1, by omega, by omega, by simp only [perTo, sumTo]; omega, fun q h1 h2 => by omega, fun h => by omega⟩
  | succ m ih =>
    intro hm
    obtain ⟨p, h1, h2, h3, h4, h5⟩ := ih (by omega)
    simp only [perTo]
    by_cases hx : X L (a + 1 + m) < perTo L a m
    · rw [if_pos hx]
      have hp : p = a + 1 + m := by
        refine Classical.byContradiction fun hne => ?_
        have hlt : p < a + 1 + m := by omega
        have := h5 hlt
        have mo := cOk_mono hc (i := p) (j := a + 1 + m) (by omega) (by omega)
        omega
      subst hp
      refine ⟨a + 1 + m + 1, by omega, by omega, ?_, fun q q1 q2 => ?_, fun h => by omega⟩
      · simp only [sumTo]; omega
      · by_cases e : q = a + 1 + m
        · subst e; omega
        · exact h4 q q1 (by omega)
    · rw [if_neg hx]
      refine ⟨p, h1, by omega, h3, h4, fun h => ?_⟩
      by_cases e : p = a + 1 + m
      · subst e; omega
      · exact h5 (by omega)
theorem perE_spec {L : List (Int × Int)} (hc : cOk L = true) {a : Nat} (ha : a < L.length) : ∃ p, a < p ∧ p ≤ L.length ∧ perE L a = X L a + (sumTo L p - sumTo L a) ∧
    (∀ q, a < q → q < p → X L q < X L a + (sumTo L q - sumTo L a)) ∧ (p < L.length → perE L a ≤ X L p) := by
  obtain ⟨p, h1, h2, h3, h4, h5⟩ := perTo_spec hc a (L.length - (a + 1)) (by omega)
  exact ⟨p, h1, by omega, h3, h4, fun h => h5 (by omega)⟩
theorem sumTo_mono {L : List (Int × Int)} (hc : cOk L = true) {i j : Nat} (hij : i ≤ j) (hj : j ≤ L.length) : sumTo L i ≤ sumTo L j := by
  obtain ⟨d, rfl⟩ : ∃ d, j = i + d := ⟨j - i, by omega⟩
  clear hij
  induction d with
  | zero => exact Int.le_refl _
  | succ d ih =>
    have := ih (by omega)
    have b := cOk_bd hc (k := i + d) (by omega)
    show sumTo L i ≤ sumTo L (i + d) + Y L (i + d)
    omega
theorem perE_bd {L : List (Int × Int)} (hc : cOk L = true) {a : Nat} (ha : a < L.length) : X L a + Y L a ≤ perE L a ∧ perE L a ≤ 132 := by
  obtain ⟨p, h1, h2, h3, h4, h5⟩ := perE_spec hc ha
  have m := sumTo_mono hc (i := a + 1) (j := p) (by omega) h2
  have b := sumTo_le hc h2
  have c := sumTo_le hc (j := a) (by omega)
  have d := cOk_bd hc ha
  simp only [sumTo] at m
  omega
/-- who has come before a time within the period needs more than has been served -/
theorem perE_work {L : List (Int × Int)} (hc : cOk L = true) {a : Nat} (ha : a < L.length) {t : Int} (h1 : X L a < t) (h2 : t ≤ perE L a) :
    t - X L a ≤ sumTo L (cnt L (t - 1)) - sumTo L a ∧ (sumTo L (cnt L (t - 1)) - sumTo L a = t - X L a → t = perE L a) := by
  obtain ⟨p, p1, p2, p3, p4, p5⟩ := perE_spec hc ha
  have hca : a < cnt L (t - 1) := (lt_cnt hc ha).2 (by omega)
  have hcl := cnt_le L (t - 1)
  rcases Nat.lt_or_ge (cnt L (t - 1)) p with hlt | hge
  · have hx := p4 _ hca hlt
    have hn : ¬ X L (cnt L (t - 1)) ≤ t - 1 := fun h => by
      have := (lt_cnt hc (t := t - 1) (j := cnt L (t - 1)) (by omega)).2 h
      omega
    omega
  · have := sumTo_mono hc hge hcl
    omega
theorem perE_all {L : List (Int × Int)} (hc : cOk L = true) {a : Nat} (ha : a < L.length) : sumTo L (cnt L (perE L a - 1)) - sumTo L a = perE L a - X L a := by
  obtain ⟨p, p1, p2, p3, p4, p5⟩ := perE_spec hc ha
  have b := perE_bd hc ha
  have d := cOk_bd hc ha
  have e : cnt L (perE L a - 1) = p := by
    refine Nat.le_antisymm ?_ ?_
    · refine Nat.le_of_not_lt fun h => ?_
      have hcl := cnt_le L (perE L a - 1)
      have := (lt_cnt hc (t := perE L a - 1) (j := p) (by omega)).1 h
      have := p5 (by omega)
      omega
    · have hq : ∀ q, a ≤ q → q < p → q < cnt L (perE L a - 1) := fun q q1 q2 => by
        refine (lt_cnt hc (by omega)).2 ?_
        by_cases e : q = a
        · subst e; omega
        · have := p4 q (by omega) q2
          have m := sumTo_mono hc (i := q + 1) (j := p) (by omega) p2
          have bq := cOk_bd hc (k := q) (by omega)
          simp only [sumTo] at m
          omega
      have := hq (p - 1) (by omega) (by omega)
      omega
  rw [e]; omega

/-- the first j numbers added -/
def zTo (lf : List Int) : Nat → Int
  | 0 => 0
  | j + 1 => zTo lf j + Z lf j
theorem zTo_set {lf : List Int} {p : Nat} {v : Int} (hp : p < lf.length) : ∀ j, zTo (lf.set p v) j = zTo lf j + (if p < j then v - Z lf p else 0) := by
  intro j
  induction j with
  | zero => simp [zTo]
  | succ j ih =>
    simp only [zTo, ih, Z_set hp]
    by_cases e : p = j
    · subst e; rw [if_pos rfl, if_neg (by omega), if_pos (by omega)]; omega
    · by_cases h : p < j
      · rw [if_neg e, if_pos h, if_pos (by omega)]; omega
      · rw [if_neg e, if_neg h, if_neg (by omega)]; omega
theorem zTo_same {L : List (Int × Int)} {lf : List Int} {a : Nat} : ∀ d, (∀ i, a ≤ i → i < a + d → Z lf i = Y L i) → zTo lf (a + d) - zTo lf a = sumTo L (a + d) - sumTo L a := by
  intro d
  induction d with
  | zero => intro _; simp
  | succ d ih =>
    intro h
    have := ih fun i h1 h2 => h i h1 (by omega)
    have e := h (a + d) (by omega) (by omega)
    show zTo lf (a + d) + Z lf (a + d) - zTo lf a = sumTo L (a + d) + Y L (a + d) - sumTo L a
    omega
theorem zTo_none {lf : List Int} {a : Nat} : ∀ d, (∀ i, a ≤ i → i < a + d → Z lf i = 0) → zTo lf (a + d) - zTo lf a = 0 := by
  intro d
  induction d with
  | zero => intro _; simp
  | succ d ih =>
    intro h
    have := ih fun i h1 h2 => h i h1 (by omega)
    have e := h (a + d) (by omega) (by omega)
    show zTo lf (a + d) + Z lf (a + d) - zTo lf a = 0
    omega
/-- nothing is left of those who have come, everything of the others: then as much is left as the others need -/
theorem zTo_split {L : List (Int × Int)} (hc : cOk L = true) {lf : List Int} {a : Nat} {t : Int} (ha : a < L.length) (hx : X L a ≤ t) (h1 : ∀ i, a ≤ i → i < L.length → X L i ≤ t → Z lf i = 0) (h2 : ∀ i, a ≤ i → i < L.length → t < X L i → Z lf i = Y L i) :
    zTo lf L.length - zTo lf a = sumTo L L.length - sumTo L (cnt L t) := by
  have hca : a < cnt L t := (lt_cnt hc ha).2 hx
  have hcl := cnt_le L t
  have n := zTo_none (lf := lf) (a := a) (cnt L t - a) fun i i1 i2 => h1 i i1 (by omega) ((lt_cnt hc (by omega)).1 (by omega))
  have s := zTo_same (L := L) (lf := lf) (a := cnt L t) (L.length - cnt L t) fun i i1 i2 => h2 i (by omega) (by omega) (by
    have := lt_cnt hc (t := t) (j := i) (by omega)
    omega)
  rw [show a + (cnt L t - a) = cnt L t by omega] at n
  rw [show cnt L t + (L.length - cnt L t) = L.length by omega] at s
  omega

theorem ordW_behind {L : List (Int × Int)} {lf : List Int} {t : Int} {a i p : Nat} (h : pick L lf t 1 = p) (hi : a ≤ i) (hil : i < L.length) (hx : X L i ≤ t) (hz : Z lf i ≠ 0) : a ≤ p := by
  refine Nat.le_of_not_lt fun hlt => ?_
  have := pickTo_greatest L.length p h i (by omega) hil
  omega
theorem ordL_zTo {L : List (Int × Int)} (hc : cOk L = true) {t p : Nat} (h : ordW L 1 t = p) (j : Nat) : zTo (ordL L 1 (t + 1)) j = zTo (ordL L 1 t) j - (if p < j then 1 else 0) := by
  have inv := ordL_inv hc 1 t
  obtain ⟨hp, hx, hz, h1, h2⟩ := ordL_next hc h
  have es : ordL L 1 (t + 1) = (ordL L 1 t).set p (Z (ordL L 1 t) p - 1) := by
    show stepL (ordL L 1 t) (ordW L 1 t) = _
    rw [h]; simp [stepL]
  rw [es, zTo_set (by rw [inv.len]; exact hp)]
  split <;> omega
/-- within the period from a as much is served of a and those behind as units have gone -/
theorem period_left {L : List (Int × Int)} (hc : cOk L = true) {a : Nat} (ha : a < L.length) : ∀ d : Nat, X L a + d ≤ perE L a →
    zTo (ordL L 1 ((X L a).toNat + d)) L.length - zTo (ordL L 1 ((X L a).toNat + d)) a = sumTo L L.length - sumTo L a - d := by
  have bd := cOk_bd hc ha
  intro d
  induction d with
  | zero =>
    intro _
    have inv := ordL_inv hc 1 ((X L a).toNat + 0)
    have s := zTo_same (L := L) (lf := ordL L 1 ((X L a).toNat + 0)) (a := a) (L.length - a) fun i i1 i2 => inv.late i (by omega) (by
      have := cOk_mono hc (i := a) (j := i) i1 (by omega)
      omega)
    rw [show a + (L.length - a) = L.length by omega] at s
    omega
  | succ d ih =>
    intro hd
    have i := ih (by omega)
    obtain ⟨t, ht⟩ : ∃ t : Nat, t = (X L a).toNat + d := ⟨_, rfl⟩
    have htx : (t : Int) = X L a + d := by omega
    rw [← ht] at i
    rw [show (X L a).toNat + (d + 1) = t + 1 by omega]
    have inv := ordL_inv hc 1 t
    have w := perE_work hc ha (t := (t : Int) + 1) (by omega) (by omega)
    rw [show (t : Int) + 1 - 1 = t by omega] at w
    -- somebody from a on waits
    have hcand : ∃ k, a ≤ k ∧ k < L.length ∧ X L k ≤ t ∧ Z (ordL L 1 t) k ≠ 0 := by
      refine Classical.byContradiction fun hno => ?_
      have s := zTo_split hc (lf := ordL L 1 t) (t := (t : Int)) ha (by omega) (fun i i1 i2 i3 => Classical.byContradiction fun hz => hno ⟨i, i1, i2, i3, hz⟩) (fun i i1 i2 i3 => inv.late i i2 (by omega))
      omega
    obtain ⟨k, k1, k2, k3, k4⟩ := hcand
    rcases inv.picks 1 with ⟨e, h0⟩ | ⟨p, e, hp, hx, hz, _⟩
    · exfalso
      rcases pickTo_ok L (ordL L 1 t) t 1 L.length with ⟨_, hk⟩ | ⟨q, e2, _⟩
      · have := hk k k2; omega
      · unfold pick at e; omega
    · have hap := ordW_behind (a := a) e k1 k2 k3 k4
      have e' : ordW L 1 t = p := e
      rw [ordL_zTo hc e', ordL_zTo hc e', if_pos (by omega), if_neg (by omega)]
      omega
/-- HOW LONG ONE IS THERE DOES NOT DEPEND ON THOSE BEFORE -/
theorem last_ends {L : List (Int × Int)} (hc : cOk L = true) {T a : Nat} (hT : lastLeave L = T) (ha : a < L.length) : endTo (orderTo L 1 T) a T = perE L a := by
  have bd := cOk_bd hc ha
  have pb := perE_bd hc ha
  obtain ⟨E, hE⟩ : ∃ E : Nat, perE L a = E := ⟨(perE L a).toNat, by omega⟩
  have all := perE_all hc ha
  -- nothing is left of a at E
  have pl := period_left hc ha (E - (X L a).toNat) (by omega)
  rw [show (X L a).toNat + (E - (X L a).toNat) = E by omega] at pl
  have inv := ordL_inv hc 1 E
  have z0 : Z (ordL L 1 E) a = 0 := by
    have hcl := cnt_le L (perE L a - 1)
    have hca : a < cnt L (perE L a - 1) := (lt_cnt hc ha).2 (by omega)
    have s := zTo_same (L := L) (lf := ordL L 1 E) (a := cnt L (perE L a - 1)) (L.length - cnt L (perE L a - 1)) fun i i1 i2 => inv.late i (by omega) (by
      have := lt_cnt hc (t := perE L a - 1) (j := i) (by omega)
      omega)
    rw [show cnt L (perE L a - 1) + (L.length - cnt L (perE L a - 1)) = L.length by omega] at s
    have hsum : zTo (ordL L 1 E) (cnt L (perE L a - 1)) - zTo (ordL L 1 E) a = 0 := by omega
    have nn : ∀ d, a + 1 + d ≤ L.length → Z (ordL L 1 E) a ≤ zTo (ordL L 1 E) (a + 1 + d) - zTo (ordL L 1 E) a := by
      intro d
      induction d with
      | zero => intro _; simp only [zTo]; omega
      | succ d ih =>
        intro hd
        have := ih (by omega)
        have r := (inv.rng (a + 1 + d) (by omega)).1
        show _ ≤ zTo (ordL L 1 E) (a + 1 + d) + Z (ordL L 1 E) (a + 1 + d) - _
        omega
    have := nn (cnt L (perE L a - 1) - (a + 1)) (by omega)
    rw [show a + 1 + (cnt L (perE L a - 1) - (a + 1)) = cnt L (perE L a - 1) by omega] at this
    have r := (inv.rng a ha).1
    omega
  have ok := ordOk_parts (orderTo_ok hc 1 hT)
  rw [orderTo_len] at ok
  have hneed := ends_need (orderTo_ok hc 1 hT) ha
  rw [orderTo_len] at hneed
  rcases endTo_at (orderTo L 1 T) a T with z | ⟨u, hu, e, hz⟩
  · omega
  · rw [orderTo_Z hu] at hz
    obtain ⟨_, hx, hzu, h1, h2⟩ := ordL_next hc hz
    -- the unit is the last one of a
    have hlast : Z (ordL L 1 (u + 1)) a = 0 := by
      refine Classical.byContradiction fun hne => ?_
      have r := ((ordL_inv hc 1 (u + 1)).rng a ha).1
      have hp : 0 < Z (leftOf L (orderTo L 1 T) (u + 1)) a := by rw [leftOf_orderTo L 1 T (u + 1) (by omega)]; omega
      have s := leftOf_same ok.2.2.1 (k := a) (a := u + 1) T (by omega) (Nat.le_refl _) fun v v1 v2 ev => by
        have := endTo_late (o := orderTo L 1 T) (k := a) T v v2 ev
        omega
      have nz := noneLeft_at _ ok.2.2.2 a ha
      omega
    have hle : (u : Int) + 1 ≤ E := by
      refine Int.not_lt.1 fun hlt => ?_
      have hm : ∀ d, E + d ≤ u → Z (ordL L 1 (E + d)) a ≤ 0 := by
        intro d
        induction d with
        | zero => intro _; simp only [Nat.add_zero]; omega
        | succ d ih =>
          intro hd
          have i := ih (by omega)
          have r := ((ordL_inv hc 1 (E + d)).rng a ha).1
          rcases (ordL_inv hc 1 (E + d)).picks 1 with ⟨e2, _⟩ | ⟨q, e2, hq, _, hzq, _⟩
          · have es : ordL L 1 (E + d + 1) = ordL L 1 (E + d) := by
              show stepL (ordL L 1 (E + d)) (pick L (ordL L 1 (E + d)) ((E + d : Nat) : Int) 1) = _
              rw [e2]; simp [stepL]
            show Z (ordL L 1 (E + d + 1)) a ≤ 0
            rw [es]; exact i
          · have hqa : q ≠ a := fun h => by subst h; omega
            have := (ordL_next hc (rule := 1) (t := E + d) (k := q) e2).2.2.2.2 a (fun h => hqa h.symm)
            show Z (ordL L 1 (E + d + 1)) a ≤ 0
            omega
      have := hm (u - E) (by omega)
      rw [show E + (u - E) = u by omega] at this
      omega
    have hge : (E : Int) ≤ u + 1 := by
      refine Int.not_lt.1 fun hlt => ?_
      have inv2 := ordL_inv hc 1 (u + 1)
      have pg := pickTo_greatest L.length a hz
      have s := zTo_split hc (lf := ordL L 1 (u + 1)) (t := (u : Int)) ha hx (fun i i1 i2 i3 => by
        by_cases e2 : i = a
        · subst e2; exact hlast
        · have := pg i (by omega) i2
          rw [h2 i e2]; omega) (fun i i1 i2 i3 => inv2.late i i2 (by omega))
      have pl2 := period_left hc ha (u + 1 - (X L a).toNat) (by omega)
      rw [show (X L a).toNat + (u + 1 - (X L a).toNat) = u + 1 by omega] at pl2
      have w := perE_work hc ha (t := (u : Int) + 1) (by omega) (by omega)
      rw [show (u : Int) + 1 - 1 = u by omega] at w
      have := w.2 (by omega)
      omega
    omega

end Go.Proofs.Ytmimcgjobgfgfaa

namespace Go.Proofs.Ytmimcgjobgfgfaa
set_option linter.unusedVariables false
open Go.RowKit

/-- SERVICES ARE WITHIN EACH OTHER -/
theorem period_within {L : List (Int × Int)} (hc : cOk L = true) {j k : Nat} (hjk : j < k) (hk : k < L.length) (h : X L k < perE L j) : perE L k ≤ perE L j := by
  refine Int.not_lt.1 fun hlt => ?_
  have xm := cOk_mono hc (i := j) (j := k) (by omega) hk
  have w := perE_work hc hk (t := perE L j) h (by omega)
  have all := perE_all hc (a := j) (by omega)
  have hne : ¬ sumTo L (cnt L (perE L j - 1)) - sumTo L k = perE L j - X L k := fun e => by
    have := w.2 e; omega
  have sm := sumTo_mono hc (i := j) (j := k) (by omega) (by omega)
  by_cases e : X L j = X L k
  · omega
  · have w2 := perE_work hc (a := j) (by omega) (t := X L k) (by omega) (by omega)
    have hcl : cnt L (X L k - 1) ≤ k := Nat.le_of_not_lt fun hg => by
      have := (lt_cnt hc (t := X L k - 1) (j := k) hk).1 hg
      omega
    have sm2 := sumTo_mono hc hcl (by omega)
    omega

/-- the last one of the first j who is there at x; -1 if none is -/
def leftTo (L : List (Int × Int)) (x : Int) : Nat → Int
  | 0 => -1
  | j + 1 => if x < perE L j then j else leftTo L x j
theorem leftTo_spec {L : List (Int × Int)} {x : Int} : ∀ j, (leftTo L x j = -1 ∧ ∀ i, i < j → perE L i ≤ x) ∨ (∃ k : Nat, leftTo L x j = k ∧ k < j ∧ x < perE L k ∧ ∀ i, k < i → i < j → perE L i ≤ x) := by
  intro j
  induction j with
  | zero => exact .inl ⟨rfl, fun i h => by omega⟩
  | succ j ih =>
    simp only [leftTo]
    by_cases h : x < perE L j
    · rw [if_pos h]; exact .inr ⟨j, rfl, by omega, h, fun i h1 h2 => by omega⟩
    · rw [if_neg h]
      rcases ih with ⟨e, hi⟩ | ⟨k, e, hk, hx, hi⟩
      · refine .inl ⟨e, fun i h1 => ?_⟩
        by_cases e2 : i = j
        · subst e2; omega
        · exact hi i (by omega)
      · refine .inr ⟨k, e, by omega, hx, fun i h1 h2 => ?_⟩
        by_cases e2 : i = j
        · subst e2; omega
        · exact hi i h1 (by omega)
def leftF (L : List (Int × Int)) (a : Nat) : Int := leftTo L (X L a) a
theorem leftF_lt (L : List (Int × Int)) (a : Nat) : -1 ≤ leftF L a ∧ leftF L a < a := by
  rcases leftTo_spec (L := L) (x := X L a) a with ⟨e, _⟩ | ⟨k, e, hk, _⟩ <;> (unfold leftF; omega)
/-- how many are left one over the other -/
def deepN (L : List (Int × Int)) : Nat → Nat → Int
  | 0, _ => 1
  | f + 1, a => if leftF L a < 0 then 1 else 1 + deepN L f (leftF L a).toNat
def deepF (L : List (Int × Int)) (a : Nat) : Int := deepN L a a
theorem deepN_more (L : List (Int × Int)) : ∀ f a, a ≤ f → deepN L f a = deepF L a := by
  have key : ∀ a f g, a ≤ f → a ≤ g → deepN L f a = deepN L g a := by
    intro a
    induction a using Nat.strongRecOn with
    | ind a ih =>
      intro f g hf hg
      have lt := leftF_lt L a
      cases f with
      | zero =>
        obtain rfl : a = 0 := by omega
        cases g with
        | zero => rfl
        | succ g => simp only [deepN]; rw [if_pos (by omega)]
      | succ f =>
        cases g with
        | zero =>
          obtain rfl : a = 0 := by omega
          simp only [deepN]; rw [if_pos (by omega)]
        | succ g =>
          simp only [deepN]
          by_cases h : leftF L a < 0
          · rw [if_pos h, if_pos h]
          · rw [if_neg h, if_neg h, ih _ (by omega) f g (by omega) (by omega)]
  exact fun f a h => key a f a h (Nat.le_refl _)
theorem deepF_none {L : List (Int × Int)} {a : Nat} (h : leftF L a = -1) : deepF L a = 1 := by
  unfold deepF
  cases a with
  | zero => rfl
  | succ a => simp only [deepN]; rw [if_pos (by omega)]
theorem deepF_left {L : List (Int × Int)} {a k : Nat} (h : leftF L a = k) : deepF L a = 1 + deepF L k := by
  have lt := leftF_lt L a
  unfold deepF
  cases a with
  | zero => omega
  | succ a =>
    simp only [deepN]
    rw [if_neg (by omega), h, show ((k : Int)).toNat = k by simp, deepN_more L a k (by omega)]
    rfl
theorem deepF_bd (L : List (Int × Int)) : ∀ a, 1 ≤ deepF L a ∧ deepF L a ≤ a + 1 := by
  intro a
  induction a using Nat.strongRecOn with
  | ind a ih =>
    have lt := leftF_lt L a
    rcases leftTo_spec (L := L) (x := X L a) a with ⟨e, _⟩ | ⟨k, e, hk, _⟩
    · rw [deepF_none e]; omega
    · rw [deepF_left e]; have := ih k hk; omega
/-- how many of the first j are there at x -/
def aliveTo (L : List (Int × Int)) (x : Int) : Nat → Int
  | 0 => 0
  | j + 1 => aliveTo L x j + (if x < perE L j then 1 else 0)
theorem aliveTo_none {L : List (Int × Int)} {x : Int} {a : Nat} : ∀ d, (∀ i, a ≤ i → i < a + d → perE L i ≤ x) → aliveTo L x (a + d) = aliveTo L x a := by
  intro d
  induction d with
  | zero => intro _; rfl
  | succ d ih =>
    intro h
    have := ih fun i h1 h2 => h i h1 (by omega)
    have e := h (a + d) (by omega) (by omega)
    show aliveTo L x (a + d) + (if x < perE L (a + d) then 1 else 0) = _
    rw [if_neg (by omega)]; omega
theorem aliveTo_same {L : List (Int × Int)} {x y : Int} : ∀ j, (∀ i, i < j → (x < perE L i ↔ y < perE L i)) → aliveTo L x j = aliveTo L y j := by
  intro j
  induction j with
  | zero => intro _; rfl
  | succ j ih =>
    intro h
    have := ih fun i hi => h i (by omega)
    have e := h j (by omega)
    simp only [aliveTo, this]
    by_cases hx : x < perE L j
    · rw [if_pos hx, if_pos (e.1 hx)]
    · rw [if_neg hx, if_neg (fun hy => hx (e.2 hy))]
/-- EACH IS AS DEEP AS MANY ARE THERE -/
theorem alive_deep {L : List (Int × Int)} (hc : cOk L = true) : ∀ a, a < L.length → aliveTo L (X L a) (a + 1) = deepF L a := by
  intro a
  induction a using Nat.strongRecOn with
  | ind a ih =>
    intro ha
    have pa := perE_bd hc ha
    have bd := cOk_bd hc ha
    simp only [aliveTo]
    rw [if_pos (by omega)]
    rcases leftTo_spec (L := L) (x := X L a) a with ⟨e, hi⟩ | ⟨k, e, hk, hx, hi⟩
    · have n := aliveTo_none (L := L) (x := X L a) (a := 0) a fun i _ h2 => hi i (by omega)
      rw [Nat.zero_add] at n
      rw [n, deepF_none e]
      rfl
    · have n := aliveTo_none (L := L) (x := X L a) (a := k + 1) (a - (k + 1)) fun i h1 h2 => hi i (by omega) (by omega)
      rw [show k + 1 + (a - (k + 1)) = a by omega] at n
      have hkl : k < L.length := by omega
      have pk := perE_bd hc hkl
      have bk := cOk_bd hc hkl
      have xm := cOk_mono hc (i := k) (j := a) (by omega) ha
      have s := aliveTo_same (L := L) (x := X L a) (y := X L k) (k + 1) fun i hi2 => by
        constructor
        · intro h; omega
        · intro h
          by_cases e2 : i = k
          · subst e2; exact hx
          · have := period_within hc (j := i) (k := k) (by omega) hkl h
            omega
      rw [n, s, ih k hk hkl, deepF_left e]
      omega

/-- the functions' answers -/
def perV (L : List (Int × Int)) (t : Int) : Int := if placeOk L t = true then perE L t.toNat - X L t.toNat else -1
def leftV (L : List (Int × Int)) (t : Int) : Int := if placeOk L t = true then leftF L t.toNat else -2
def deepV (L : List (Int × Int)) (t : Int) : Int := if placeOk L t = true then deepF L t.toNat else -1
theorem perV_yes {L : List (Int × Int)} {t : Int} (h : placeOk L t = true) : perV L t = perE L t.toNat - X L t.toNat := if_pos h
theorem perV_no {L : List (Int × Int)} {t : Int} (h : placeOk L t = false) : perV L t = -1 := by simp [perV, h]
theorem leftV_yes {L : List (Int × Int)} {t : Int} (h : placeOk L t = true) : leftV L t = leftF L t.toNat := if_pos h
theorem leftV_no {L : List (Int × Int)} {t : Int} (h : placeOk L t = false) : leftV L t = -2 := by simp [leftV, h]
theorem deepV_yes {L : List (Int × Int)} {t : Int} (h : placeOk L t = true) : deepV L t = deepF L t.toNat := if_pos h
theorem deepV_no {L : List (Int × Int)} {t : Int} (h : placeOk L t = false) : deepV L t = -1 := by simp [deepV, h]
theorem placeOk_nat {L : List (Int × Int)} {t : Int} (h : placeOk L t = true) : ∃ n : Nat, t = n ∧ n < L.length ∧ cOk L = true := by
  obtain ⟨hc, ht⟩ : cOk L = true ∧ decide (0 ≤ t ∧ t ≤ (L.length : Int) - 1) = true := by simpa [placeOk] using h
  have := of_decide_eq_true ht
  exact ⟨t.toNat, by omega, by omega, hc⟩
theorem placeOk_mk {L : List (Int × Int)} {n : Nat} (hc : cOk L = true) (h : n < L.length) : placeOk L (n : Int) = true := by
  have : decide (0 ≤ (n : Int) ∧ (n : Int) ≤ (L.length : Int) - 1) = true := decide_eq_true (by omega)
  simp only [placeOk, hc, this, Bool.and_self]

/-- as the rule 1 serves, each is there as long as the period -/
theorem lasts {L : List (Int × Int)} (hc : cOk L = true) : timesR L (orderR L 1) = (List.range L.length).map fun k => perE L k - X L k := by
  obtain ⟨T, hT, hT2⟩ := lastLeave_nat hc
  have hp : byOk L 1 = true := by simp [byOk, hc]
  have e : orderR L 1 = orderTo L 1 T := by rw [orderR_yes hp, hT]; simp
  rw [e, timesR_yes (orderTo_ok hc 1 hT), timeL]
  refine List.map_congr_left fun k hk => ?_
  rw [orderTo_len, last_ends hc hT (List.mem_range.1 hk)]
theorem there_last {L : List (Int × Int)} (hc : cOk L = true) {a : Nat} (ha : a < L.length) (hal : a + 1 = L.length ∨ X L a < X L (a + 1)) : thereV L (orderR L 1) (X L a) = deepF L a := by
  obtain ⟨T, hT, hT2⟩ := lastLeave_nat hc
  have hp : byOk L 1 = true := by simp [byOk, hc]
  have e : orderR L 1 = orderTo L 1 T := by rw [orderR_yes hp, hT]; simp
  have bd := cOk_bd hc ha
  rw [e, thereV_yes (orderTo_ok hc 1 hT) (by omega), ← alive_deep hc a ha]
  have k1 : ∀ j, j ≤ a + 1 → thereN L (orderTo L 1 T) (X L a) j = aliveTo L (X L a) j := by
    intro j
    induction j with
    | zero => intro _; rfl
    | succ j ih =>
      intro hj
      have := ih (by omega)
      have xm := cOk_mono hc (i := j) (j := a) (by omega) ha
      simp only [thereN, aliveTo, this]
      rw [orderTo_len, last_ends hc hT (by omega)]
      by_cases h : X L a < perE L j
      · rw [if_pos ⟨xm, h⟩, if_pos h]
      · rw [if_neg (fun x => h x.2), if_neg h]
  have k2 : ∀ d, a + 1 + d ≤ L.length → thereN L (orderTo L 1 T) (X L a) (a + 1 + d) = thereN L (orderTo L 1 T) (X L a) (a + 1) := by
    intro d
    induction d with
    | zero => intro _; rfl
    | succ d ih =>
      intro hd
      have i := ih (by omega)
      have xm := cOk_mono hc (i := a + 1) (j := a + 1 + d) (by omega) (by omega)
      have ha2 : X L a < X L (a + 1) := by rcases hal with h | h <;> omega
      show thereN L (orderTo L 1 T) (X L a) (a + 1 + d) + (if X L (a + 1 + d) ≤ X L a ∧ X L a < endTo (orderTo L 1 T) (a + 1 + d) (orderTo L 1 T).length then 1 else 0) = _
      rw [if_neg (fun x => by have := x.1; omega), i]; omega
  have := k2 (L.length - (a + 1)) (by omega)
  rw [show a + 1 + (L.length - (a + 1)) = L.length by omega] at this
  rw [this, k1 _ (Nat.le_refl _)]

end Go.Proofs.Ytmimcgjobgfgfaa

namespace Go.Proofs.Ytmimcgjobgfgfaa
set_option linter.unusedVariables false
open Go.RowKit

theorem X_drop (L : List (Int × Int)) (a i : Nat) : X (L.drop a) i = X L (a + i) := by simp [X, List.getElem?_drop]
theorem Y_drop (L : List (Int × Int)) (a i : Nat) : Y (L.drop a) i = Y L (a + i) := by simp [Y, List.getElem?_drop]
theorem perTo_drop (L : List (Int × Int)) (d a : Nat) : ∀ m, perTo (L.drop d) a m = perTo L (d + a) m := by
  intro m
  induction m with
  | zero => simp only [perTo, X_drop, Y_drop]
  | succ m ih =>
    simp only [perTo, X_drop, Y_drop, ih]
    rw [show d + (a + 1 + m) = d + a + 1 + m by omega]
theorem perE_drop (L : List (Int × Int)) (d a : Nat) : perE (L.drop d) a = perE L (d + a) := by
  unfold perE
  rw [perTo_drop, List.length_drop]
  congr 1
  omega
theorem cOk_drop {L : List (Int × Int)} (h : cOk L = true) (a : Nat) : cOk (L.drop a) = true := by
  have hl := cOk_len h
  have key : ∀ k, k ≤ (L.drop a).length → okTo (L.drop a) k = true := by
    intro k
    induction k with
    | zero => intro _; rfl
    | succ k ih =>
      intro hk
      rw [List.length_drop] at hk
      have i := ih (by rw [List.length_drop]; omega)
      have b := cOk_bd h (k := a + k) (by omega)
      have c : okAt (L.drop a) k = true := by
        simp only [okAt, cok, X_drop, Y_drop, Bool.and_eq_true, decide_eq_true_eq]
        refine ⟨⟨by omega, by omega⟩, ?_⟩
        unfold prevOf
        split
        · omega
        · rw [X_drop]; exact cOk_mono h (by omega) (by omega)
      simp only [okTo, i, c, Bool.and_self]
  have hk := key _ (Nat.le_refl _)
  have hd : decide ((L.drop a).length ≤ 8) = true := decide_eq_true (by rw [List.length_drop]; omega)
  simp only [cOk, hk, hd, Bool.and_self]

theorem first_busy {L : List (Int × Int)} (hc : cOk L = true) (hp : 0 < L.length) : 0 < (busyP L).length ∧ X (busyP L) 0 = X L 0 ∧ perE L 0 ≤ Y (busyP L) 0 ∧ ((∀ k, k < L.length → X L k ≠ perE L 0) → Y (busyP L) 0 = perE L 0) := by
  have inv := busyP_inv hc
  have b0 := cOk_bd hc hp
  have pb := perE_bd hc hp
  have hB : 0 < (busyP L).length := by
    obtain ⟨k, hk, _⟩ := inv.full (X L 0).toNat (by omega) (wk_come hc hp (by omega))
    omega
  obtain ⟨b, e, hbX, heY, hbe, he200⟩ := inv.nat hB
  have cf := cnt_first inv hc (by omega) hB
  have cb := cnt_before inv hc hB hbX
  have hfree := inv.free hc (by omega) hB heY
  have hbusy : ∀ u : Nat, b ≤ u → u < e → wk L u ≠ 0 := fun u h1 h2 => inv.busy 0 hB u (by omega) (by omega)
  rw [hbX] at cf
  rw [cf] at cb
  have s0 : srv L b = 0 := cb
  have hsrv : ∀ t, b ≤ t → t ≤ e → srv L t = (t : Int) - b := fun t h1 h2 => by
    have := srv_busy (L := L) (b := b) (t - b) (fun u u1 u2 => hbusy u u1 (by omega)) hc
    rw [show b + (t - b) = t by omega, s0] at this
    omega
  have hX : X L 0 = b := by
    refine Int.le_antisymm ?_ ?_
    · have w := wk_srv hc b
      have nz := hbusy b (Nat.le_refl _) (by omega)
      have nn := wk_nn hc b
      rw [s0] at w
      have : 0 < cnt L (b : Int) := by
        refine Nat.pos_of_ne_zero fun hz => ?_
        rw [hz] at w
        simp only [sumTo] at w
        omega
      exact (lt_cnt hc (t := (b : Int)) hp).1 this
    · refine Int.not_lt.1 fun hlt => ?_
      have := (lt_cnt hc (t := (b : Int) - 1) hp).2 (by omega)
      omega
  refine ⟨hB, by rw [hbX, hX], ?_, fun hno => ?_⟩
  · rw [heY]
    refine Int.not_lt.1 fun hlt => ?_
    have w := wk_srv hc e
    rw [hfree, hsrv e (by omega) (Nat.le_refl _)] at w
    have pw := perE_work hc hp (t := (e : Int)) (by omega) (by omega)
    have m := sumTo_mono hc (cnt_le' L (e : Int)) (cnt_le L _)
    simp only [sumTo] at pw
    have := pw.2 (by omega)
    omega
  · rw [heY]
    refine Int.le_antisymm ?_ ?_
    · refine Int.not_lt.1 fun hlt => ?_
      obtain ⟨E, hE⟩ : ∃ E : Nat, perE L 0 = E := ⟨(perE L 0).toNat, by omega⟩
      have w := wk_srv hc E
      have nz := hbusy E (by omega) (by omega)
      rw [hsrv E (by omega) (by omega)] at w
      have all := perE_all hc hp
      have hcnt : cnt L (E : Int) = cnt L ((E : Int) - 1) := by
        refine Nat.le_antisymm (Nat.le_of_not_lt fun h => ?_) (cnt_le' L _)
        have hcl := cnt_le L (E : Int)
        have x1 := (lt_cnt hc (t := (E : Int)) (j := cnt L ((E : Int) - 1)) (by omega)).1 h
        have x2 : ¬ X L (cnt L ((E : Int) - 1)) ≤ (E : Int) - 1 := fun hx => by
          have := (lt_cnt hc (t := (E : Int) - 1) (j := cnt L ((E : Int) - 1)) (by omega)).2 hx
          omega
        exact hno (cnt L ((E : Int) - 1)) (by omega) (by omega)
      rw [hE] at all
      simp only [sumTo] at all
      rw [hcnt] at w
      omega
    · refine Int.not_lt.1 fun hlt => ?_
      have w := wk_srv hc e
      rw [hfree, hsrv e (by omega) (Nat.le_refl _)] at w
      have pw := perE_work hc hp (t := (e : Int)) (by omega) (by omega)
      have m := sumTo_mono hc (cnt_le' L (e : Int)) (cnt_le L _)
      simp only [sumTo] at pw
      have := pw.2 (by omega)
      omega

end Go.Proofs.Ytmimcgjobgfgfaa

namespace Go.Proofs.Ytmimcgjobgfgfaa
set_option linter.unusedVariables false
open Go.RowKit

/-- how many of the first m are kept, if at a time whoever is at the top and has ended goes -/
def keptTo (S : List (Int × Int)) (x : Int) : Nat → Nat
  | 0 => 0
  | m + 1 => if Y S m ≤ x then keptTo S x m else m + 1
theorem keptTo_le (S : List (Int × Int)) (x : Int) : ∀ m, keptTo S x m ≤ m := by
  intro m
  induction m with
  | zero => exact Nat.le_refl _
  | succ m ih =>
    simp only [keptTo]
    by_cases h : Y S m ≤ x
    · rw [if_pos h]; omega
    · rw [if_neg h]; omega
theorem keptTo_same {S T : List (Int × Int)} {x : Int} : ∀ m, (∀ i, i < m → Y S i = Y T i) → keptTo S x m = keptTo T x m := by
  intro m
  induction m with
  | zero => intro _; rfl
  | succ m ih =>
    intro h
    simp only [keptTo, h m (by omega), ih fun i hi => h i (by omega)]
theorem keptTo_twice {S : List (Int × Int)} {t x : Int} (h : t ≤ x) : ∀ m, keptTo S x (keptTo S t m) = keptTo S x m := by
  intro m
  induction m with
  | zero => rfl
  | succ m ih =>
    by_cases ht : Y S m ≤ t
    · rw [show keptTo S t (m + 1) = keptTo S t m from if_pos ht, ih]
      exact (if_pos (Int.le_trans ht h)).symm
    · rw [show keptTo S t (m + 1) = m + 1 from if_neg ht]
def popS (S : List (Int × Int)) (x : Int) : List (Int × Int) := S.take (keptTo S x S.length)
theorem popS_len (S : List (Int × Int)) (x : Int) : (popS S x).length = keptTo S x S.length := by
  have := keptTo_le S x S.length
  simp only [popS, List.length_take]; omega
theorem Y_left {S T : List (Int × Int)} {i : Nat} (h : i < S.length) : Y (S ++ T) i = Y S i := by simp [Y, List.getElem?_append_left h]
theorem popS_twice {S : List (Int × Int)} {t x : Int} (h : t ≤ x) : popS (popS S t) x = popS S x := by
  have e : keptTo (popS S t) x (popS S t).length = keptTo S x S.length := by
    rw [popS_len, ← keptTo_twice h S.length]
    exact keptTo_same _ fun i hi => Y_take hi
  have l1 := keptTo_le S t S.length
  have l2 : keptTo S x S.length ≤ keptTo S t S.length := by
    rw [← keptTo_twice h S.length]; exact keptTo_le _ _ _
  show (popS S t).take _ = S.take _
  rw [e]
  simp only [popS, List.take_take, Nat.min_eq_left l2]
theorem popS_snoc (S : List (Int × Int)) (p e x : Int) : popS (S ++ [(p, e)]) x = if e ≤ x then popS S x else S ++ [(p, e)] := by
  have hY : Y (S ++ [(p, e)]) S.length = e := by simp [Y]
  have hk : keptTo (S ++ [(p, e)]) x (S ++ [(p, e)]).length = if e ≤ x then keptTo (S ++ [(p, e)]) x S.length else S.length + 1 := by
    rw [List.length_append, List.length_singleton]
    simp only [keptTo, hY]
  have l := keptTo_le S x S.length
  unfold popS
  rw [hk]
  by_cases h : e ≤ x
  · rw [if_pos h, if_pos h, keptTo_same (T := S) S.length fun i hi => Y_left hi, List.take_append_of_le_length l]
  · rw [if_neg h, if_neg h]
    exact List.take_of_length_le (by simp)

/-- who is left of the first j, as they come -/
def stk (L : List (Int × Int)) : Nat → List (Int × Int)
  | 0 => []
  | j + 1 => popS (stk L j) (X L j) ++ [((j : Int), perE L j)]
def leftL (L : List (Int × Int)) (a : Nat) : List (Int × Int) := popS (stk L a) (X L a)
theorem stk_len (L : List (Int × Int)) : ∀ j, (stk L j).length ≤ j := by
  intro j
  induction j with
  | zero => exact Nat.le_refl _
  | succ j ih =>
    have := keptTo_le (stk L j) (X L j) (stk L j).length
    simp only [stk, List.length_append, popS_len, List.length_singleton]; omega
theorem leftL_len_le (L : List (Int × Int)) (a : Nat) : (leftL L a).length ≤ a := by
  have := keptTo_le (stk L a) (X L a) (stk L a).length
  have := stk_len L a
  rw [leftL, popS_len]; omega
theorem stk_pop {L : List (Int × Int)} {x : Int} : ∀ j, (∀ i, i < j → X L i ≤ x) → (leftTo L x j = -1 ∧ popS (stk L j) x = []) ∨ (∃ k : Nat, leftTo L x j = k ∧ k < j ∧ popS (stk L j) x = stk L (k + 1)) := by
  intro j
  induction j with
  | zero => intro _; exact .inl ⟨rfl, rfl⟩
  | succ j ih =>
    intro h
    simp only [leftTo]
    rw [show popS (stk L (j + 1)) x = _ from popS_snoc (popS (stk L j) (X L j)) j (perE L j) x]
    by_cases hx : x < perE L j
    · rw [if_pos hx, if_neg (by omega)]
      exact .inr ⟨j, rfl, by omega, rfl⟩
    · rw [if_neg hx, if_pos (by omega), popS_twice (h j (by omega))]
      rcases ih fun i hi => h i (by omega) with ⟨e, hp⟩ | ⟨k, e, hk, hp⟩
      · exact .inl ⟨e, hp⟩
      · exact .inr ⟨k, e, by omega, hp⟩
theorem leftL_top {L : List (Int × Int)} (hc : cOk L = true) {a : Nat} (ha : a < L.length) :
    (leftF L a = -1 ∧ leftL L a = []) ∨ (∃ k : Nat, leftF L a = k ∧ k < a ∧ leftL L a = leftL L k ++ [((k : Int), perE L k)]) :=
  stk_pop a fun i hi => cOk_mono hc (by omega) ha
theorem leftL_deep {L : List (Int × Int)} (hc : cOk L = true) : ∀ a, a < L.length → ((leftL L a).length : Int) + 1 = deepF L a := by
  intro a
  induction a using Nat.strongRecOn with
  | ind a ih =>
    intro ha
    rcases leftL_top hc ha with ⟨e, hp⟩ | ⟨k, e, hk, hp⟩
    · rw [hp, deepF_none e]; rfl
    · have := ih k hk (by omega)
      rw [hp, deepF_left e, List.length_append, List.length_singleton]; omega

end Go.Proofs.Ytmimcgjobgfgfaa

