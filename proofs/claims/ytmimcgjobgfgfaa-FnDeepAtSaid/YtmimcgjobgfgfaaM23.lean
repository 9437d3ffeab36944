/- Last come: who is left; services are within each other; how deep; the first busy period from a customer on. -/
import Derived.Test.YtmimcgjobgfgfaaM22
import Derived.Test.YtmimcgjobgfgfaaM16
import Derived.Test.YtmimcgjobgfgfaaK5
namespace Go.Proofs.Ytmimcgjobgfgfaa
set_option linter.unusedVariables false
open Go.RowKit

/-- SERVICES ARE WITHIN EACH OTHER -/
theorem period_within {L : List (Int × Int)} (hc : cOk L = true) {j k : Nat} (hjk : j < k) (hk : k < L.length) (h : X L k < perE L j) : perE L k ≤ perE L j := by
  refine Int.not_lt.1 fun hlt => ?_
  have xm := cOk_mono hc (i := j) (j := k) (by omega) hk
  have w := perE_work hc hk (t := perE L j) h (by omega)
  have all := perE_all hc (a := j) (by omega)
  have hne : ¬ sumTo L (cnt L (perE L j - 1)) - sumTo L k = perE L j - X L k := fun e => by
    have := w.2 e; omega
  have sm := sumTo_mono hc (i := j) (j := k) (by omega) (by omega)
  by_cases e : X L j = X L k
  · omega
  · have w2 := perE_work hc (a := j) (by omega) (t := X L k) (by omega) (by omega)
    have hcl : cnt L (X L k - 1) ≤ k := Nat.le_of_not_lt fun hg => by
      have := (lt_cnt hc (t := X L k - 1) (j := k) hk).1 hg
      omega
    have sm2 := sumTo_mono hc hcl (by omega)
    omega

/-- the last one of the first j who is there at x; -1 if none is -/
def leftTo (L : List (Int × Int)) (x : Int) : Nat → Int
  | 0 => -1
  | j + 1 => if x < perE L j then j else leftTo L x j
theorem leftTo_spec {L : List (Int × Int)} {x : Int} : ∀ j, (leftTo L x j = -1 ∧ ∀ i, i < j → perE L i ≤ x) ∨ (∃ k : Nat, leftTo L x j = k ∧ k < j ∧ x < perE L k ∧ ∀ i, k < i → i < j → perE L i ≤ x) := by
  intro j
  induction j with
  | zero => exact .inl ⟨rfl, fun i h => by omega⟩
  | succ j ih =>
    simp only [leftTo]
    by_cases h : x < perE L j
    · rw [if_pos h]; exact .inr ⟨j, rfl, by omega, h, fun i h1 h2 => by omega⟩
    · rw [if_neg h]
      rcases ih with ⟨e, hi⟩ | ⟨k, e, hk, hx, hi⟩
      · refine .inl ⟨e, fun i h1 => ?_⟩
        by_cases e2 : i = j
        · subst e2; omega
        · exact hi i (by omega)
      · refine .inr ⟨k, e, by omega, hx, fun i h1 h2 => ?_⟩
        by_cases e2 : i = j
        · subst e2; omega
        · exact hi i h1 (by omega)
def leftF (L : List (Int × Int)) (a : Nat) : Int := leftTo L (X L a) a
theorem leftF_lt (L : List (Int × Int)) (a : Nat) : -1 ≤ leftF L a ∧ leftF L a < a := by
  rcases leftTo_spec (L := L) (x := X L a) a with ⟨e, _⟩ | ⟨k, e, hk, _⟩ <;> (unfold leftF; omega)
/-- how many are left one over the other -/
def deepN (L : List (Int × Int)) : Nat → Nat → Int
  | 0, _ => 1
  | f + 1, a => if leftF L a < 0 then 1 else 1 + deepN L f (leftF L a).toNat
def deepF (L : List (Int × Int)) (a : Nat) : Int := deepN L a a
theorem deepN_more (L : List (Int × Int)) : ∀ f a, a ≤ f → deepN L f a = deepF L a := by
  have key : ∀ a f g, a ≤ f → a ≤ g → deepN L f a = deepN L g a := by
    intro a
    induction a using Nat.strongRecOn with
    | ind a ih =>
      intro f g hf hg
      have lt := leftF_lt L a
      cases f with
      | zero =>
        obtain rfl : a = 0 := by omega
        cases g with
        | zero => rfl
        | succ g => simp only [deepN]; rw [if_pos (by omega)]
      | succ f =>
        cases g with
        | zero =>
          obtain rfl : a = 0 := by omega
          simp only [deepN]; rw [if_pos (by omega)]
        | succ g =>
          simp only [deepN]
          by_cases h : leftF L a < 0
          · rw [if_pos h, if_pos h]
          · rw [if_neg h, if_neg h, ih _ (by omega) f g (by omega) (by omega)]
  exact fun f a h => key a f a h (Nat.le_refl _)
theorem deepF_none {L : List (Int × Int)} {a : Nat} (h : leftF L a = -1) : deepF L a = 1 := by
  unfold deepF
  cases a with
  | zero => rfl
  | succ a => simp only [deepN]; rw [if_pos (by omega)]
theorem deepF_left {L : List (Int × Int)} {a k : Nat} (h : leftF L a = k) : deepF L a = 1 + deepF L k := by
  have lt := leftF_lt L a
  unfold deepF
  cases a with
  | zero => omega
  | succ a =>
    simp only [deepN]
    rw [if_neg (by omega), h, show ((k : Int)).toNat = k by simp, deepN_more L a k (by omega)]
    rfl
theorem deepF_bd (L : List (Int × Int)) : ∀ a, 1 ≤ deepF L a ∧ deepF L a ≤ a + 1 := by
  intro a
  induction a using Nat.strongRecOn with
  | ind a ih =>
    have lt := leftF_lt L a
    rcases leftTo_spec (L := L) (x := X L a) a with ⟨e, _⟩ | ⟨k, e, hk, _⟩
    · rw [deepF_none e]; omega
    · rw [deepF_left e]; have := ih k hk; omega
/-- how many of the first j are there at x -/
def aliveTo (L : List (Int × Int)) (x : Int) : Nat → Int
  | 0 => 0
  | j + 1 => aliveTo L x j + (if x < perE L j then 1 else 0)
theorem aliveTo_none {L : List (Int × Int)} {x : Int} {a : Nat} : ∀ d, (∀ i, a ≤ i → i < a + d → perE L i ≤ x) → aliveTo L x (a + d) = aliveTo L x a := by
  intro d
  induction d with
  | zero => intro _; rfl
  | succ d ih =>
    intro h
    have := ih fun i h1 h2 => h i h1 (by omega)
    have e := h (a + d) (by omega) (by omega)
    show aliveTo L x (a + d) + (if x < perE L (a + d) then 1 else 0) = _
    rw [if_neg (by omega)]; omega
theorem aliveTo_same {L : List (Int × Int)} {x y : Int} : ∀ j, (∀ i, i < j → (x < perE L i ↔ y < perE L i)) → aliveTo L x j = aliveTo L y j := by
  intro j
  induction j with
  | zero => intro _; rfl
  | succ j ih =>
    intro h
    have := ih fun i hi => h i (by omega)
    have e := h j (by omega)
    simp only [aliveTo, this]
    by_cases hx : x < perE L j
    · rw [if_pos hx, if_pos (e.1 hx)]
    · rw [if_neg hx, if_neg (fun hy => hx (e.2 hy))]
/-- EACH IS AS DEEP AS MANY ARE THERE -/
theorem alive_deep {L : List (Int × Int)} (hc : cOk L = true) : ∀ a, a < L.length → aliveTo L (X L a) (a + 1) = deepF L a := by
  intro a
  induction a using Nat.strongRecOn with
  | ind a ih =>
    intro ha
    have pa := perE_bd hc ha
    have bd := cOk_bd hc ha
    simp only [aliveTo]
    rw [if_pos (by omega)]
    rcases leftTo_spec (L := L) (x := X L a) a with ⟨e, hi⟩ | ⟨k, e, hk, hx, hi⟩
    · have n := aliveTo_none (L := L) (x := X L a) (a := 0) a fun i _ h2 => hi i (by omega)
      rw [Nat.zero_add] at n
      rw [n, deepF_none e]
      rfl
    · have n := aliveTo_none (L := L) (x := X L a) (a := k + 1) (a - (k + 1)) fun i h1 h2 => hi i (by omega) (by omega)
      rw [show k + 1 + (a - (k + 1)) = a by omega] at n
      have hkl : k < L.length := by omega
      have pk := perE_bd hc hkl
      have bk := cOk_bd hc hkl
      have xm := cOk_mono hc (i := k) (j := a) (by omega) ha
      have s := aliveTo_same (L := L) (x := X L a) (y := X L k) (k + 1) fun i hi2 => by
        constructor
        · intro h; omega
        · intro h
          by_cases e2 : i = k
          · subst e2; exact hx
          · have := period_within hc (j := i) (k := k) (by omega) hkl h
            omega
      rw [n, s, ih k hk hkl, deepF_left e]
      omega

/-- the functions' answers -/
def perV (L : List (Int × Int)) (t : Int) : Int := if placeOk L t = true then perE L t.toNat - X L t.toNat else -1
def leftV (L : List (Int × Int)) (t : Int) : Int := if placeOk L t = true then leftF L t.toNat else -2
def deepV (L : List (Int × Int)) (t : Int) : Int := if placeOk L t = true then deepF L t.toNat else -1
theorem perV_yes {L : List (Int × Int)} {t : Int} (h : placeOk L t = true) : perV L t = perE L t.toNat - X L t.toNat := if_pos h
theorem perV_no {L : List (Int × Int)} {t : Int} (h : placeOk L t = false) : perV L t = -1 := by simp [perV, h]
theorem leftV_yes {L : List (Int × Int)} {t : Int} (h : placeOk L t = true) : leftV L t = leftF L t.toNat := if_pos h
theorem leftV_no {L : List (Int × Int)} {t : Int} (h : placeOk L t = false) : leftV L t = -2 := by simp [leftV, h]
theorem deepV_yes {L : List (Int × Int)} {t : Int} (h : placeOk L t = true) : deepV L t = deepF L t.toNat := if_pos h
theorem deepV_no {L : List (Int × Int)} {t : Int} (h : placeOk L t = false) : deepV L t = -1 := by simp [deepV, h]
theorem placeOk_nat {L : List (Int × Int)} {t : Int} (h : placeOk L t = true) : ∃ n : Nat, t = n ∧ n < L.length ∧ cOk L = true := by
  obtain ⟨hc, ht⟩ : cOk L = true ∧ decide (0 ≤ t ∧ t ≤ (L.length : Int) - 1) = true := by simpa [placeOk] using h
  have := of_decide_eq_true ht
  exact ⟨t.toNat, by omega, by omega, hc⟩
theorem placeOk_mk {L : List (Int × Int)} {n : Nat} (hc : cOk L = true) (h : n < L.length) : placeOk L (n : Int) = true := by
  have : decide (0 ≤ (n : Int) ∧ (n : Int) ≤ (L.length : Int) - 1) = true := decide_eq_true (by omega)
  simp only [placeOk, hc, this, Bool.and_self]

/-- as the rule 1 serves, each is there as long as the period -/
theorem lasts {L : List (Int × Int)} (hc : cOk L = true) : timesR L (orderR L 1) = (List.range L.length).map fun k => perE L k - X L k := by
  obtain ⟨T, hT, hT2⟩ := lastLeave_nat hc
  have hp : byOk L 1 = true := by simp [byOk, hc]
  have e : orderR L 1 = orderTo L 1 T := by rw [orderR_yes hp, hT]; simp
  rw [e, timesR_yes (orderTo_ok hc 1 hT), timeL]
  refine List.map_congr_left fun k hk => ?_
  rw [orderTo_len, last_ends hc hT (List.mem_range.1 hk)]
theorem there_last {L : List (Int × Int)} (hc : cOk L = true) {a : Nat} (ha : a < L.length) (hal : a + 1 = L.length ∨ X L a < X L (a + 1)) : thereV L (orderR L 1) (X L a) = deepF L a := by
  obtain ⟨T, hT, hT2⟩ := lastLeave_nat hc
  have hp : byOk L 1 = true := by simp [byOk, hc]
  have e : orderR L 1 = orderTo L 1 T := by rw [orderR_yes hp, hT]; simp
  have bd := cOk_bd hc ha
  rw [e, thereV_yes (orderTo_ok hc 1 hT) (by omega), ← alive_deep hc a ha]
  have k1 : ∀ j, j ≤ a + 1 → thereN L (orderTo L 1 T) (X L a) j = aliveTo L (X L a) j := by
    intro j
    induction j with
    | zero => intro _; rfl
    | succ j ih =>
      intro hj
      have := ih (by omega)
      have xm := cOk_mono hc (i := j) (j := a) (by omega) ha
      simp only [thereN, aliveTo, this]
      rw [orderTo_len, last_ends hc hT (by omega)]
      by_cases h : X L a < perE L j
      · rw [if_pos ⟨xm, h⟩, if_pos h]
      · rw [if_neg (fun x => h x.2), if_neg h]
  have k2 : ∀ d, a + 1 + d ≤ L.length → thereN L (orderTo L 1 T) (X L a) (a + 1 + d) = thereN L (orderTo L 1 T) (X L a) (a + 1) := by
    intro d
    induction d with
    | zero => intro _; rfl
    | succ d ih =>
      intro hd
      have i := ih (by omega)
      have xm := cOk_mono hc (i := a + 1) (j := a + 1 + d) (by omega) (by omega)
      have ha2 : X L a < X L (a + 1) := by rcases hal with h | h <;> omega
      show thereN L (orderTo L 1 T) (X L a) (a + 1 + d) + (if X L (a + 1 + d) ≤ X L a ∧ X L a < endTo (orderTo L 1 T) (a + 1 + d) (orderTo L 1 T).length then 1 else 0) = _
      rw [if_neg (fun x => by have := x.1; omega), i]; omega
  have := k2 (L.length - (a + 1)) (by omega)
  rw [show a + 1 + (L.length - (a + 1)) = L.length by omega] at this
  rw [this, k1 _ (Nat.le_refl _)]

end Go.Proofs.Ytmimcgjobgfgfaa

