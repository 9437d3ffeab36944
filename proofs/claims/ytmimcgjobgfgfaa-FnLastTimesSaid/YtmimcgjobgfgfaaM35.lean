/- The stack of who is left (chapter 8's program): who has ended is taken off its top -/
import Derived.Test.YtmimcgjobgfgfaaM23
namespace Go.Proofs.Ytmimcgjobgfgfaa
set_option linter.unusedVariables false
open Go.RowKit

/-- how many of the first m are kept, if at a time whoever is at the top and has ended goes -/
def keptTo (S : List (Int × Int)) (x : Int) : Nat → Nat
  | 0 => 0
  | m + 1 => if Y S m ≤ x then keptTo S x m else m + 1
theorem keptTo_le (S : List (Int × Int)) (x : Int) : ∀ m, keptTo S x m ≤ m := by
  intro m
  induction m with
  | zero => exact Nat.le_refl _
  | succ m ih =>
    simp only [keptTo]
    by_cases h : Y S m ≤ x
    · rw [if_pos h]; omega
    · rw [if_neg h]; omega
theorem keptTo_same {S T : List (Int × Int)} {x : Int} : ∀ m, (∀ i, i < m → Y S i = Y T i) → keptTo S x m = keptTo T x m := by
  intro m
  induction m with
  | zero => intro _; rfl
  | succ m ih =>
    intro h
    simp only [keptTo, h m (by omega), ih fun i hi => h i (by omega)]
theorem keptTo_twice {S : List (Int × Int)} {t x : Int} (h : t ≤ x) : ∀ m, keptTo S x (keptTo S t m) = keptTo S x m := by
  intro m
  induction m with
  | zero => rfl
  | succ m ih =>
    by_cases ht : Y S m ≤ t
    · rw [show keptTo S t (m + 1) = keptTo S t m from if_pos ht, ih]
      exact (if_pos (Int.le_trans ht h)).symm
    · rw [show keptTo S t (m + 1) = m + 1 from if_neg ht]
def popS (S : List (Int × Int)) (x : Int) : List (Int × Int) := S.take (keptTo S x S.length)
theorem popS_len (S : List (Int × Int)) (x : Int) : (popS S x).length = keptTo S x S.length := by
  have := keptTo_le S x S.length
  simp only [popS, List.length_take]; omega
theorem Y_left {S T : List (Int × Int)} {i : Nat} (h : i < S.length) : Y (S ++ T) i = Y S i := by simp [Y, List.getElem?_append_left h]
theorem popS_twice {S : List (Int × Int)} {t x : Int} (h : t ≤ x) : popS (popS S t) x = popS S x := by
  have e : keptTo (popS S t) x (popS S t).length = keptTo S x S.length := by
    rw [popS_len, ← keptTo_twice h S.length]
    exact keptTo_same _ fun i hi => Y_take hi
  have l1 := keptTo_le S t S.length
  have l2 : keptTo S x S.length ≤ keptTo S t S.length := by
    rw [← keptTo_twice h S.length]; exact keptTo_le _ _ _
  show (popS S t).take _ = S.take _
  rw [e]
  simp only [popS, List.take_take, Nat.min_eq_left l2]
theorem popS_snoc (S : List (Int × Int)) (p e x : Int) : popS (S ++ [(p, e)]) x = if e ≤ x then popS S x else S ++ [(p, e)] := by
  have hY : Y (S ++ [(p, e)]) S.length = e := by simp [Y]
  have hk : keptTo (S ++ [(p, e)]) x (S ++ [(p, e)]).length = if e ≤ x then keptTo (S ++ [(p, e)]) x S.length else S.length + 1 := by
    rw [List.length_append, List.length_singleton]
    simp only [keptTo, hY]
  have l := keptTo_le S x S.length
  unfold popS
  rw [hk]
  by_cases h : e ≤ x
  · rw [if_pos h, if_pos h, keptTo_same (T := S) S.length fun i hi => Y_left hi, List.take_append_of_le_length l]
  · rw [if_neg h, if_neg h]
    exact List.take_of_length_le (by simp)

/-- who is left of the first j, as they come -/
def stk (L : List (Int × Int)) : Nat → List (Int × Int)
  | 0 => []
  | j + 1 => popS (stk L j) (X L j) ++ [((j : Int), perE L j)]
def leftL (L : List (Int × Int)) (a : Nat) : List (Int × Int) := popS (stk L a) (X L a)
theorem stk_len (L : List (Int × Int)) : ∀ j, (stk L j).length ≤ j := by
  intro j
  induction j with
  | zero => exact Nat.le_refl _
  | succ j ih =>
    have := keptTo_le (stk L j) (X L j) (stk L j).length
    simp only [stk, List.length_append, popS_len, List.length_singleton]; omega
theorem leftL_len_le (L : List (Int × Int)) (a : Nat) : (leftL L a).length ≤ a := by
  have := keptTo_le (stk L a) (X L a) (stk L a).length
  have := stk_len L a
  rw [leftL, popS_len]; omega
theorem stk_pop {L : List (Int × Int)} {x : Int} : ∀ j, (∀ i, i < j → X L i ≤ x) → (leftTo L x j = -1 ∧ popS (stk L j) x = []) ∨ (∃ k : Nat, leftTo L x j = k ∧ k < j ∧ popS (stk L j) x = stk L (k + 1)) := by
  intro j
  induction j with
  | zero => intro _; exact .inl ⟨rfl, rfl⟩
  | succ j ih =>
    intro h
    simp only [leftTo]
    rw [show popS (stk L (j + 1)) x = _ from popS_snoc (popS (stk L j) (X L j)) j (perE L j) x]
    by_cases hx : x < perE L j
    · rw [if_pos hx, if_neg (by omega)]
      exact .inr ⟨j, rfl, by omega, rfl⟩
    · rw [if_neg hx, if_pos (by omega), popS_twice (h j (by omega))]
      rcases ih fun i hi => h i (by omega) with ⟨e, hp⟩ | ⟨k, e, hk, hp⟩
      · exact .inl ⟨e, hp⟩
      · exact .inr ⟨k, e, by omega, hp⟩
theorem leftL_top {L : List (Int × Int)} (hc : cOk L = true) {a : Nat} (ha : a < L.length) :
    (leftF L a = -1 ∧ leftL L a = []) ∨ (∃ k : Nat, leftF L a = k ∧ k < a ∧ leftL L a = leftL L k ++ [((k : Int), perE L k)]) :=
  stk_pop a fun i hi => cOk_mono hc (by omega) ha
theorem leftL_deep {L : List (Int × Int)} (hc : cOk L = true) : ∀ a, a < L.length → ((leftL L a).length : Int) + 1 = deepF L a := by
  intro a
  induction a using Nat.strongRecOn with
  | ind a ih =>
    intro ha
    rcases leftL_top hc ha with ⟨e, hp⟩ | ⟨k, e, hk, hp⟩
    · rw [hp, deepF_none e]; rfl
    · have := ih k hk (by omega)
      rw [hp, deepF_left e, List.length_append, List.length_singleton]; omega

end Go.Proofs.Ytmimcgjobgfgfaa

