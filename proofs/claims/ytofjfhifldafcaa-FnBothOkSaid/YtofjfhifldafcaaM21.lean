/- Plain mathematics of chapter 7, third part (ahead): exchanges, and what the laws say. -/
import Derived.Test.YtofjfhifldafcaaM20
namespace Go.Proofs.Ytofjfhifldafcaa
set_option linter.unusedVariables false
open Go.RowKit

def ratioV (L : List (Int × Int)) : List Int := if tOk L = true then byR L L.length else []
theorem ratioV_yes {L : List (Int × Int)} (h : tOk L = true) : ratioV L = byR L L.length := if_pos h
theorem ratioV_no {L : List (Int × Int)} (h : tOk L = false) : ratioV L = [] := by simp [ratioV, h]
theorem ratioV_len (L : List (Int × Int)) : (ratioV L).length ≤ 6 := by
  unfold ratioV; split
  · rename_i h; rw [byR_len]; exact (tOk_parts h).2.2
  · simp

/-! an exchange of neighbours -/
def swapL (o : List Int) (k : Nat) : List Int := (o.set k (Z o (k + 1))).set (k + 1) (Z o k)
def swapOk (o : List Int) (a : Int) : Bool := eachV o o.length && decide (0 ≤ a ∧ a ≤ (o.length : Int) - 2)
def swapR (o : List Int) (a : Int) : List Int := if swapOk o a = true then swapL o a.toNat else []
theorem swapOk_parts {o : List Int} {a : Int} (h : swapOk o a = true) : eachV o o.length = true ∧ 0 ≤ a ∧ a ≤ (o.length : Int) - 2 := by
  simpa [swapOk] using h
theorem swapR_yes {o : List Int} {a : Int} (h : swapOk o a = true) : swapR o a = swapL o a.toNat := if_pos h
theorem swapR_no {o : List Int} {a : Int} (h : swapOk o a = false) : swapR o a = [] := by simp [swapR, h]
theorem swapL_len (o : List Int) (k : Nat) : (swapL o k).length = o.length := by simp [swapL]
theorem swapL_get {o : List Int} {k i : Nat} (h : i < (swapL o k).length) (h2 : i < o.length) : (swapL o k)[i] = if k + 1 = i then Z o k else if k = i then Z o (k + 1) else o[i] := by
  simp only [swapL, List.getElem_set]
theorem parts_two {o : List Int} {k : Nat} (h : k + 1 < o.length) : o = o.take k ++ Z o k :: Z o (k + 1) :: o.drop (k + 2) := by
  rw [Z_get (by omega), Z_get (by omega)]
  conv => lhs; rw [← List.take_append_drop k o]
  rw [List.drop_eq_getElem_cons (show k < o.length by omega), List.drop_eq_getElem_cons (show k + 1 < o.length by omega)]
theorem swapL_parts {o : List Int} {k : Nat} (h : k + 1 < o.length) : swapL o k = o.take k ++ Z o (k + 1) :: Z o k :: o.drop (k + 2) := by
  apply List.ext_getElem (by simp [swapL]; omega)
  intro i h1 h2
  rw [swapL_len] at h1
  have hk : (o.take k).length = k := by simp; omega
  rw [swapL_get (by rw [swapL_len]; exact h1) h1]
  by_cases e1 : k + 1 = i
  · subst e1
    rw [if_pos rfl, List.getElem_append_right (by omega)]
    simp [hk]
  · rw [if_neg e1]
    by_cases e0 : k = i
    · subst e0
      rw [if_pos rfl, List.getElem_append_right (by omega)]
      simp [hk]
    · rw [if_neg e0]
      by_cases hi : i < k
      · rw [List.getElem_append_left (by omega), List.getElem_take]
      · rw [List.getElem_append_right (by omega)]
        obtain ⟨j, rfl⟩ : ∃ j, i = k + 2 + j := ⟨i - (k + 2), by omega⟩
        have e : k + 2 + j - (o.take k).length = j + 2 := by omega
        simp only [e, List.getElem_cons_succ, List.getElem_drop]
theorem swapL_perm {o : List Int} {k : Nat} (h : k + 1 < o.length) : (swapL o k).Perm o := by
  rw [swapL_parts h]
  conv => rhs; rw [parts_two h]
  exact List.Perm.append_left _ (List.Perm.swap _ _ _)
theorem swapL_each {o : List Int} {k : Nat} {n : Int} (hk : k + 1 < o.length) (h : eachV o n = true) : eachV (swapL o k) n = true := each_of_perm h (swapL_perm hk).symm
theorem swapL_swap {o : List Int} {k : Nat} (h : k + 1 < o.length) : swapL (swapL o k) k = o := by
  apply List.ext_getElem (by simp [swapL])
  intro i h1 h2
  have h3 : i < (swapL o k).length := by rw [swapL_len]; exact h2
  have z0 : Z (swapL o k) k = Z o (k + 1) := by
    rw [Z_get (by rw [swapL_len]; omega), swapL_get (by rw [swapL_len]; omega) (by omega), if_neg (by omega), if_pos rfl]
  have z1 : Z (swapL o k) (k + 1) = Z o k := by
    rw [Z_get (by rw [swapL_len]; omega), swapL_get (by rw [swapL_len]; omega) (by omega), if_pos rfl]
  rw [swapL_get h1 h3, z0, z1, swapL_get h3 h2]
  by_cases e1 : k + 1 = i
  · subst e1; rw [if_pos rfl, Z_get]
  · rw [if_neg e1]
    by_cases e0 : k = i
    · subst e0; rw [if_pos rfl, Z_get]
    · rw [if_neg e0, if_neg e1, if_neg e0]
/-- AN EXCHANGE CHANGES BY CROSSWISE PRODUCTS -/
theorem swap_sum {L : List (Int × Int)} {o : List Int} (ht : tOk L = true) (h : eachV o L.length = true) {k : Nat} (hk : k + 1 < o.length) :
    wsumV L (swapL o k) = wsumV L o + wt L (Z o k) * nd L (Z o (k + 1)) - wt L (Z o (k + 1)) * nd L (Z o k) := by
  rw [wsumV_yes ht (swapL_each hk h), wsumV_yes ht h, wsW_all, wsW_all, swapL_parts hk]
  conv => rhs; rw [show wl L 0 o = wl L 0 (o.take k ++ Z o k :: Z o (k + 1) :: o.drop (k + 2)) by rw [← parts_two hk]]
  rw [wl_append, wl_append]
  simp only [wl]
  generalize 0 + sumL (nd L) (o.take k) = t
  generalize Z o k = a
  generalize Z o (k + 1) = b
  rw [show t + nd L b + nd L a = t + nd L a + nd L b by omega]
  generalize wl L (t + nd L a + nd L b) (o.drop (k + 2)) = q
  simp only [Int.add_mul]
  rw [Int.mul_comm (wt L a), Int.mul_comm (wt L b)]
  omega

/-! what is least -/
def diagTo (L : List (Int × Int)) : Nat → Int
  | 0 => 0
  | k + 1 => diagTo L k + X L k * Y L k
theorem diagTo_sum (L : List (Int × Int)) : ∀ k, diagTo L k = sumL (fun v => nd L v * wt L v) (upto k) := by
  intro k
  induction k with
  | zero => rfl
  | succ k ih =>
    have e : upto (k + 1) = upto k ++ [(k : Int)] := by simp [upto, List.range_succ]
    rw [e, sumL_append, ← ih]
    simp [diagTo, sumL, nd, wt]
theorem cross_nn {L : List (Int × Int)} {o : List Int} (h : ∀ v, v ∈ o → 0 ≤ nd L v ∧ 0 ≤ wt L v) : 0 ≤ cross L o := by
  induction o with
  | nil => exact Int.le_refl _
  | cons v o ih =>
    have i := ih (fun u hu => h u (by simp [hu]))
    have a : sumL (fun _ => 0) o ≤ sumL (fun j => nd L v * wt L j) o := sumL_le (fun j hj => Int.mul_nonneg (h v (by simp)).1 (h j (by simp [hj])).2)
    have z : ∀ p : List Int, sumL (fun _ => 0) p = 0 := by intro p; induction p with | nil => rfl | cons u p ih => simp [sumL, ih]
    rw [z] at a
    simp only [cross]; omega
theorem least_diag {L : List (Int × Int)} (h : tOk L = true) : diagTo L L.length ≤ leastW L := by
  have hr := byR_each h
  rw [leastW_ratio h, wsumV_yes h hr, wsW_all, wl_cross, diagTo_sum, ← sumL_perm _ (each_perm hr)]
  have c := cross_nn (L := L) (o := byR L L.length) (fun v hv => by
    have := tOk_at h ((each_iff.1 hr).2.2.1 v hv); omega)
  omega
theorem wl_zero {L : List (Int × Int)} {o : List Int} (h : ∀ v, v ∈ o → wt L v = 0) : ∀ t, wl L t o = 0 := by
  induction o with
  | nil => intro t; rfl
  | cons v o ih =>
    intro t
    simp only [wl, h v (by simp), ih (fun u hu => h u (by simp [hu]))]; simp
theorem diag_zero {L : List (Int × Int)} (h : tOk L = true) : ∀ k, k ≤ L.length → 0 ≤ diagTo L k ∧ diagTo L k ≤ 81 * k ∧ (diagTo L k = 0 → ∀ i, i < k → Y L i = 0) := by
  intro k
  induction k with
  | zero => intro _; exact ⟨by simp [diagTo], by simp [diagTo], fun _ i hi => by omega⟩
  | succ k ih =>
    intro hk
    obtain ⟨i1, i2, i3⟩ := ih (by omega)
    obtain ⟨⟨b1, b2⟩, b3, b4⟩ := (tOk_parts h).1 k (by omega)
    have m1 : 0 ≤ X L k * Y L k := Int.mul_nonneg (by omega) b3
    have m2 : X L k * Y L k ≤ 9 * 9 := Int.mul_le_mul b2 b4 b3 (by omega)
    have m3 : 1 * Y L k ≤ X L k * Y L k := Int.mul_le_mul_of_nonneg_right b1 b3
    simp only [diagTo]
    refine ⟨by omega, by omega, fun e i hi => ?_⟩
    by_cases ei : i = k
    · subst ei; omega
    · exact i3 (by omega) i (by omega)
theorem least_free {L : List (Int × Int)} (h : tOk L = true) (hz : ∀ i, i < L.length → Y L i = 0) : leastW L = 0 := by
  have hr := byR_each h
  rw [leastW_ratio h, wsumV_yes h hr, wsW_all]
  refine wl_zero (fun v hv => ?_) 0
  have b := (each_iff.1 hr).2.2.1 v hv
  exact hz v.toNat (by omega)
theorem least_none {L : List (Int × Int)} (h : tOk L = true) (hd : diagTo L L.length = 0) : leastW L = 0 :=
  least_free h ((diag_zero h L.length (Nat.le_refl _)).2.2 hd)
/-- the tasks without weights -/
def freeTo (L : List (Int × Int)) (k : Nat) : List (Int × Int) := (L.take k).map fun c => (c.1, 0)
theorem freeTo_len {L : List (Int × Int)} {k : Nat} (h : k ≤ L.length) : (freeTo L k).length = k := by simp [freeTo]; omega
theorem freeTo_succ {L : List (Int × Int)} {k : Nat} (h : k < L.length) : freeTo L (k + 1) = freeTo L k ++ [(X L k, 0)] := by
  have e : L.take (k + 1) = L.take k ++ [L[k]] := by rw [List.take_append_getElem]
  have ex : X L k = L[k].1 := by simp [X, h]
  rw [ex, freeTo, e, List.map_append]; rfl
theorem freeTo_XY {L : List (Int × Int)} {k i : Nat} (hk : k ≤ L.length) (h : i < k) : X (freeTo L k) i = X L i ∧ Y (freeTo L k) i = 0 := by
  have h1 : i < L.length := by omega
  have h2 : i < (freeTo L k).length := by rw [freeTo_len hk]; exact h
  simp [X, Y, freeTo, h, h1]
theorem free_least {L : List (Int × Int)} (h : tOk L = true) : leastW (freeTo L L.length) = 0 := by
  have hp := tOk_parts h
  have hl := freeTo_len (L := L) (Nat.le_refl L.length)
  have hok : tOk (freeTo L L.length) = true := by
    simp only [tOk, Bool.and_eq_true, decide_eq_true_eq, tOkTo_iff, hl]
    refine ⟨fun i hi => ?_, by omega, by omega⟩
    have e := freeTo_XY (L := L) (Nat.le_refl _) hi
    have b := hp.1 i hi
    rw [e.1, e.2]; omega
  exact least_free hok (fun i hi => (freeTo_XY (Nat.le_refl _) (by rw [hl] at hi; exact hi)).2)

/-! from the last one to the first one -/
theorem each_back {o : List Int} {n : Int} : eachV o.reverse n = eachV o n := by
  cases h : eachV o n with
  | true => exact each_of_perm h (List.reverse_perm o).symm
  | false =>
    cases h2 : eachV o.reverse n with
    | false => rfl
    | true => rw [each_of_perm h2 (List.reverse_perm o)] at h; cases h
theorem each_has {o : List Int} {n : Int} (h : eachV o n = true) {k : Int} (hk : 0 ≤ k ∧ k < n) : k ∈ o := by
  have hl := (each_iff.1 h).1
  have e : n = ((n.toNat : Nat) : Int) := by omega
  rw [e] at h
  exact (each_perm h).mem_iff.2 (mem_upto.2 (by omega))
theorem tOk_back (L : List (Int × Int)) : tOk L.reverse = tOk L := by
  have key : ∀ M : List (Int × Int), tOk M = true → tOk M.reverse = true := by
    intro M h
    have hp := tOk_parts h
    simp only [tOk, Bool.and_eq_true, decide_eq_true_eq, tOkTo_iff, List.length_reverse]
    refine ⟨fun i hi => ?_, by omega, by omega⟩
    have b := hp.1 (M.length - 1 - i) (by omega)
    have e : M.reverse.getD i (0, 0) = M.getD (M.length - 1 - i) (0, 0) := by
      simp only [List.getD_eq_getElem?_getD]
      rw [List.getElem?_reverse hi]
    simp only [X, Y] at b ⊢
    rw [e]; exact b
  cases h : tOk L with
  | true => exact key L h
  | false =>
    cases h2 : tOk L.reverse with
    | false => rfl
    | true => have := key _ h2; rw [List.reverse_reverse, h] at this; cases this

end Go.Proofs.Ytofjfhifldafcaa

