/- Plain mathematics of chapter 9, fourth part (ahead): backwards the least is the same; bounds of the least; both needs exchanged. -/
import Derived.Test.YtofjfhifldafcaaM27
namespace Go.Proofs.Ytofjfhifldafcaa
set_option linter.unusedVariables false
open Go.RowKit

/-- the places of an order, seen from the other end -/
def flipO (n : Nat) (o : List Int) : List Int := (o.map fun v => (n : Int) - 1 - v).reverse
theorem flipO_len (n : Nat) (o : List Int) : (flipO n o).length = o.length := by simp [flipO]
theorem flipO_each {n : Nat} {o : List Int} (h : eachV o n = true) : eachV (flipO n o) n = true := by
  have hp := each_iff.1 h
  refine each_iff.2 ⟨hp.1, by rw [flipO_len]; exact hp.2.1, fun v hv => ?_, ?_⟩
  · simp only [flipO, List.mem_reverse, List.mem_map] at hv
    obtain ⟨u, hu, rfl⟩ := hv
    have := hp.2.2.1 u hu
    omega
  · rw [flipO, List.Nodup, List.pairwise_reverse, List.pairwise_map]
    exact hp.2.2.2.imp fun {a b} hab e => hab (by omega)
theorem backB_XY {L : List (Int × Int)} {i : Nat} (h : i < L.length) : X (backB L) i = Y L (L.length - 1 - i) ∧ Y (backB L) i = X L (L.length - 1 - i) := by
  have h2 : i < (backB L).length := by rw [backB_len]; exact h
  rw [X_get h2, Y_get h2, X_get (L := L) (i := L.length - 1 - i) (by omega), Y_get (L := L) (i := L.length - 1 - i) (by omega)]
  simp [backB]
theorem gB_back {L : List (Int × Int)} {v : Int} (h : 0 ≤ v ∧ v ≤ (L.length : Int) - 1) : gB (backB L) ((L.length : Int) - 1 - v) = ((gB L v).2, (gB L v).1) := by
  have := backB_XY (L := L) (i := ((L.length : Int) - 1 - v).toNat) (by omega)
  simp only [gB]
  rw [this.1, this.2, show L.length - 1 - ((L.length : Int) - 1 - v).toNat = v.toNat by omega]
theorem inOrd_flip {L : List (Int × Int)} {o : List Int} (h : eachV o L.length = true) : inOrd (backB L) (flipO L.length o) = backB (inOrd L o) := by
  have hp := each_iff.1 h
  simp only [inOrd, flipO, backB, List.map_reverse, List.map_map]
  congr 1
  exact List.map_congr_left fun v hv => gB_back (hp.2.2.1 v hv)
theorem leastB_up {L : List (Int × Int)} (h : bOk L = true) : leastB (backB L) ≤ leastB L := by
  have he := pairsR_each h
  have hf := flipO_each he
  rw [leastB_pairs h]
  have := leastB_le (L := backB L) (bOk_back h) (p := flipO L.length (pairsR L)) (by rw [backB_len]; exact hf)
  rw [inOrd_flip he, lw_back (bOk_okB (bOk_inOrd h he))] at this
  exact this
/-- BACKWARDS THE LEAST IS THE SAME -/
theorem leastB_back {L : List (Int × Int)} (h : bOk L = true) : leastB (backB L) = leastB L := by
  have a := leastB_up h
  have b := leastB_up (bOk_back h)
  rw [backB_back] at b
  omega
theorem lw_lowS {L : List (Int × Int)} {m : Int} (h : okB L) (hp : L ≠ []) (hm : ∀ c, c ∈ L → m ≤ c.2) : sF L + m ≤ lw L := by
  induction L with
  | nil => exact absurd rfl hp
  | cons c t ih =>
    have hc := hm c (by simp)
    have hs := sS_nn h.tail
    simp only [lw, sF]
    by_cases e : t = []
    · subst e; simp only [lw, sF, sS]; omega
    · have := ih h.tail e (fun d hd => hm d (by simp [hd])); omega
/-- the least need at the second counter, at most 9 -/
def lowN (L : List (Int × Int)) : Nat → Int
  | 0 => 9
  | k + 1 => min (lowN L k) (Y L k)
theorem lowN_le (L : List (Int × Int)) : ∀ k i, i < k → lowN L k ≤ Y L i := by
  intro k
  induction k with
  | zero => intro i hi; omega
  | succ k ih =>
    intro i hi
    simp only [lowN]
    by_cases e : i = k
    · subst e; omega
    · have := ih i (by omega); omega
theorem lowN_bd {L : List (Int × Int)} (h : bOk L = true) : ∀ k, k ≤ L.length → 1 ≤ lowN L k ∧ lowN L k ≤ 9 := by
  intro k
  induction k with
  | zero => intro _; simp [lowN]
  | succ k ih => intro hk; have := ih (by omega); have := (bOk_parts h).1 k (by omega); simp only [lowN]; omega
theorem leastB_low {L : List (Int × Int)} (h : bOk L = true) : pF L L.length + lowN L L.length ≤ leastB L := by
  have he := pairsR_each h
  have hq := inOrd_perm (L := L) (pairsR_perm h)
  have hb := bOk_okB (bOk_inOrd h he)
  rw [leastB_pairs h, pF_take L _ (Nat.le_refl _), List.take_length, ← sF_perm hq]
  have hp := bOk_parts h
  refine lw_lowS hb (fun e => ?_) fun c hc => ?_
  · have := hq.length_eq; rw [e] at this; simp at this; omega
  · obtain ⟨i, hi, rfl⟩ := List.getElem_of_mem (hq.mem_iff.1 hc)
    rw [← Y_get hi]
    exact lowN_le L _ i hi
theorem leastB_bd {L : List (Int × Int)} (h : bOk L = true) : 2 ≤ leastB L ∧ leastB L ≤ 108 := by
  have he := pairsR_each h
  have hb := bOk_okB (bOk_inOrd h he)
  have hp := bOk_parts h
  have hl : (inOrd L (pairsR L)).length = L.length := (inOrd_perm (pairsR_perm h)).length_eq
  have := lw_low hb (fun e => by rw [e] at hl; simp at hl; omega)
  have := sF_nn hb
  have := sS_nn hb
  rw [leastB_pairs h]; omega
theorem lw_bd {L : List (Int × Int)} (h : bOk L = true) : 2 ≤ lw L ∧ lw L ≤ 108 ∧ pF L L.length < lw L ∧ fS L 0 L.length < lw L ∧ lw L ≤ pF L L.length + fS L 0 L.length := by
  have hb := bOk_okB h
  have hp := bOk_parts h
  have := lw_low hb (fun e => by rw [e] at hp; simp at hp)
  have := sF_nn hb
  have := sS_nn hb
  rw [pF_take L _ (Nat.le_refl _), List.take_length, fS_all, List.drop_zero]; omega
/-- both needs of all exchanged -/
def swapB (L : List (Int × Int)) : List (Int × Int) := L.map fun c => (c.2, c.1)
theorem swapB_len (L : List (Int × Int)) : (swapB L).length = L.length := by simp [swapB]
theorem swapB_XY {L : List (Int × Int)} {i : Nat} (h : i < L.length) : X (swapB L) i = Y L i ∧ Y (swapB L) i = X L i := by
  have h2 : i < (swapB L).length := by rw [swapB_len]; exact h
  rw [X_get h2, Y_get h2, X_get h, Y_get h]
  simp [swapB]
theorem bOkTo_swap {L : List (Int × Int)} : bOkTo (swapB L) L.length = bOkTo L L.length := by
  refine Bool.eq_iff_iff.2 ?_
  rw [bOkTo_iff, bOkTo_iff]
  constructor
  · intro a i hi
    have := a i hi
    rw [(swapB_XY hi).1, (swapB_XY hi).2] at this
    exact ⟨this.2, this.1⟩
  · intro a i hi
    have := a i hi
    rw [(swapB_XY hi).1, (swapB_XY hi).2]
    exact ⟨this.2, this.1⟩
theorem bOk_swap (L : List (Int × Int)) : bOk (swapB L) = bOk L := by
  rw [bOk, bOk, swapB_len, bOkTo_swap]

end Go.Proofs.Ytofjfhifldafcaa

