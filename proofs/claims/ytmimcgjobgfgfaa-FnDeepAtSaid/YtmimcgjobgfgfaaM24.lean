/- Last come: without the first customers; the first busy period from a customer on. -/
import Derived.Test.YtmimcgjobgfgfaaM23
import Derived.Test.YtmimcgjobgfgfaaK1
namespace Go.Proofs.Ytmimcgjobgfgfaa
set_option linter.unusedVariables false
open Go.RowKit

theorem X_drop (L : List (Int × Int)) (a i : Nat) : X (L.drop a) i = X L (a + i) := by simp [X, List.getElem?_drop]
theorem Y_drop (L : List (Int × Int)) (a i : Nat) : Y (L.drop a) i = Y L (a + i) := by simp [Y, List.getElem?_drop]
theorem perTo_drop (L : List (Int × Int)) (d a : Nat) : ∀ m, perTo (L.drop d) a m = perTo L (d + a) m := by
  intro m
  induction m with
  | zero => simp only [perTo, X_drop, Y_drop]
  | succ m ih =>
    simp only [perTo, X_drop, Y_drop, ih]
    rw [show d + (a + 1 + m) = d + a + 1 + m by omega]
theorem perE_drop (L : List (Int × Int)) (d a : Nat) : perE (L.drop d) a = perE L (d + a) := by
  unfold perE
  rw [perTo_drop, List.length_drop]
  congr 1
  omega
theorem cOk_drop {L : List (Int × Int)} (h : cOk L = true) (a : Nat) : cOk (L.drop a) = true := by
  have hl := cOk_len h
  have key : ∀ k, k ≤ (L.drop a).length → okTo (L.drop a) k = true := by
    intro k
    induction k with
    | zero => intro _; rfl
    | succ k ih =>
      intro hk
      rw [List.length_drop] at hk
      have i := ih (by rw [List.length_drop]; omega)
      have b := cOk_bd h (k := a + k) (by omega)
      have c : okAt (L.drop a) k = true := by
        simp only [okAt, cok, X_drop, Y_drop, Bool.and_eq_true, decide_eq_true_eq]
        refine ⟨⟨by omega, by omega⟩, ?_⟩
        unfold prevOf
        split
        · omega
        · rw [X_drop]; exact cOk_mono h (by omega) (by omega)
      simp only [okTo, i, c, Bool.and_self]
  have hk := key _ (Nat.le_refl _)
  have hd : decide ((L.drop a).length ≤ 8) = true := decide_eq_true (by rw [List.length_drop]; omega)
  simp only [cOk, hk, hd, Bool.and_self]

theorem first_busy {L : List (Int × Int)} (hc : cOk L = true) (hp : 0 < L.length) : 0 < (busyP L).length ∧ X (busyP L) 0 = X L 0 ∧ perE L 0 ≤ Y (busyP L) 0 ∧ ((∀ k, k < L.length → X L k ≠ perE L 0) → Y (busyP L) 0 = perE L 0) := by
  have inv := busyP_inv hc
  have b0 := cOk_bd hc hp
  have pb := perE_bd hc hp
  have hB : 0 < (busyP L).length := by
    obtain ⟨k, hk, _⟩ := inv.full (X L 0).toNat (by omega) (wk_come hc hp (by omega))
    omega
  obtain ⟨b, e, hbX, heY, hbe, he200⟩ := inv.nat hB
  have cf := cnt_first inv hc (by omega) hB
  have cb := cnt_before inv hc hB hbX
  have hfree := inv.free hc (by omega) hB heY
  have hbusy : ∀ u : Nat, b ≤ u → u < e → wk L u ≠ 0 := fun u h1 h2 => inv.busy 0 hB u (by omega) (by omega)
  rw [hbX] at cf
  rw [cf] at cb
  have s0 : srv L b = 0 := cb
  have hsrv : ∀ t, b ≤ t → t ≤ e → srv L t = (t : Int) - b := fun t h1 h2 => by
    have := srv_busy (L := L) (b := b) (t - b) (fun u u1 u2 => hbusy u u1 (by omega)) hc
    rw [show b + (t - b) = t by omega, s0] at this
    omega
  have hX : X L 0 = b := by
    refine Int.le_antisymm ?_ ?_
    · have w := wk_srv hc b
      have nz := hbusy b (Nat.le_refl _) (by omega)
      have nn := wk_nn hc b
      rw [s0] at w
      have : 0 < cnt L (b : Int) := by
        refine Nat.pos_of_ne_zero fun hz => ?_
        rw [hz] at w
        simp only [sumTo] at w
        omega
      exact (lt_cnt hc (t := (b : Int)) hp).1 this
    · refine Int.not_lt.1 fun hlt => ?_
      have := (lt_cnt hc (t := (b : Int) - 1) hp).2 (by omega)
      omega
  refine ⟨hB, by rw [hbX, hX], ?_, fun hno => ?_⟩
  · rw [heY]
    refine Int.not_lt.1 fun hlt => ?_
    have w := wk_srv hc e
    rw [hfree, hsrv e (by omega) (Nat.le_refl _)] at w
    have pw := perE_work hc hp (t := (e : Int)) (by omega) (by omega)
    have m := sumTo_mono hc (cnt_le' L (e : Int)) (cnt_le L _)
    simp only [sumTo] at pw
    have := pw.2 (by omega)
    omega
  · rw [heY]
    refine Int.le_antisymm ?_ ?_
    · refine Int.not_lt.1 fun hlt => ?_
      obtain ⟨E, hE⟩ : ∃ E : Nat, perE L 0 = E := ⟨(perE L 0).toNat, by omega⟩
      have w := wk_srv hc E
      have nz := hbusy E (by omega) (by omega)
      rw [hsrv E (by omega) (by omega)] at w
      have all := perE_all hc hp
      have hcnt : cnt L (E : Int) = cnt L ((E : Int) - 1) := by
        refine Nat.le_antisymm (Nat.le_of_not_lt fun h => ?_) (cnt_le' L _)
        have hcl := cnt_le L (E : Int)
        have x1 := (lt_cnt hc (t := (E : Int)) (j := cnt L ((E : Int) - 1)) (by omega)).1 h
        have x2 : ¬ X L (cnt L ((E : Int) - 1)) ≤ (E : Int) - 1 := fun hx => by
          have := (lt_cnt hc (t := (E : Int) - 1) (j := cnt L ((E : Int) - 1)) (by omega)).2 hx
          omega
        exact hno (cnt L ((E : Int) - 1)) (by omega) (by omega)
      rw [hE] at all
      simp only [sumTo] at all
      rw [hcnt] at w
      omega
    · refine Int.not_lt.1 fun hlt => ?_
      have w := wk_srv hc e
      rw [hfree, hsrv e (by omega) (Nat.le_refl _)] at w
      have pw := perE_work hc hp (t := (e : Int)) (by omega) (by omega)
      have m := sumTo_mono hc (cnt_le' L (e : Int)) (cnt_le L _)
      simp only [sumTo] at pw
      have := pw.2 (by omega)
      omega

end Go.Proofs.Ytmimcgjobgfgfaa

