/- Plain mathematics of chapter 4: what a rule picks, and the orders that rules tell (ahead of the landing). · Plain mathematics of chapter 4: which orders are orders, and which do not idle (ahead of the landing). · Plain mathematics of chapter 4: when customers end (ahead of the landing). · Plain mathematics of chapter 4: changes (ahead of the landing). -/
import Derived.Test.YtecoefjkobpbgaaM
import Derived.Test.YtecoefjkobpbgaaO
namespace Go.Proofs.Ytecoefjkobpbgaa
set_option linter.unusedVariables false
open Go.RowKit

theorem Z_set {xs : List Int} {n k : Nat} {v : Int} (h : n < xs.length) : Z (xs.set n v) k = if n = k then v else Z xs k := by
  simp only [Z, List.getD, List.getElem?_set]
  split
  · rename_i e; subst e; simp
  · rfl
def needs (L : List (Int × Int)) : List Int := L.map fun c => c.2
theorem needs_len (L : List (Int × Int)) : (needs L).length = L.length := by simp [needs]
theorem needs_Z {L : List (Int × Int)} {k : Nat} (h : k < L.length) : Z (needs L) k = Y L k := by simp [needs, Z, Y, h]
/-- one customer more is looked at -/
def pickStep (L : List (Int × Int)) (lf : List Int) (t rule who : Int) (k : Nat) : Int :=
  if t < X L k ∨ Z lf k = 0 then who
  else if who < 0 then k
  else if rule = 1 then k
  else if rule = 2 ∧ Z lf k < Z lf who.toNat then k
  else if rule = 3 ∧ Z lf who.toNat < Z lf k then k
  else who
def pickTo (L : List (Int × Int)) (lf : List Int) (t rule : Int) : Nat → Int
  | 0 => -1
  | k + 1 => pickStep L lf t rule (pickTo L lf t rule k) k
def pick (L : List (Int × Int)) (lf : List Int) (t rule : Int) : Int := pickTo L lf t rule L.length
theorem pickTo_ok (L : List (Int × Int)) (lf : List Int) (t rule : Int) : ∀ j,
    (pickTo L lf t rule j = -1 ∧ ∀ k, k < j → t < X L k ∨ Z lf k = 0) ∨ (∃ p : Nat, pickTo L lf t rule j = p ∧ p < j ∧ X L p ≤ t ∧ Z lf p ≠ 0) := by
  intro j
  induction j with
  | zero => exact .inl ⟨rfl, fun k h => by omega⟩
  | succ j ih =>
    simp only [pickTo, pickStep]
    by_cases h1 : t < X L j ∨ Z lf j = 0
    · rw [if_pos h1]
      rcases ih with ⟨e, hk⟩ | ⟨p, e, hp, h2, h3⟩
      · refine .inl ⟨e, fun k hk' => ?_⟩
        by_cases e2 : k = j
        · subst e2; exact h1
        · exact hk k (by omega)
      · exact .inr ⟨p, e, by omega, h2, h3⟩
    · rw [if_neg h1]
      have hj : ∃ p : Nat, ((j : Int) = (p : Int)) ∧ p < j + 1 ∧ X L p ≤ t ∧ Z lf p ≠ 0 := ⟨j, rfl, by omega, by omega, fun e => h1 (.inr e)⟩
      split
      · exact .inr hj
      · rename_i hw
        rcases ih with ⟨e, _⟩ | ⟨p, e, hp, h2, h3⟩
        · omega
        · split
          · exact .inr hj
          · split
            · exact .inr hj
            · split
              · exact .inr hj
              · exact .inr ⟨p, e, by omega, h2, h3⟩
/-- what is left after one is served, or nobody -/
def stepL (lf : List Int) (who : Int) : List Int := if 0 ≤ who then lf.set who.toNat (Z lf who.toNat - 1) else lf
theorem stepL_len (lf : List Int) (who : Int) : (stepL lf who).length = lf.length := by unfold stepL; split <;> simp
def ordL (L : List (Int × Int)) (rule : Int) : Nat → List Int
  | 0 => needs L
  | t + 1 => stepL (ordL L rule t) (pick L (ordL L rule t) t rule)
def ordW (L : List (Int × Int)) (rule : Int) (t : Nat) : Int := pick L (ordL L rule t) t rule
def orderTo (L : List (Int × Int)) (rule : Int) (n : Nat) : List Int := (List.range n).map (ordW L rule)
/-- what is left of those of the first j who have come -/
def thereTo (L : List (Int × Int)) (lf : List Int) (t : Int) : Nat → Int
  | 0 => 0
  | j + 1 => thereTo L lf t j + (if X L j ≤ t then Z lf j else 0)
theorem thereTo_set {L : List (Int × Int)} {lf : List Int} {t v : Int} {p : Nat} (h : p < lf.length) : ∀ j, thereTo L (lf.set p v) t j = thereTo L lf t j + (if p < j ∧ X L p ≤ t then v - Z lf p else 0) := by
  intro j
  induction j with
  | zero => simp [thereTo]
  | succ j ih =>
    simp only [thereTo, ih, Z_set h]
    by_cases e : p = j
    · subst e
      by_cases hx : X L p ≤ t
      · rw [if_neg (by omega), if_pos hx, if_pos rfl, if_pos hx, if_pos (by omega)]; omega
      · rw [if_neg (by omega), if_neg hx, if_neg hx, if_neg (by omega)]
    · rw [if_neg e]
      by_cases hp : p < j ∧ X L p ≤ t
      · rw [if_pos hp, if_pos (show p < j + 1 ∧ X L p ≤ t by omega)]; omega
      · rw [if_neg hp, if_neg (show ¬ (p < j + 1 ∧ X L p ≤ t) by omega)]; omega
structure OI (L : List (Int × Int)) (t : Nat) (lf : List Int) : Prop where
  len : lf.length = L.length
  rng : ∀ k, k < L.length → 0 ≤ Z lf k ∧ Z lf k ≤ Y L k
  late : ∀ k, k < L.length → (t : Int) ≤ X L k → Z lf k = Y L k
  sum : thereTo L lf t L.length = wk L t
theorem thereTo_none {L : List (Int × Int)} {lf : List Int} {t : Int} : ∀ j, (∀ k, k < j → t < X L k ∨ Z lf k = 0) → thereTo L lf t j = 0 := by
  intro j
  induction j with
  | zero => intro _; rfl
  | succ j ih =>
    intro h
    have h1 := h j (by omega)
    simp only [thereTo, ih (fun k hk => h k (by omega))]
    split
    · omega
    · omega
theorem thereTo_nn {L : List (Int × Int)} {lf : List Int} {t : Int} : ∀ j, (∀ k, k < j → 0 ≤ Z lf k) → 0 ≤ thereTo L lf t j := by
  intro j
  induction j with
  | zero => intro _; exact Int.le_refl _
  | succ j ih =>
    intro h
    have h1 := h j (by omega)
    have := ih (fun k hk => h k (by omega))
    simp only [thereTo]
    split <;> omega
theorem thereTo_pos {L : List (Int × Int)} {lf : List Int} {t : Int} {p : Nat} (hx : X L p ≤ t) (hz : 0 < Z lf p) : ∀ j, p < j → (∀ k, k < j → 0 ≤ Z lf k) → 0 < thereTo L lf t j := by
  intro j
  induction j with
  | zero => intro h; omega
  | succ j ih =>
    intro hp h
    have h1 := h j (by omega)
    simp only [thereTo]
    by_cases e : p = j
    · subst e
      have := thereTo_nn (L := L) (lf := lf) (t := t) p (fun k hk => h k (by omega))
      rw [if_pos hx]; omega
    · have := ih (by omega) (fun k hk => h k (by omega))
      split <;> omega
/-- those who come at t + 1 are added -/
theorem thereTo_next {L : List (Int × Int)} {lf : List Int} {t : Nat} (h : ∀ k, k < L.length → (t : Int) + 1 ≤ X L k → Z lf k = Y L k) : ∀ j, j ≤ L.length → thereTo L lf ((t : Int) + 1) j = thereTo L lf t j + arrTo L ((t : Int) + 1) j := by
  intro j
  induction j with
  | zero => intro _; simp [thereTo, arrTo]
  | succ j ih =>
    intro hj
    have i := ih (by omega)
    simp only [thereTo, arrTo, i]
    by_cases e1 : X L j ≤ t
    · rw [if_pos (by omega), if_pos e1, if_neg (by omega)]; omega
    · by_cases e2 : X L j = (t : Int) + 1
      · have := h j (by omega) (by omega)
        rw [if_pos (by omega), if_neg e1, if_pos e2]; omega
      · rw [if_neg (by omega), if_neg e1, if_neg e2]; omega
/-- a pick is told by the work -/
theorem OI.picks {L : List (Int × Int)} {t : Nat} {lf : List Int} (h : OI L t lf) (rule : Int) :
    (pick L lf t rule = -1 ∧ wk L t = 0) ∨ (∃ p : Nat, pick L lf t rule = p ∧ p < L.length ∧ X L p ≤ t ∧ 0 < Z lf p ∧ wk L t ≠ 0) := by
  rcases pickTo_ok L lf t rule L.length with ⟨e, hk⟩ | ⟨p, e, hp, h2, h3⟩
  · exact .inl ⟨e, by rw [← h.sum]; exact thereTo_none _ hk⟩
  · have r := h.rng p hp
    have := thereTo_pos (lf := lf) h2 (by omega) L.length hp (fun k hk => (h.rng k hk).1)
    refine .inr ⟨p, e, hp, h2, by omega, ?_⟩
    rw [← h.sum]; omega
theorem OI.next {L : List (Int × Int)} (hc : cOk L = true) {t : Nat} {lf : List Int} (h : OI L t lf) (rule : Int) : OI L (t + 1) (stepL lf (pick L lf t rule)) := by
  have hw : wk L (t + 1) = max (wk L t - 1) 0 + arr L ((t : Int) + 1) := rfl
  have hwn := wk_nn hc t
  rcases h.picks rule with ⟨e, h0⟩ | ⟨p, e, hp, hx, hz, hne⟩
  · rw [e]
    have es : stepL lf (-1) = lf := by simp [stepL]
    rw [es]
    have late : ∀ k, k < L.length → (t : Int) + 1 ≤ X L k → Z lf k = Y L k := fun k hk hk2 => h.late k hk (by omega)
    refine ⟨h.len, h.rng, fun k hk hk2 => late k hk (by omega), ?_⟩
    rw [show ((t + 1 : Nat) : Int) = (t : Int) + 1 by omega, thereTo_next late _ (Nat.le_refl _), h.sum, hw, h0]
    unfold arr; omega
  · rw [e]
    have es : stepL lf (p : Int) = lf.set p (Z lf p - 1) := by simp [stepL]
    rw [es]
    have hl : p < lf.length := by rw [h.len]; exact hp
    have late : ∀ k, k < L.length → (t : Int) + 1 ≤ X L k → Z (lf.set p (Z lf p - 1)) k = Y L k := fun k hk hk2 => by
      rw [Z_set hl, if_neg (by intro e2; subst e2; omega)]
      exact h.late k hk (by omega)
    refine ⟨by rw [List.length_set]; exact h.len, fun k hk => ?_, fun k hk hk2 => late k hk (by omega), ?_⟩
    · rw [Z_set hl]
      have r := h.rng k hk
      split
      · rename_i e2; subst e2; omega
      · exact r
    · rw [show ((t + 1 : Nat) : Int) = (t : Int) + 1 by omega, thereTo_next late _ (Nat.le_refl _), thereTo_set hl, if_pos ⟨hp, hx⟩, h.sum, hw]
      unfold arr; omega
theorem thereTo_first {L : List (Int × Int)} (hc : cOk L = true) : ∀ j, j ≤ L.length → thereTo L (needs L) 0 j = arrTo L 0 j := by
  intro j
  induction j with
  | zero => intro _; rfl
  | succ j ih =>
    intro hj
    have bd := cOk_bd hc (k := j) (by omega)
    simp only [thereTo, arrTo, ih (by omega), needs_Z (L := L) (k := j) (by omega)]
    by_cases e : X L j = 0
    · rw [if_pos (by omega), if_pos e]
    · rw [if_neg (by omega), if_neg e]
theorem ordL_inv {L : List (Int × Int)} (hc : cOk L = true) (rule : Int) : ∀ t, OI L t (ordL L rule t) := by
  intro t
  induction t with
  | zero =>
    refine ⟨needs_len L, fun k hk => ?_, fun k hk _ => needs_Z hk, ?_⟩
    · have bd := cOk_bd hc hk
      show 0 ≤ Z (needs L) k ∧ Z (needs L) k ≤ Y L k
      rw [needs_Z hk]; omega
    · exact thereTo_first hc _ (Nat.le_refl _)
  | succ t ih => exact ih.next hc rule
/-- RULES SERVE IN THE SAME UNITS: somebody is served exactly if there is work -/
theorem ordW_work {L : List (Int × Int)} (hc : cOk L = true) (rule : Int) (t : Nat) : 0 ≤ ordW L rule t ↔ wk L t ≠ 0 := by
  rcases (ordL_inv hc rule t).picks rule with ⟨e, h0⟩ | ⟨p, e, _, _, _, hne⟩
  · constructor
    · intro h; unfold ordW at h; omega
    · intro h; exact absurd h0 h
  · constructor
    · exact fun _ => hne
    · intro _; unfold ordW; omega
/-- at LastLeave nothing is left -/
theorem ordL_end {L : List (Int × Int)} (hc : cOk L = true) (rule : Int) {T : Nat} (hT : lastLeave L ≤ T) {k : Nat} (hk : k < L.length) : Z (ordL L rule T) k = 0 := by
  have inv := ordL_inv hc rule T
  have h0 := wk_end hc hT
  have r := inv.rng k hk
  have hx : X L k ≤ T := by
    have f := fwd_mono hc (i := k + 1) (j := L.length) (by omega) (Nat.le_refl _)
    have bd := cOk_bd hc hk
    rw [lastLeave_fwd hc] at hT
    simp only [fwd] at f
    omega
  refine Classical.byContradiction fun hne => ?_
  have := thereTo_pos (lf := ordL L rule T) hx (by omega) L.length hk (fun j hj => (inv.rng j hj).1)
  rw [inv.sum] at this
  omega
theorem orderTo_len (L : List (Int × Int)) (rule : Int) (n : Nat) : (orderTo L rule n).length = n := by simp [orderTo]
theorem orderTo_succ (L : List (Int × Int)) (rule : Int) (n : Nat) : orderTo L rule (n + 1) = orderTo L rule n ++ [ordW L rule n] := by simp [orderTo, List.range_succ]
theorem orderTo_Z {L : List (Int × Int)} {rule : Int} {n k : Nat} (h : k < n) : Z (orderTo L rule n) k = ordW L rule k := by simp [Z, orderTo, h]

end Go.Proofs.Ytecoefjkobpbgaa

namespace Go.Proofs.Ytecoefjkobpbgaa
set_option linter.unusedVariables false
open Go.RowKit

/-- what is left of each customer after t units of an order -/
def leftOf (L : List (Int × Int)) (o : List Int) : Nat → List Int
  | 0 => needs L
  | t + 1 => stepL (leftOf L o t) (Z o t)
/-- whether the unit t of an order may be -/
def unitOk (L : List (Int × Int)) (o : List Int) (t : Nat) : Bool :=
  decide (-1 ≤ Z o t ∧ Z o t ≤ (L.length : Int) - 1) && (decide (Z o t < 0) || (decide (X L (Z o t).toNat ≤ t) && decide (Z (leftOf L o t) (Z o t).toNat ≠ 0)))
def unitsOk (L : List (Int × Int)) (o : List Int) : Nat → Bool
  | 0 => true
  | t + 1 => unitsOk L o t && unitOk L o t
def noneLeft (lf : List Int) : Nat → Bool
  | 0 => true
  | k + 1 => noneLeft lf k && decide (Z lf k ≤ 0)
def ordOk (L : List (Int × Int)) (o : List Int) : Bool := cOk L && decide (o.length ≤ 200) && unitsOk L o o.length && noneLeft (leftOf L o o.length) L.length
theorem leftOf_len (L : List (Int × Int)) (o : List Int) : ∀ t, (leftOf L o t).length = L.length := by
  intro t
  induction t with
  | zero => exact needs_len L
  | succ t ih => simp only [leftOf, stepL_len, ih]
theorem unitsOk_at {L : List (Int × Int)} {o : List Int} : ∀ n, unitsOk L o n = true → ∀ t, t < n → unitOk L o t = true := by
  intro n
  induction n with
  | zero => intro _ t ht; omega
  | succ n ih =>
    intro h t ht
    simp only [unitsOk, Bool.and_eq_true] at h
    by_cases e : t = n
    · subst e; exact h.2
    · exact ih h.1 t (by omega)
theorem unitsOk_of {L : List (Int × Int)} {o : List Int} : ∀ n, (∀ t, t < n → unitOk L o t = true) → unitsOk L o n = true := by
  intro n
  induction n with
  | zero => intro _; rfl
  | succ n ih => intro h; simp only [unitsOk, Bool.and_eq_true]; exact ⟨ih fun t ht => h t (by omega), h n (by omega)⟩
theorem noneLeft_at {lf : List Int} : ∀ n, noneLeft lf n = true → ∀ k, k < n → Z lf k ≤ 0 := by
  intro n
  induction n with
  | zero => intro _ k hk; omega
  | succ n ih =>
    intro h k hk
    simp only [noneLeft, Bool.and_eq_true, decide_eq_true_eq] at h
    by_cases e : k = n
    · subst e; exact h.2
    · exact ih h.1 k (by omega)
theorem noneLeft_of {lf : List Int} : ∀ n, (∀ k, k < n → Z lf k ≤ 0) → noneLeft lf n = true := by
  intro n
  induction n with
  | zero => intro _; rfl
  | succ n ih => intro h; simp only [noneLeft, Bool.and_eq_true, decide_eq_true_eq]; exact ⟨ih fun k hk => h k (by omega), h n (by omega)⟩
theorem unitOk_cases {L : List (Int × Int)} {o : List Int} {t : Nat} (h : unitOk L o t = true) :
    Z o t = -1 ∨ (∃ p : Nat, Z o t = p ∧ p < L.length ∧ X L p ≤ t ∧ Z (leftOf L o t) p ≠ 0) := by
  simp only [unitOk, Bool.and_eq_true, Bool.or_eq_true, decide_eq_true_eq] at h
  obtain ⟨⟨h1, h2⟩, h3⟩ := h
  by_cases e : Z o t < 0
  · left; omega
  · right
    rcases h3 with h3 | ⟨h3, h4⟩
    · omega
    · exact ⟨(Z o t).toNat, by omega, by omega, h3, h4⟩
theorem unitOk_of {L : List (Int × Int)} {o : List Int} {t : Nat} (h : Z o t = -1 ∨ (∃ p : Nat, Z o t = p ∧ p < L.length ∧ X L p ≤ t ∧ Z (leftOf L o t) p ≠ 0)) : unitOk L o t = true := by
  simp only [unitOk, Bool.and_eq_true, Bool.or_eq_true, decide_eq_true_eq]
  rcases h with e | ⟨p, e, h1, h2, h3⟩
  · rw [e]; exact ⟨⟨by omega, by omega⟩, .inl (by omega)⟩
  · rw [e]
    have : ((p : Int)).toNat = p := by simp
    rw [this]
    exact ⟨⟨by omega, by omega⟩, .inr ⟨h2, h3⟩⟩
/-- the order of a rule replays what the rule left -/
theorem leftOf_orderTo (L : List (Int × Int)) (rule : Int) (n : Nat) : ∀ t, t ≤ n → leftOf L (orderTo L rule n) t = ordL L rule t := by
  intro t
  induction t with
  | zero => intro _; rfl
  | succ t ih => intro h; simp only [leftOf, ordL, ih (by omega), orderTo_Z (L := L) (rule := rule) (n := n) (k := t) (by omega)]; rfl
theorem lastLeave_nat {L : List (Int × Int)} (hc : cOk L = true) : ∃ T : Nat, lastLeave L = T ∧ T ≤ 132 := by
  have := lastLeave_bd hc
  exact ⟨(lastLeave L).toNat, by omega, by omega⟩
/-- WHAT EACH RULE TELLS IS AN ORDER -/
theorem orderTo_ok {L : List (Int × Int)} (hc : cOk L = true) (rule : Int) {T : Nat} (hT : lastLeave L = T) : ordOk L (orderTo L rule T) = true := by
  have hb := lastLeave_bd hc
  simp only [ordOk, Bool.and_eq_true, decide_eq_true_eq, orderTo_len]
  refine ⟨⟨⟨hc, by omega⟩, unitsOk_of _ fun t ht => unitOk_of ?_⟩, noneLeft_of _ fun k hk => ?_⟩
  · rw [orderTo_Z ht, leftOf_orderTo L rule T t (by omega)]
    rcases (ordL_inv hc rule t).picks rule with ⟨e, _⟩ | ⟨p, e, hp, hx, hz, _⟩
    · exact .inl e
    · exact .inr ⟨p, e, hp, hx, by omega⟩
  · rw [leftOf_orderTo L rule T T (Nat.le_refl _), ordL_end hc rule (by omega) hk]
    exact Int.le_refl _
/-- what an order leaves of those who have come is at least the work -/
structure LI (L : List (Int × Int)) (t : Nat) (lf : List Int) : Prop where
  len : lf.length = L.length
  rng : ∀ k, k < L.length → 0 ≤ Z lf k ∧ Z lf k ≤ Y L k
  late : ∀ k, k < L.length → (t : Int) ≤ X L k → Z lf k = Y L k
  sum : wk L t ≤ thereTo L lf t L.length
theorem leftOf_inv {L : List (Int × Int)} (hc : cOk L = true) {o : List Int} {n : Nat} (ho : unitsOk L o n = true) : ∀ t, t ≤ n → LI L t (leftOf L o t) := by
  intro t
  induction t with
  | zero =>
    intro _
    refine ⟨needs_len L, fun k hk => ?_, fun k hk _ => needs_Z hk, ?_⟩
    · have bd := cOk_bd hc hk
      show 0 ≤ Z (needs L) k ∧ Z (needs L) k ≤ Y L k
      rw [needs_Z hk]; omega
    · show wk L 0 ≤ thereTo L (needs L) ((0 : Nat) : Int) L.length
      rw [show ((0 : Nat) : Int) = 0 by rfl, thereTo_first hc _ (Nat.le_refl _)]
      exact Int.le_refl _
  | succ t ih =>
    intro ht
    have h := ih (by omega)
    have hu := unitsOk_at n ho t (by omega)
    have hw : wk L (t + 1) = max (wk L t - 1) 0 + arr L ((t : Int) + 1) := rfl
    have hwn := wk_nn hc t
    have hnn := thereTo_nn (L := L) (lf := leftOf L o t) (t := t) L.length (fun k hk => (h.rng k hk).1)
    have hs := h.sum
    show LI L (t + 1) (stepL (leftOf L o t) (Z o t))
    rcases unitOk_cases hu with e | ⟨p, e, hp, hx, hz⟩
    · rw [e]
      have es : stepL (leftOf L o t) (-1) = leftOf L o t := by simp [stepL]
      rw [es]
      have late : ∀ k, k < L.length → (t : Int) + 1 ≤ X L k → Z (leftOf L o t) k = Y L k := fun k hk hk2 => h.late k hk (by omega)
      refine ⟨h.len, h.rng, fun k hk hk2 => late k hk (by omega), ?_⟩
      rw [show ((t + 1 : Nat) : Int) = (t : Int) + 1 by omega, thereTo_next late _ (Nat.le_refl _), hw]
      unfold arr; omega
    · rw [e]
      have es : stepL (leftOf L o t) (p : Int) = (leftOf L o t).set p (Z (leftOf L o t) p - 1) := by simp [stepL]
      rw [es]
      have hl : p < (leftOf L o t).length := by rw [h.len]; exact hp
      have rp := h.rng p hp
      have hpos := thereTo_pos (lf := leftOf L o t) hx (by omega) L.length hp (fun k hk => (h.rng k hk).1)
      have late : ∀ k, k < L.length → (t : Int) + 1 ≤ X L k → Z ((leftOf L o t).set p (Z (leftOf L o t) p - 1)) k = Y L k := fun k hk hk2 => by
        rw [Z_set hl, if_neg (by intro e2; subst e2; omega)]
        exact h.late k hk (by omega)
      refine ⟨by rw [List.length_set]; exact h.len, fun k hk => ?_, fun k hk hk2 => late k hk (by omega), ?_⟩
      · rw [Z_set hl]
        have r := h.rng k hk
        split
        · rename_i e2; subst e2; omega
        · exact r
      · rw [show ((t + 1 : Nat) : Int) = (t : Int) + 1 by omega, thereTo_next late _ (Nat.le_refl _), thereTo_set hl, if_pos ⟨hp, hx⟩, hw]
        unfold arr; omega
/-- NO ORDER HAS FEWER UNITS THAN LastLeave: as soon as nothing is left -/
theorem done_late {L : List (Int × Int)} (hc : cOk L = true) {o : List Int} {n : Nat} (ho : unitsOk L o n = true) (hn : ∀ k, k < L.length → Z (leftOf L o n) k ≤ 0) : lastLeave L ≤ n := by
  have inv := leftOf_inv hc ho n (Nat.le_refl _)
  have hz : ∀ k, k < L.length → Z (leftOf L o n) k = 0 := fun k hk => by have := inv.rng k hk; have := hn k hk; omega
  have hw : wk L n = 0 := by
    have h0 := thereTo_none (L := L) (lf := leftOf L o n) (t := n) L.length (fun k hk => .inr (hz k hk))
    have := inv.sum
    have := wk_nn hc n
    omega
  have hall : cnt L n = L.length := by
    refine cnt_of (Nat.le_refl _) (fun k hk => ?_) (fun h => absurd h (Nat.lt_irrefl _))
    refine Int.le_of_not_gt fun hgt => ?_
    have := inv.late k hk (by omega)
    have := hz k hk
    have := cOk_bd hc hk
    omega
  rw [wk_fwd hc, hall] at hw
  rw [lastLeave_fwd hc]
  omega
theorem ordOk_parts {L : List (Int × Int)} {o : List Int} (h : ordOk L o = true) : cOk L = true ∧ o.length ≤ 200 ∧ unitsOk L o o.length = true ∧ noneLeft (leftOf L o o.length) L.length = true := by
  simp only [ordOk, Bool.and_eq_true, decide_eq_true_eq] at h
  exact ⟨h.1.1.1, h.1.1.2, h.1.2, h.2⟩
theorem ordOk_late {L : List (Int × Int)} {o : List Int} (h : ordOk L o = true) : lastLeave L ≤ o.length := by
  obtain ⟨hc, _, hu, hn⟩ := ordOk_parts h
  exact done_late hc hu (noneLeft_at _ hn)
/-- a unit behind it in which nobody is served -/
theorem ordOk_idle {L : List (Int × Int)} {o : List Int} (h : ordOk L o = true) (hl : o.length < 200) : ordOk L (o ++ [-1]) = true := by
  obtain ⟨hc, _, hu, hn⟩ := ordOk_parts h
  have hZ : ∀ t, t < o.length → Z (o ++ [-1]) t = Z o t := fun t ht => by simp [Z, List.getElem?_append_left ht]
  have hZ1 : Z (o ++ [-1]) o.length = -1 := by simp [Z]
  have hL : ∀ t, t ≤ o.length → leftOf L (o ++ [-1]) t = leftOf L o t := by
    intro t
    induction t with
    | zero => intro _; rfl
    | succ t ih => intro ht; simp only [leftOf, ih (by omega), hZ t (by omega)]
  simp only [ordOk, Bool.and_eq_true, decide_eq_true_eq, List.length_append, List.length_singleton]
  refine ⟨⟨⟨hc, by omega⟩, unitsOk_of _ fun t ht => unitOk_of ?_⟩, noneLeft_of _ fun k hk => ?_⟩
  · by_cases e : t = o.length
    · subst e; exact .inl hZ1
    · rw [hZ t (by omega), hL t (by omega)]
      exact unitOk_cases (unitsOk_at _ hu t (by omega))
  · simp only [leftOf, hL _ (Nat.le_refl _), hZ1]
    have es : stepL (leftOf L o o.length) (-1) = leftOf L o o.length := by simp [stepL]
    rw [es]
    exact noneLeft_at _ hn k hk
/-- an order that does not idle -/
def unitBusy (L : List (Int × Int)) (o : List Int) : Nat → Bool
  | 0 => true
  | t + 1 => unitBusy L o t && (decide (0 ≤ Z o t) == decide (0 < wk L t))
def busyOk (L : List (Int × Int)) (o : List Int) : Bool := ordOk L o && unitBusy L o o.length && decide ((o.length : Int) = lastLeave L)
theorem orderTo_busy {L : List (Int × Int)} (hc : cOk L = true) (rule : Int) {T : Nat} (hT : lastLeave L = T) : busyOk L (orderTo L rule T) = true := by
  have hu : ∀ t, t ≤ T → unitBusy L (orderTo L rule T) t = true := by
    intro t
    induction t with
    | zero => intro _; rfl
    | succ t ih =>
      intro ht
      simp only [unitBusy, Bool.and_eq_true]
      refine ⟨ih (by omega), beq_iff_eq.2 ?_⟩
      rw [orderTo_Z (by omega)]
      have w := ordW_work hc rule t
      have wn := wk_nn hc t
      exact decide_eq_decide.2 ⟨fun h => by have := w.1 h; omega, fun h => w.2 (by omega)⟩
  simp only [busyOk, Bool.and_eq_true, decide_eq_true_eq]
  exact ⟨⟨orderTo_ok hc rule hT, by rw [orderTo_len]; exact hu T (Nat.le_refl _)⟩, by rw [orderTo_len]; omega⟩

end Go.Proofs.Ytecoefjkobpbgaa

namespace Go.Proofs.Ytecoefjkobpbgaa
set_option linter.unusedVariables false
open Go.RowKit

/-- when the last unit of the customer k among the first t ends -/
def endTo (o : List Int) (k : Nat) : Nat → Int
  | 0 => 0
  | t + 1 => if Z o t = k then (t : Int) + 1 else endTo o k t
def endsL (L : List (Int × Int)) (o : List Int) (n : Nat) : List Int := (List.range n).map fun k => endTo o k o.length
def ends (L : List (Int × Int)) (o : List Int) : List Int := if ordOk L o = true then endsL L o L.length else []
theorem endsL_len (L : List (Int × Int)) (o : List Int) (n : Nat) : (endsL L o n).length = n := by simp [endsL]
theorem endsL_succ (L : List (Int × Int)) (o : List Int) (n : Nat) : endsL L o (n + 1) = endsL L o n ++ [endTo o n o.length] := by simp [endsL, List.range_succ]
theorem endsL_Z {L : List (Int × Int)} {o : List Int} {n k : Nat} (h : k < n) : Z (endsL L o n) k = endTo o k o.length := by simp [Z, endsL, h]
theorem ends_yes {L : List (Int × Int)} {o : List Int} (h : ordOk L o = true) : ends L o = endsL L o L.length := if_pos h
theorem ends_no {L : List (Int × Int)} {o : List Int} (h : ordOk L o = false) : ends L o = [] := by simp [ends, h]
theorem endTo_le (o : List Int) (k : Nat) : ∀ t, 0 ≤ endTo o k t ∧ endTo o k t ≤ t := by
  intro t
  induction t with
  | zero => simp [endTo]
  | succ t ih => simp only [endTo]; split <;> omega
theorem endTo_at (o : List Int) (k : Nat) : ∀ t, endTo o k t = 0 ∨ ∃ u : Nat, u < t ∧ endTo o k t = (u : Int) + 1 ∧ Z o u = k := by
  intro t
  induction t with
  | zero => exact .inl rfl
  | succ t ih =>
    simp only [endTo]
    by_cases e : Z o t = k
    · rw [if_pos e]; exact .inr ⟨t, by omega, rfl, e⟩
    · rw [if_neg e]
      rcases ih with h | ⟨u, h1, h2, h3⟩
      · exact .inl h
      · exact .inr ⟨u, by omega, h2, h3⟩
theorem endTo_late {o : List Int} {k : Nat} : ∀ t u : Nat, u < t → Z o u = k → (u : Int) + 1 ≤ endTo o k t := by
  intro t
  induction t with
  | zero => intro u h; omega
  | succ t ih =>
    intro u h e
    simp only [endTo]
    by_cases e1 : Z o t = k
    · rw [if_pos e1]; omega
    · rw [if_neg e1]
      by_cases e2 : u = t
      · subst e2; exact absurd e e1
      · exact ih u (by omega) e
theorem stepL_other {lf : List Int} {who : Int} {k : Nat} (h : who ≠ k) (hw : who < lf.length) : Z (stepL lf who) k = Z lf k := by
  unfold stepL
  split
  · rw [Z_set (by omega), if_neg (by omega)]
  · rfl
theorem unit_range {L : List (Int × Int)} {o : List Int} {n t : Nat} (ho : unitsOk L o n = true) (ht : t < n) : Z o t < L.length := by
  rcases unitOk_cases (unitsOk_at n ho t ht) with e | ⟨p, e, hp, _⟩
  · omega
  · omega
/-- as long as one is not served, the same is left -/
theorem leftOf_same {L : List (Int × Int)} {o : List Int} {n : Nat} (ho : unitsOk L o n = true) {k a : Nat} : ∀ t, a ≤ t → t ≤ n → (∀ u, a ≤ u → u < t → Z o u ≠ k) → Z (leftOf L o t) k = Z (leftOf L o a) k := by
  intro t
  induction t with
  | zero => intro h1 _ _; rw [show a = 0 by omega]
  | succ t ih =>
    intro h1 h2 h3
    by_cases e : a = t + 1
    · rw [e]
    · have i := ih (by omega) (by omega) (fun u h4 h5 => h3 u h4 (by omega))
      rw [← i]
      exact stepL_other (h3 t (by omega) (by omega)) (by rw [leftOf_len]; exact unit_range ho (by omega))
theorem served_end {L : List (Int × Int)} (hc : cOk L = true) {o : List Int} {n : Nat} (ho : unitsOk L o n = true) {k : Nat} (hk : k < L.length) : ∀ t, t ≤ n → Y L k - Z (leftOf L o t) k ≤ max 0 (endTo o k t - X L k) := by
  intro t
  induction t with
  | zero =>
    intro _
    show Y L k - Z (needs L) k ≤ _
    rw [needs_Z hk]; omega
  | succ t ih =>
    intro ht
    have i := ih (by omega)
    have el := endTo_le o k t
    by_cases e : Z o t = k
    · rcases unitOk_cases (unitsOk_at n ho t (by omega)) with e2 | ⟨p, e2, hp, hx, _⟩
      · omega
      · obtain rfl : p = k := by omega
        have es : leftOf L o (t + 1) = (leftOf L o t).set p (Z (leftOf L o t) p - 1) := by simp only [leftOf, e2]; simp [stepL]
        rw [es, Z_set (by rw [leftOf_len]; exact hp), if_pos rfl]
        simp only [endTo]
        rw [if_pos e]
        omega
    · have s := leftOf_same ho (k := k) (a := t) (t + 1) (by omega) ht (fun u h1 h2 => by rw [show u = t by omega]; exact e)
      rw [s]
      simp only [endTo]
      rw [if_neg e]
      exact i
/-- NOBODY ENDS BEFORE THE NEED IS MET -/
theorem ends_need {L : List (Int × Int)} {o : List Int} (h : ordOk L o = true) {k : Nat} (hk : k < L.length) : X L k + Y L k ≤ endTo o k o.length := by
  obtain ⟨hc, _, hu, hn⟩ := ordOk_parts h
  have s := served_end hc hu hk o.length (Nat.le_refl _)
  have z := noneLeft_at _ hn k hk
  have bd := cOk_bd hc hk
  omega
theorem ends_diff {L : List (Int × Int)} {o : List Int} (h : ordOk L o = true) {j k : Nat} (hj : j < k) (hk : k < L.length) : endTo o j o.length ≠ endTo o k o.length := by
  have n1 := ends_need h hk
  have n2 := ends_need h (k := j) (by omega)
  have b1 := cOk_bd (ordOk_parts h).1 hk
  have b2 := cOk_bd (ordOk_parts h).1 (k := j) (by omega)
  intro e
  rcases endTo_at o j o.length with z | ⟨u, _, hu, hz⟩
  · omega
  · rcases endTo_at o k o.length with z | ⟨v, _, hv, hz2⟩
    · omega
    · obtain rfl : u = v := by omega
      omega
/-- the greatest of the ends of the first k -/
def bestTo (o : List Int) : Nat → Int
  | 0 => 0
  | k + 1 => max (bestTo o k) (endTo o k o.length)
theorem bestTo_ge (o : List Int) : ∀ n k, k < n → endTo o k o.length ≤ bestTo o n := by
  intro n
  induction n with
  | zero => intro k h; omega
  | succ n ih =>
    intro k h
    simp only [bestTo]
    by_cases e : k = n
    · subst e; omega
    · have := ih k (by omega); omega
theorem bestTo_bd (o : List Int) : ∀ n, 0 ≤ bestTo o n ∧ bestTo o n ≤ o.length := by
  intro n
  induction n with
  | zero => simp [bestTo]
  | succ n ih => have := endTo_le o n o.length; simp only [bestTo]; omega
theorem unitsOk_le {L : List (Int × Int)} {o : List Int} {n m : Nat} (h : unitsOk L o n = true) (hm : m ≤ n) : unitsOk L o m = true := unitsOk_of _ fun t ht => unitsOk_at n h t (by omega)
/-- the greatest end is at least LastLeave -/
theorem bestTo_last {L : List (Int × Int)} {o : List Int} (h : ordOk L o = true) : lastLeave L ≤ bestTo o L.length := by
  obtain ⟨hc, _, hu, hn⟩ := ordOk_parts h
  have bb := bestTo_bd o L.length
  obtain ⟨b, hb⟩ := Int.eq_ofNat_of_zero_le bb.1
  have hb' : bestTo o L.length = (b : Int) := hb
  have d := done_late hc (n := b) (unitsOk_le hu (by omega)) (fun k hk => by
    have s := leftOf_same hu (k := k) (a := b) o.length (by omega) (Nat.le_refl _) (fun u h1 h2 e => by
      have := endTo_late o.length u h2 e
      have := bestTo_ge o L.length k hk
      omega)
    rw [← s]
    exact noneLeft_at _ hn k hk)
  omega

/-- by the rule 0 the one with the least place is picked -/
theorem pickTo_least {L : List (Int × Int)} {lf : List Int} {t : Int} : ∀ j (p : Nat), pickTo L lf t 0 j = p → ∀ i, i < p → t < X L i ∨ Z lf i = 0 := by
  intro j
  induction j with
  | zero => intro p h; simp only [pickTo] at h; omega
  | succ j ih =>
    intro p h i hi
    simp only [pickTo, pickStep] at h
    split at h
    · exact ih p h i hi
    · split at h
      · rename_i hw
        rcases pickTo_ok L lf t 0 j with ⟨_, hk⟩ | ⟨q, e, _⟩
        · exact hk i (by omega)
        · omega
      · rw [if_neg (by omega), if_neg (by omega), if_neg (by omega)] at h
        exact ih p h i hi
def beginAt (L : List (Int × Int)) (k : Nat) : Int := X L k + waitAt L k
theorem leave_begin (L : List (Int × Int)) (k : Nat) : leaveAt L k = beginAt L k + Y L k := by simp only [leaveAt, beginAt]
theorem begin_next {L : List (Int × Int)} (k : Nat) : beginAt L (k + 1) = max (leaveAt L k) (X L (k + 1)) := by simp only [beginAt, leaveAt, waitAt]; omega
theorem leave_mono {L : List (Int × Int)} (hc : cOk L = true) {i j : Nat} (hij : i < j) (hj : j < L.length) : leaveAt L i ≤ beginAt L j := by
  induction j with
  | zero => omega
  | succ j ih =>
    have b := begin_next (L := L) j
    by_cases e : i = j
    · subst e; omega
    · have i1 := ih (by omega) (by omega)
      have l := leave_begin L j
      have bd := cOk_bd hc (k := j) (by omega)
      omega
/-- what the rule 0 leaves of each -/
def fcfsLeft (L : List (Int × Int)) (t : Int) (k : Nat) : Int := max 0 (min (Y L k) (leaveAt L k - t))
theorem fcfs_inv {L : List (Int × Int)} (hc : cOk L = true) : ∀ t : Nat, ∀ k, k < L.length → Z (ordL L 0 t) k = fcfsLeft L t k := by
  intro t
  induction t with
  | zero =>
    intro k hk
    have bd := cOk_bd hc hk
    have w := waitAt_bd hc k hk
    have l := leave_begin L k
    show Z (needs L) k = _
    rw [needs_Z hk]
    simp only [fcfsLeft, beginAt] at l ⊢
    omega
  | succ t ih =>
    intro k hk
    have inv := ordL_inv hc 0 t
    have bd := cOk_bd hc hk
    have w := waitAt_bd hc k hk
    have l := leave_begin L k
    have ik := ih k hk
    show Z (stepL (ordL L 0 t) (pick L (ordL L 0 t) t 0)) k = _
    rcases inv.picks 0 with ⟨e, h0⟩ | ⟨p, e, hp, hx, hz, _⟩
    · rw [e]
      have es : stepL (ordL L 0 t) (-1) = ordL L 0 t := by simp [stepL]
      rw [es, ik]
      have hnone : (t : Int) < X L k ∨ Z (ordL L 0 t) k = 0 := by
        rcases pickTo_ok L (ordL L 0 t) t 0 L.length with ⟨_, hk'⟩ | ⟨q, e2, _⟩
        · exact hk' k hk
        · unfold pick at e; omega
      rw [ik] at hnone
      simp only [fcfsLeft, beginAt] at hnone l ⊢
      omega
    · rw [e]
      have es : stepL (ordL L 0 t) (p : Int) = (ordL L 0 t).set p (Z (ordL L 0 t) p - 1) := by simp [stepL]
      rw [es, Z_set (by rw [inv.len]; exact hp)]
      have least := pickTo_least L.length p e
      have ip := ih p hp
      have bp := cOk_bd hc hp
      have lp := leave_begin L p
      have hbeg : beginAt L p ≤ t := by
        cases p with
        | zero => simp only [beginAt, waitAt]; omega
        | succ q =>
          have b := begin_next (L := L) q
          have hq := least q (by omega)
          have xq := cOk_mono hc (i := q) (j := q + 1) (by omega) hp
          have iq := ih q (by omega)
          have bq := cOk_bd hc (k := q) (by omega)
          have : leaveAt L q ≤ t := by
            rcases hq with hq | hq
            · omega
            · rw [iq] at hq
              simp only [fcfsLeft] at hq
              omega
          omega
      rw [ip] at hz ⊢
      split
      · rename_i e2
        subst e2
        simp only [fcfsLeft] at hz ⊢
        omega
      · rename_i e2
        rw [ik]
        rcases Nat.lt_or_ge k p with hlt | hge
        · have hk' := least k hlt
          rw [ik] at hk'
          have xk := cOk_mono hc (i := k) (j := p) (by omega) hp
          simp only [fcfsLeft] at hk' ⊢
          omega
        · have m := leave_mono hc (i := p) (j := k) (by omega) hk
          simp only [fcfsLeft] at hz ⊢
          omega
/-- by the rule 0 the customer k is served from the begin up to the leave -/
theorem fcfs_unit {L : List (Int × Int)} (hc : cOk L = true) {t k : Nat} (hk : k < L.length) : ordW L 0 t = k ↔ beginAt L k ≤ t ∧ (t : Int) < leaveAt L k := by
  have inv := ordL_inv hc 0 t
  have hs := fcfs_inv hc t
  have bd := cOk_bd hc hk
  have lk := leave_begin L k
  have w := waitAt_bd hc k hk
  constructor
  · intro e
    rcases inv.picks 0 with ⟨e2, _⟩ | ⟨p, e2, hp, hx, hz, _⟩
    · unfold ordW at e; omega
    · obtain rfl : p = k := by unfold ordW at e; omega
      have least := pickTo_least L.length p e2
      rw [hs p hp] at hz
      refine ⟨?_, by simp only [fcfsLeft] at hz; omega⟩
      cases p with
      | zero => simp only [beginAt, waitAt]; omega
      | succ q =>
        have b := begin_next (L := L) q
        have hq := least q (by omega)
        have xq := cOk_mono hc (i := q) (j := q + 1) (by omega) hp
        have bq := cOk_bd hc (k := q) (by omega)
        have : leaveAt L q ≤ t := by
          rcases hq with hq | hq
          · omega
          · rw [hs q (by omega)] at hq
            simp only [fcfsLeft] at hq
            omega
        omega
  · rintro ⟨h1, h2⟩
    have hcand : ¬ ((t : Int) < X L k ∨ Z (ordL L 0 t) k = 0) := by
      rw [hs k hk]
      simp only [fcfsLeft, beginAt] at h1 lk ⊢
      omega
    rcases pickTo_ok L (ordL L 0 t) t 0 L.length with ⟨_, hk'⟩ | ⟨p, e2, hp, hx, hz⟩
    · exact absurd (hk' k hk) hcand
    · have e3 : ordW L 0 t = p := e2
      rw [e3]
      have least := pickTo_least L.length p e2
      congr 1
      rcases Nat.lt_trichotomy k p with hlt | heq | hgt
      · exact absurd (least k hlt) hcand
      · exact heq.symm
      · have m := leave_mono hc (i := p) (j := k) hgt hk
        rw [hs p hp] at hz
        simp only [fcfsLeft] at hz
        omega
/-- BY THE RULE 0 ALL LEAVE AS THEY COME -/
theorem fcfs_ends {L : List (Int × Int)} (hc : cOk L = true) {T k : Nat} (hT : lastLeave L = T) (hk : k < L.length) : endTo (orderTo L 0 T) k T = leaveAt L k := by
  have lf := leaveAt_fwd hc k hk
  have m := fwd_mono hc (i := k + 1) (j := L.length) (by omega) (Nat.le_refl _)
  have lb := leaveAt_bd hc hk
  have bd := cOk_bd hc hk
  have lk := leave_begin L k
  rw [lastLeave_fwd hc] at hT
  have w := waitAt_bd hc k hk
  have hbg : 0 ≤ beginAt L k := by simp only [beginAt]; omega
  rcases endTo_at (orderTo L 0 T) k T with z | ⟨u, hu, e, hz⟩
  · have hl := endTo_late (o := orderTo L 0 T) (k := k) T (leaveAt L k - 1).toNat (by omega) (by
      rw [orderTo_Z (by omega)]
      exact (fcfs_unit hc hk).2 ⟨by omega, by omega⟩)
    omega
  · have hl := endTo_late (o := orderTo L 0 T) (k := k) T (leaveAt L k - 1).toNat (by omega) (by
      rw [orderTo_Z (by omega)]
      exact (fcfs_unit hc hk).2 ⟨by omega, by omega⟩)
    rw [orderTo_Z hu] at hz
    have := (fcfs_unit hc hk).1 hz
    omega

end Go.Proofs.Ytecoefjkobpbgaa

namespace Go.Proofs.Ytecoefjkobpbgaa
set_option linter.unusedVariables false
open Go.RowKit

/-- how often another one, or nobody, is served than in the unit before, though that one has units left (E: the ends); in the first t units -/
def chTo (o E : List Int) : Nat → Int
  | 0 => 0
  | t + 1 => chTo o E t + (if 1 ≤ t ∧ 0 ≤ Z o (t - 1) ∧ Z o t ≠ Z o (t - 1) ∧ (t : Int) < Z E (Z o (t - 1)).toNat then 1 else 0)
def changesV (L : List (Int × Int)) (o : List Int) : Int := if ordOk L o = true then chTo o (endsL L o L.length) o.length else -1
theorem changesV_yes {L : List (Int × Int)} {o : List Int} (h : ordOk L o = true) : changesV L o = chTo o (endsL L o L.length) o.length := if_pos h
theorem changesV_no {L : List (Int × Int)} {o : List Int} (h : ordOk L o = false) : changesV L o = -1 := by simp [changesV, h]
theorem chTo_nn (o E : List Int) : ∀ t, 0 ≤ chTo o E t ∧ chTo o E t ≤ t := by
  intro t
  induction t with
  | zero => simp [chTo]
  | succ t ih => simp only [chTo]; split <;> omega
theorem pickTo_greatest {L : List (Int × Int)} {lf : List Int} {t : Int} : ∀ j (p : Nat), pickTo L lf t 1 j = p → ∀ i, p < i → i < j → t < X L i ∨ Z lf i = 0 := by
  intro j
  induction j with
  | zero => intro p _ i _ h; omega
  | succ j ih =>
    intro p h i hi hj
    simp only [pickTo, pickStep] at h
    split at h
    · rename_i hc
      by_cases e : i = j
      · subst e; exact hc
      · exact ih p h i hi (by omega)
    · split at h
      · omega
      · rw [if_pos trivial] at h; omega
theorem pickTo_fewest {L : List (Int × Int)} {lf : List Int} {t : Int} : ∀ j (p : Nat), pickTo L lf t 2 j = p → ∀ i, i < j → ¬ (t < X L i ∨ Z lf i = 0) → Z lf p < Z lf i ∨ (Z lf p = Z lf i ∧ p ≤ i) := by
  intro j
  induction j with
  | zero => intro p _ i h; omega
  | succ j ih =>
    intro p h i hj hcand
    simp only [pickTo, pickStep] at h
    split at h
    · rename_i hc
      by_cases e : i = j
      · subst e; exact absurd hc hcand
      · exact ih p h i (by omega) hcand
    · rename_i hc
      rcases pickTo_ok L lf t 2 j with ⟨e1, hk⟩ | ⟨q, e1, hq, _, _⟩
      · rw [e1, if_pos (by omega)] at h
        by_cases e : i = j
        · right; subst e; have : p = i := by omega
          subst this; exact ⟨rfl, Nat.le_refl _⟩
        · exact absurd (hk i (by omega)) hcand
      · rw [e1, if_neg (by omega), if_neg (by omega)] at h
        have eq : ((q : Int)).toNat = q := by simp
        rw [eq] at h
        split at h
        · rename_i hlt
          have hp : p = j := by omega
          subst hp
          by_cases e : i = p
          · subst e; exact .inr ⟨rfl, Nat.le_refl _⟩
          · have := ih q e1 i (by omega) hcand
            left; omega
        · rename_i hge
          rw [if_neg (by omega)] at h
          have hp : p = q := by omega
          subst hp
          by_cases e : i = j
          · subst e
            by_cases e2 : Z lf p = Z lf i
            · exact .inr ⟨e2, by omega⟩
            · left
              have : ¬ Z lf i < Z lf p := fun hx => hge ⟨trivial, hx⟩
              omega
          · exact ih p e1 i (by omega) hcand
/-- what the rule leaves, one unit later -/
theorem ordL_next {L : List (Int × Int)} (hc : cOk L = true) {rule : Int} {t k : Nat} (h : ordW L rule t = k) : k < L.length ∧ X L k ≤ t ∧ 0 < Z (ordL L rule t) k ∧ Z (ordL L rule (t + 1)) k = Z (ordL L rule t) k - 1 ∧ ∀ i, i ≠ k → Z (ordL L rule (t + 1)) i = Z (ordL L rule t) i := by
  have inv := ordL_inv hc rule t
  rcases inv.picks rule with ⟨e, _⟩ | ⟨p, e, hp, hx, hz, _⟩
  · unfold ordW at h; omega
  · obtain rfl : p = k := by unfold ordW at h; omega
    have es : ordL L rule (t + 1) = (ordL L rule t).set p (Z (ordL L rule t) p - 1) := by
      show stepL (ordL L rule t) (pick L (ordL L rule t) t rule) = _
      rw [e]; simp [stepL]
    have hl : p < (ordL L rule t).length := by rw [inv.len]; exact hp
    refine ⟨hp, hx, hz, ?_, fun i hi => ?_⟩
    · rw [es, Z_set hl, if_pos rfl]
    · rw [es, Z_set hl, if_neg (fun e => hi e.symm)]
/-- by the rule 0 nobody is left -/
theorem stay_0 {L : List (Int × Int)} (hc : cOk L = true) {t k : Nat} (h : ordW L 0 t = k) (hl : 0 < Z (ordL L 0 (t + 1)) k) : ordW L 0 (t + 1) = k := by
  obtain ⟨hk, hx, hz, h1, h2⟩ := ordL_next hc h
  have least := pickTo_least L.length k h
  rcases pickTo_ok L (ordL L 0 (t + 1)) ((t + 1 : Nat) : Int) 0 L.length with ⟨_, hn⟩ | ⟨p, e, hp, hpx, hpz⟩
  · have := hn k hk; omega
  · have e3 : ordW L 0 (t + 1) = p := e
    rw [e3]
    congr 1
    have least2 := pickTo_least L.length p e
    rcases Nat.lt_trichotomy p k with hlt | heq | hgt
    · have := least p hlt
      have xm := cOk_mono hc (i := p) (j := k) (by omega) hk
      rw [h2 p (by omega)] at hpz
      omega
    · exact heq
    · have := least2 k hgt; omega
/-- by the rules 1 and 2 one is left only when somebody comes -/
theorem left_comes {L : List (Int × Int)} (hc : cOk L = true) {rule : Int} (hr : rule = 1 ∨ rule = 2) {t k : Nat} (h : ordW L rule t = k) (hl : 0 < Z (ordL L rule (t + 1)) k) (hne : ordW L rule (t + 1) ≠ k) : ∃ i, i < L.length ∧ X L i = (t : Int) + 1 := by
  obtain ⟨hk, hx, hz, h1, h2⟩ := ordL_next hc h
  rcases pickTo_ok L (ordL L rule (t + 1)) ((t + 1 : Nat) : Int) rule L.length with ⟨_, hn⟩ | ⟨p, e, hp, hpx, hpz⟩
  · have := hn k hk; omega
  · have e3 : ordW L rule (t + 1) = p := e
    have hpk : p ≠ k := by intro e4; subst e4; exact hne e3
    rw [h2 p hpk] at hpz
    refine Classical.byContradiction fun hno => ?_
    have hxp : X L p ≤ t := by
      have : X L p ≠ (t : Int) + 1 := fun e5 => hno ⟨p, hp, e5⟩
      omega
    rcases hr with rfl | rfl
    · have g := pickTo_greatest L.length k h
      have g2 := pickTo_greatest L.length p e
      rcases Nat.lt_or_ge p k with hlt | hge
      · have := g2 k hlt hk; omega
      · have := g p (by omega) hp; omega
    · have f := pickTo_fewest L.length k h p hp (by omega)
      have f2 := pickTo_fewest L.length p e k hk (by omega)
      rw [h2 p hpk] at f2
      omega
/-- an end that lies behind t says that something is left at t -/
theorem end_left {L : List (Int × Int)} {o : List Int} {n : Nat} (hc : cOk L = true) (ho : unitsOk L o n = true) {k t : Nat} (hk : k < L.length) (ht : t ≤ n) (he : (t : Int) < endTo o k n) : 0 < Z (leftOf L o t) k := by
  rcases endTo_at o k n with z | ⟨u, hu, e, hz⟩
  · omega
  · have hmono : ∀ d, t + d ≤ n → Z (leftOf L o (t + d)) k ≤ Z (leftOf L o t) k := by
      intro d
      induction d with
      | zero => intro _; exact Int.le_refl _
      | succ d ih =>
        intro hd
        have i := ih (by omega)
        show Z (stepL (leftOf L o (t + d)) (Z o (t + d))) k ≤ _
        by_cases e1 : Z o (t + d) = k
        · have es : stepL (leftOf L o (t + d)) (Z o (t + d)) = (leftOf L o (t + d)).set k (Z (leftOf L o (t + d)) k - 1) := by rw [e1]; simp [stepL]
          rw [es, Z_set (by rw [leftOf_len]; exact hk), if_pos rfl]; omega
        · rw [stepL_other e1 (by rw [leftOf_len]; exact unit_range ho (by omega))]
          exact i
    have m := hmono (u - t) (by omega)
    rw [show t + (u - t) = u by omega] at m
    have inv := leftOf_inv hc ho u (by omega)
    have r := inv.rng k hk
    rcases unitOk_cases (unitsOk_at n ho u hu) with e2 | ⟨p, e2, hp, _, hnz⟩
    · omega
    · obtain rfl : p = k := by omega
      omega
theorem change_at {L : List (Int × Int)} (hc : cOk L = true) {rule : Int} {T t : Nat} (hT : lastLeave L = T) (ht : t < T) (h1 : 1 ≤ t) (h2 : 0 ≤ Z (orderTo L rule T) (t - 1)) (h4 : (t : Int) < Z (endsL L (orderTo L rule T) L.length) (Z (orderTo L rule T) (t - 1)).toNat) :
    ∃ k : Nat, ordW L rule (t - 1) = k ∧ k < L.length ∧ X L k ≤ (t : Int) - 1 ∧ 0 < Z (ordL L rule t) k := by
  rw [orderTo_Z (by omega)] at h2 h4
  obtain ⟨k, hk⟩ := Int.eq_ofNat_of_zero_le h2
  have hk' : ordW L rule (t - 1) = (k : Int) := hk
  obtain ⟨a1, a2, _⟩ := ordL_next hc hk'
  have ok := ordOk_parts (orderTo_ok hc rule hT)
  rw [hk', show ((k : Int)).toNat = k by simp, endsL_Z a1, orderTo_len] at h4
  rw [orderTo_len] at ok
  have l := end_left hc ok.2.2.1 a1 (by omega) h4
  rw [leftOf_orderTo L rule T t (by omega)] at l
  exact ⟨k, hk', a1, by omega, l⟩
theorem changes_0 {L : List (Int × Int)} (hc : cOk L = true) {T : Nat} (hT : lastLeave L = T) : changesV L (orderTo L 0 T) = 0 := by
  rw [changesV_yes (orderTo_ok hc 0 hT), orderTo_len]
  have key : ∀ t, t ≤ T → chTo (orderTo L 0 T) (endsL L (orderTo L 0 T) L.length) t = 0 := by
    intro t
    induction t with
    | zero => intro _; rfl
    | succ t ih =>
      intro ht
      simp only [chTo, ih (by omega)]
      rw [if_neg]
      · omega
      · rintro ⟨h1, h2, h3, h4⟩
        obtain ⟨k, hk, _, _, hl⟩ := change_at hc hT (by omega) h1 h2 h4
        have s := stay_0 hc (t := t - 1) hk (by rw [show t - 1 + 1 = t by omega]; exact hl)
        rw [show t - 1 + 1 = t by omega] at s
        rw [orderTo_Z (by omega), orderTo_Z (by omega)] at h3
        exact h3 (by rw [s, hk])
  exact key T (Nat.le_refl _)
theorem changes_le {L : List (Int × Int)} (hc : cOk L = true) {rule : Int} (hr : rule = 1 ∨ rule = 2) {T : Nat} (hT : lastLeave L = T) : changesV L (orderTo L rule T) ≤ max ((L.length : Int) - 1) 0 := by
  rw [changesV_yes (orderTo_ok hc rule hT), orderTo_len]
  have key : ∀ t : Nat, t ≤ T → chTo (orderTo L rule T) (endsL L (orderTo L rule T) L.length) t ≤ max ((cnt L ((t : Int) - 1) : Int) - 1) 0 := by
    intro t
    induction t with
    | zero => intro _; simp only [chTo]; omega
    | succ t ih =>
      intro ht
      have i := ih (by omega)
      have m : cnt L ((t : Int) - 1) ≤ cnt L (((t + 1 : Nat) : Int) - 1) := cnt_mono' (by omega)
      simp only [chTo]
      split
      · rename_i hch
        obtain ⟨h1, h2, h3, h4⟩ := hch
        obtain ⟨k, hk, hkl, hkx, hl⟩ := change_at hc hT (by omega) h1 h2 h4
        rw [orderTo_Z (by omega), orderTo_Z (by omega), hk] at h3
        obtain ⟨j, hj, hjx⟩ := left_comes hc hr (t := t - 1) hk (by rw [show t - 1 + 1 = t by omega]; exact hl) (by rw [show t - 1 + 1 = t by omega]; exact h3)
        have c1 := (lt_cnt hc (t := (t : Int) - 1) hkl).2 hkx
        have c2 : cnt L ((t : Int) - 1) ≤ j := Nat.le_of_not_lt fun hlt => by
          have := (lt_cnt hc (t := (t : Int) - 1) hj).1 hlt
          omega
        have c3 := (lt_cnt hc (t := ((t + 1 : Nat) : Int) - 1) hj).2 (by omega)
        omega
      · omega
  have k := key T (Nat.le_refl _)
  have := cnt_le L ((T : Int) - 1)
  omega

end Go.Proofs.Ytecoefjkobpbgaa

