/- Plain mathematics of chapter 11, first part (ahead): orders made by a choice in each unit; served by turns. -/
import Derived.Test.YtecoefjkobpbgaaM16
namespace Go.Proofs.Ytecoefjkobpbgaa
set_option linter.unusedVariables false
open Go.RowKit

/-! orders made by a choice -/
def picked (L : List (Int × Int)) (t : Nat) (lf : List Int) (w : Int) : Prop := (w = -1 ∧ wk L t = 0) ∨ (∃ p : Nat, w = p ∧ p < L.length ∧ X L p ≤ t ∧ 0 < Z lf p ∧ wk L t ≠ 0)
theorem OI.nextW {L : List (Int × Int)} (hc : cOk L = true) {t : Nat} {lf : List Int} (h : OI L t lf) {w : Int} (hp : picked L t lf w) : OI L (t + 1) (stepL lf w) := by
  have hw : wk L (t + 1) = max (wk L t - 1) 0 + arr L ((t : Int) + 1) := rfl
  have hwn := wk_nn hc t
  rcases hp with ⟨e, h0⟩ | ⟨p, e, hp, hx, hz, hne⟩
  · rw [e]
    have es : stepL lf (-1) = lf := by simp [stepL]
    rw [es]
    have late : ∀ k, k < L.length → (t : Int) + 1 ≤ X L k → Z lf k = Y L k := fun k hk hk2 => h.late k hk (by omega)
    refine ⟨h.len, h.rng, fun k hk hk2 => late k hk (by omega), ?_⟩
    rw [show ((t + 1 : Nat) : Int) = (t : Int) + 1 by omega, thereTo_next late _ (Nat.le_refl _), h.sum, hw, h0]
    unfold arr; omega
  · rw [e]
    have es : stepL lf (p : Int) = lf.set p (Z lf p - 1) := by simp [stepL]
    rw [es]
    have hl : p < lf.length := by rw [h.len]; exact hp
    have late : ∀ k, k < L.length → (t : Int) + 1 ≤ X L k → Z (lf.set p (Z lf p - 1)) k = Y L k := fun k hk hk2 => by
      rw [Z_set hl, if_neg (by intro e2; subst e2; omega)]
      exact h.late k hk (by omega)
    refine ⟨by rw [List.length_set]; exact h.len, fun k hk => ?_, fun k hk hk2 => late k hk (by omega), ?_⟩
    · rw [Z_set hl]
      have r := h.rng k hk
      split
      · rename_i e2; subst e2; omega
      · exact r
    · rw [show ((t + 1 : Nat) : Int) = (t : Int) + 1 by omega, thereTo_next late _ (Nat.le_refl _), thereTo_set hl, if_pos ⟨hp, hx⟩, h.sum, hw]
      unfold arr; omega
theorem OI.first {L : List (Int × Int)} (hc : cOk L = true) : OI L 0 (needs L) := by
  refine ⟨needs_len L, fun k hk => ?_, fun k hk _ => needs_Z hk, thereTo_first hc _ (Nat.le_refl _)⟩
  have bd := cOk_bd hc hk
  rw [needs_Z hk]; omega
def ordF (W : Nat → Int) (n : Nat) : List Int := (List.range n).map W
theorem ordF_len (W : Nat → Int) (n : Nat) : (ordF W n).length = n := by simp [ordF]
theorem ordF_succ (W : Nat → Int) (n : Nat) : ordF W (n + 1) = ordF W n ++ [W n] := by simp [ordF, List.range_succ]
theorem ordF_Z {W : Nat → Int} {n k : Nat} (h : k < n) : Z (ordF W n) k = W k := by simp [Z, ordF, h]
section
variable {L : List (Int × Int)} {W : Nat → Int} {lf : Nat → List Int}
theorem leftOf_F (h0 : lf 0 = needs L) (h1 : ∀ t, lf (t + 1) = stepL (lf t) (W t)) (n : Nat) : ∀ t, t ≤ n → leftOf L (ordF W n) t = lf t := by
  intro t
  induction t with
  | zero => intro _; exact h0.symm
  | succ t ih => intro h; simp only [leftOf, h1, ih (by omega), ordF_Z (W := W) (n := n) (k := t) (by omega)]
theorem OI.all (hc : cOk L = true) (h0 : lf 0 = needs L) (h1 : ∀ t, lf (t + 1) = stepL (lf t) (W t)) (hp : ∀ t, OI L t (lf t) → picked L t (lf t) (W t)) : ∀ t, OI L t (lf t) := by
  intro t
  induction t with
  | zero => rw [h0]; exact OI.first hc
  | succ t ih => rw [h1]; exact ih.nextW hc (hp t ih)
theorem OI.end (hc : cOk L = true) {T : Nat} (hT : lastLeave L ≤ T) {lf : List Int} (inv : OI L T lf) {k : Nat} (hk : k < L.length) : Z lf k = 0 := by
  have h0 := wk_end hc hT
  have r := inv.rng k hk
  have hx : X L k ≤ T := by
    have f := fwd_mono hc (i := k + 1) (j := L.length) (by omega) (Nat.le_refl _)
    have bd := cOk_bd hc hk
    rw [lastLeave_fwd hc] at hT
    simp only [fwd] at f
    omega
  refine Classical.byContradiction fun hne => ?_
  have := thereTo_pos (lf := lf) hx (by omega) L.length hk (fun j hj => (inv.rng j hj).1)
  rw [inv.sum] at this
  omega
theorem ordF_ok (hc : cOk L = true) (h0 : lf 0 = needs L) (h1 : ∀ t, lf (t + 1) = stepL (lf t) (W t)) (hp : ∀ t, OI L t (lf t) → picked L t (lf t) (W t)) {T : Nat} (hT : lastLeave L = T) : ordOk L (ordF W T) = true := by
  have hb := lastLeave_bd hc
  have inv := OI.all hc h0 h1 hp
  simp only [ordOk, Bool.and_eq_true, decide_eq_true_eq, ordF_len]
  refine ⟨⟨⟨hc, by omega⟩, unitsOk_of _ fun t ht => unitOk_of ?_⟩, noneLeft_of _ fun k hk => ?_⟩
  · rw [ordF_Z ht, leftOf_F h0 h1 T t (by omega)]
    rcases hp t (inv t) with ⟨e, _⟩ | ⟨p, e, hp, hx, hz, _⟩
    · exact .inl e
    · exact .inr ⟨p, e, hp, hx, by omega⟩
  · rw [leftOf_F h0 h1 T T (Nat.le_refl _), OI.end hc (by omega) (inv T) hk]
    exact Int.le_refl _
theorem ordF_busy (hc : cOk L = true) (h0 : lf 0 = needs L) (h1 : ∀ t, lf (t + 1) = stepL (lf t) (W t)) (hp : ∀ t, OI L t (lf t) → picked L t (lf t) (W t)) {T : Nat} (hT : lastLeave L = T) : busyOk L (ordF W T) = true := by
  have inv := OI.all hc h0 h1 hp
  have hu : ∀ t, t ≤ T → unitBusy L (ordF W T) t = true := by
    intro t
    induction t with
    | zero => intro _; rfl
    | succ t ih =>
      intro ht
      simp only [unitBusy, Bool.and_eq_true]
      refine ⟨ih (by omega), beq_iff_eq.2 ?_⟩
      rw [ordF_Z (by omega)]
      have wn := wk_nn hc t
      rcases hp t (inv t) with ⟨e, h⟩ | ⟨p, e, _, _, _, h⟩
      · exact decide_eq_decide.2 ⟨fun _ => by omega, fun _ => by omega⟩
      · exact decide_eq_decide.2 ⟨fun _ => by omega, fun _ => by omega⟩
  simp only [busyOk, Bool.and_eq_true, decide_eq_true_eq]
  exact ⟨⟨ordF_ok hc h0 h1 hp hT, by rw [ordF_len]; exact hu T (Nat.le_refl _)⟩, by rw [ordF_len]; omega⟩
end

/-! served by turns -/
def newC (L : List (Int × Int)) (t : Int) : Nat → List Int
  | 0 => []
  | k + 1 => if X L k = t then newC L t k ++ [(k : Int)] else newC L t k
def backR (lf : List Int) (b : Int) : List Int := if 0 ≤ b ∧ 0 < Z lf b.toNat then [b] else []
/-- the row, what is left, and who was served, ahead of unit t -/
def rrS (L : List (Int × Int)) : Nat → List Int × List Int × Int
  | 0 => ([], needs L, -1)
  | t + 1 =>
    let q := (rrS L t).1 ++ backR (rrS L t).2.1 (rrS L t).2.2 ++ newC L t L.length
    (q.tail, stepL (rrS L t).2.1 (q.headD (-1)), q.headD (-1))
def rrRow (L : List (Int × Int)) (t : Nat) : List Int := (rrS L t).1
def rrLf (L : List (Int × Int)) (t : Nat) : List Int := (rrS L t).2.1
def rrB (L : List (Int × Int)) (t : Nat) : Int := (rrS L t).2.2
/-- the row in unit t, with all who wait -/
def rrQ (L : List (Int × Int)) (t : Nat) : List Int := rrRow L t ++ backR (rrLf L t) (rrB L t) ++ newC L t L.length
def rrW (L : List (Int × Int)) (t : Nat) : Int := (rrQ L t).headD (-1)
theorem rrRow_succ (L : List (Int × Int)) (t : Nat) : rrRow L (t + 1) = (rrQ L t).tail := rfl
theorem rrLf_zero (L : List (Int × Int)) : rrLf L 0 = needs L := rfl
theorem rrLf_succ (L : List (Int × Int)) (t : Nat) : rrLf L (t + 1) = stepL (rrLf L t) (rrW L t) := rfl
theorem rrB_succ (L : List (Int × Int)) (t : Nat) : rrB L (t + 1) = rrW L t := rfl
theorem newC_mem {L : List (Int × Int)} {t v : Int} : ∀ {n}, v ∈ newC L t n ↔ ∃ p : Nat, v = p ∧ p < n ∧ X L p = t := by
  intro n
  induction n with
  | zero => simp [newC]
  | succ n ih =>
    simp only [newC]
    split
    · rename_i hc
      rw [List.mem_append, ih, List.mem_singleton]
      constructor
      · rintro (⟨p, e, h1, h2⟩ | h)
        · exact ⟨p, e, by omega, h2⟩
        · exact ⟨n, h, by omega, hc⟩
      · rintro ⟨p, e, h1, h2⟩
        by_cases hp : p = n
        · subst hp; exact .inr e
        · exact .inl ⟨p, e, by omega, h2⟩
    · rename_i hc
      rw [ih]
      constructor
      · rintro ⟨p, e, h1, h2⟩; exact ⟨p, e, by omega, h2⟩
      · rintro ⟨p, e, h1, h2⟩
        by_cases hp : p = n
        · subst hp; exact absurd h2 hc
        · exact ⟨p, e, by omega, h2⟩
theorem newC_nodup (L : List (Int × Int)) (t : Int) : ∀ n, (newC L t n).Nodup := by
  intro n
  induction n with
  | zero => simp [newC]
  | succ n ih =>
    simp only [newC]
    split
    · refine List.nodup_append.2 ⟨ih, by simp, fun a ha b hb => ?_⟩
      obtain ⟨p, rfl, hp, _⟩ := newC_mem.1 ha
      rw [List.mem_singleton.1 hb]; omega
    · exact ih
theorem newC_len (L : List (Int × Int)) (t : Int) : ∀ n, (newC L t n).length ≤ n := by
  intro n
  induction n with
  | zero => simp [newC]
  | succ n ih => simp only [newC]; split <;> (try simp only [List.length_append, List.length_singleton]) <;> omega
/-- who is in the row -/
def rrIn (L : List (Int × Int)) (lf : List Int) (t : Nat) (v : Int) : Prop := ∃ p : Nat, v = p ∧ p < L.length ∧ X L p ≤ t ∧ 0 < Z lf p
theorem rr_picks {L : List (Int × Int)} {t : Nat} (inv : OI L t (rrLf L t)) (hm : ∀ v, v ∈ rrQ L t ↔ rrIn L (rrLf L t) t v) : picked L t (rrLf L t) (rrW L t) := by
  cases hq : rrQ L t with
  | nil =>
    refine .inl ⟨by simp [rrW, hq], ?_⟩
    rw [← inv.sum]
    refine thereTo_none _ fun k hk => ?_
    have := (hm (k : Int)).2
    rw [hq] at this
    have r := inv.rng k hk
    by_cases hx : X L k ≤ t
    · by_cases hz : 0 < Z (rrLf L t) k
      · exact absurd (this ⟨k, rfl, hk, hx, hz⟩) (by simp)
      · right; omega
    · left; omega
  | cons w r =>
    obtain ⟨p, e, hp, hx, hz⟩ := (hm w).1 (by rw [hq]; simp)
    have hpos := thereTo_pos (lf := rrLf L t) hx hz L.length hp (fun k hk => (inv.rng k hk).1)
    rw [inv.sum] at hpos
    exact .inr ⟨p, by simp [rrW, hq, e], hp, hx, hz, by omega⟩
theorem rr_inv {L : List (Int × Int)} (hc : cOk L = true) : ∀ t, OI L t (rrLf L t) ∧ (rrQ L t).Nodup ∧ ∀ v, v ∈ rrQ L t ↔ rrIn L (rrLf L t) t v := by
  intro t
  induction t with
  | zero =>
    have e : rrQ L 0 = newC L 0 L.length := by simp [rrQ, rrRow, rrS, rrB, backR]
    refine ⟨by rw [rrLf_zero]; exact OI.first hc, by rw [e]; exact newC_nodup _ _ _, fun v => ?_⟩
    rw [e, newC_mem, rrLf_zero]
    constructor
    · rintro ⟨p, rfl, hp, hx⟩
      have := cOk_bd hc hp
      exact ⟨p, rfl, hp, by omega, by rw [needs_Z hp]; omega⟩
    · rintro ⟨p, rfl, hp, hx, _⟩
      have := cOk_bd hc hp
      exact ⟨p, rfl, hp, by omega⟩
  | succ t ih =>
    obtain ⟨inv, hnd, hm⟩ := ih
    have hp := rr_picks inv hm
    have inv' : OI L (t + 1) (rrLf L (t + 1)) := by rw [rrLf_succ]; exact inv.nextW hc hp
    have eq : rrQ L (t + 1) = (rrQ L t).tail ++ backR (rrLf L (t + 1)) (rrW L t) ++ newC L ((t + 1 : Nat) : Int) L.length := rfl
    refine ⟨inv', ?_⟩
    cases hq : rrQ L t with
    | nil =>
      have hw : rrW L t = -1 := by simp [rrW, hq]
      have hl : rrLf L (t + 1) = rrLf L t := by rw [rrLf_succ, hw]; simp [stepL]
      have e : rrQ L (t + 1) = newC L ((t + 1 : Nat) : Int) L.length := by rw [eq, hq, hw]; simp [backR]
      refine ⟨by rw [e]; exact newC_nodup _ _ _, fun v => ?_⟩
      rw [e, newC_mem, hl]
      constructor
      · rintro ⟨p, rfl, hp, hx⟩
        have l := inv.late p hp (by omega)
        have := cOk_bd hc hp
        exact ⟨p, rfl, hp, by omega, by omega⟩
      · rintro ⟨p, rfl, hp, hx, hz⟩
        refine ⟨p, rfl, hp, ?_⟩
        by_cases h : X L p ≤ t
        · have := (hm (p : Int)).2 ⟨p, rfl, hp, h, hz⟩
          rw [hq] at this; cases this
        · omega
    | cons w r =>
      have hw : rrW L t = w := by simp [rrW, hq]
      rw [hq] at hnd hm
      obtain ⟨hwr, hr⟩ := List.nodup_cons.1 hnd
      obtain ⟨p0, rfl, hp0, hx0, hz0⟩ := (hm w).1 (by simp)
      have hll : p0 < (rrLf L t).length := by rw [inv.len]; exact hp0
      have hl : rrLf L (t + 1) = (rrLf L t).set p0 (Z (rrLf L t) p0 - 1) := by rw [rrLf_succ, hw]; simp [stepL]
      have hZ : ∀ k, Z (rrLf L (t + 1)) k = if p0 = k then Z (rrLf L t) p0 - 1 else Z (rrLf L t) k := fun k => by rw [hl, Z_set hll]
      have hb : backR (rrLf L (t + 1)) (p0 : Int) = if 1 < Z (rrLf L t) p0 then [(p0 : Int)] else [] := by
        simp only [backR, Int.toNat_natCast, hZ p0, if_pos]
        by_cases h : 1 < Z (rrLf L t) p0
        · rw [if_pos h, if_pos ⟨by omega, by omega⟩]
        · rw [if_neg h, if_neg (by omega)]
      have e : rrQ L (t + 1) = r ++ (if 1 < Z (rrLf L t) p0 then [(p0 : Int)] else []) ++ newC L ((t + 1 : Nat) : Int) L.length := by rw [eq, hq, hw, hb]; rfl
      have hold : ∀ v, v ∈ r → ∃ p : Nat, v = p ∧ p < L.length ∧ X L p ≤ t ∧ 0 < Z (rrLf L t) p := fun v hv => (hm v).1 (by simp [hv])
      refine ⟨?_, fun v => ?_⟩
      · rw [e]
        refine List.nodup_append.2 ⟨List.nodup_append.2 ⟨hr, by split <;> simp, fun a ha b hb2 => ?_⟩, newC_nodup _ _ _, fun a ha b hb2 => ?_⟩
        · split at hb2
          · rw [List.mem_singleton.1 hb2]; intro e2; subst e2; exact hwr ha
          · cases hb2
        · obtain ⟨q, rfl, _, hxq⟩ := newC_mem.1 hb2
          rcases List.mem_append.1 ha with ha | ha
          · obtain ⟨p, rfl, _, hxp, _⟩ := hold a ha
            intro e2
            have : p = q := by omega
            subst this; omega
          · split at ha
            · rw [List.mem_singleton.1 ha]
              intro e2
              have : p0 = q := by omega
              subst this; omega
            · cases ha
      · rw [e, List.mem_append, List.mem_append, newC_mem]
        constructor
        · rintro ((hv | hv) | ⟨p, rfl, hp, hx⟩)
          · obtain ⟨p, rfl, h1, h2, h3⟩ := hold v hv
            refine ⟨p, rfl, h1, by omega, ?_⟩
            rw [hZ, if_neg (by intro e2; subst e2; exact hwr hv)]; exact h3
          · split at hv
            · rename_i h
              rw [List.mem_singleton.1 hv]
              exact ⟨p0, rfl, hp0, by omega, by rw [hZ, if_pos rfl]; omega⟩
            · cases hv
          · have l := inv'.late p hp (by omega)
            have := cOk_bd hc hp
            exact ⟨p, rfl, hp, by omega, by omega⟩
        · rintro ⟨p, rfl, hp, hx, hz⟩
          rw [hZ] at hz
          by_cases hpp : p0 = p
          · subst hpp
            rw [if_pos rfl] at hz
            left; right
            rw [if_pos (by omega)]; simp
          · rw [if_neg hpp] at hz
            by_cases h : X L p ≤ t
            · have := (hm (p : Int)).2 ⟨p, rfl, hp, h, hz⟩
              rcases List.mem_cons.1 this with e2 | e2
              · omega
              · exact .inl (.inl e2)
            · exact .inr ⟨p, rfl, hp, by omega⟩
/-- the order by turns -/
def rrO (L : List (Int × Int)) (n : Nat) : List Int := ordF (rrW L) n
theorem rr_left {L : List (Int × Int)} (n : Nat) {t : Nat} (ht : t ≤ n) : leftOf L (rrO L n) t = rrLf L t := leftOf_F (rrLf_zero L) (rrLf_succ L) n t ht
theorem rr_ok {L : List (Int × Int)} (hc : cOk L = true) {T : Nat} (hT : lastLeave L = T) : ordOk L (rrO L T) = true :=
  ordF_ok hc (rrLf_zero L) (rrLf_succ L) (fun t inv => rr_picks inv (rr_inv hc t).2.2) hT
/-- ROUNDS DO NOT IDLE -/
theorem rr_busy {L : List (Int × Int)} (hc : cOk L = true) {T : Nat} (hT : lastLeave L = T) : busyOk L (rrO L T) = true :=
  ordF_busy hc (rrLf_zero L) (rrLf_succ L) (fun t inv => rr_picks inv (rr_inv hc t).2.2) hT
/-! of two who are there none is ahead by more than one unit -/
def aheadIn (L : List (Int × Int)) (a b : Int) (t : Nat) : Prop := List.Sublist [a, b] (rrQ L t)
theorem pair_or {l : List Int} {a b : Int} (hn : l.Nodup) (hab : a ≠ b) (ha : a ∈ l) (hb : b ∈ l) : List.Sublist [a, b] l ∨ List.Sublist [b, a] l := by
  induction l with
  | nil => cases ha
  | cons c r ih =>
    obtain ⟨h1, h2⟩ := List.nodup_cons.1 hn
    rcases List.mem_cons.1 ha with ea | ha2
    · subst ea
      rcases List.mem_cons.1 hb with rfl | hb2
      · exact absurd rfl hab
      · exact .inl (List.Sublist.cons_cons _ (List.singleton_sublist.2 hb2))
    · rcases List.mem_cons.1 hb with eb | hb2
      · subst eb
        exact .inr (List.Sublist.cons_cons _ (List.singleton_sublist.2 ha2))
      · rcases ih h2 ha2 hb2 with h | h
        · exact .inl (h.cons _)
        · exact .inr (h.cons _)
theorem pair_head {l : List Int} {a b : Int} (hn : l.Nodup) (hab : a ≠ b) (h : List.Sublist [a, b] l) : l.headD (-1) ≠ b ∨ l = [] := by
  cases l with
  | nil => exact .inr rfl
  | cons c r =>
    left
    simp only [List.headD_cons]
    intro e; subst e
    obtain ⟨h1, h2⟩ := List.nodup_cons.1 hn
    cases h with
    | cons _ h => exact h1 (h.subset (by simp))
    | cons_cons _ h => exact hab rfl
theorem ahead_step {L : List (Int × Int)} (hc : cOk L = true) {a b : Nat} (hab : a ≠ b) {t : Nat} (h : aheadIn L a b t) (ha : (a : Int) ∈ rrQ L (t + 1)) (hb : (b : Int) ∈ rrQ L (t + 1)) :
    rrW L t ≠ b ∧ ((rrW L t = a ∧ aheadIn L b a (t + 1)) ∨ (rrW L t ≠ a ∧ aheadIn L a b (t + 1))) := by
  obtain ⟨inv, hnd, hm⟩ := rr_inv hc t
  obtain ⟨inv', hnd', hm'⟩ := rr_inv hc (t + 1)
  have eq : rrQ L (t + 1) = (rrQ L t).tail ++ (backR (rrLf L (t + 1)) (rrW L t) ++ newC L ((t + 1 : Nat) : Int) L.length) := by rw [← List.append_assoc]; rfl
  have hab' : (a : Int) ≠ b := by omega
  unfold aheadIn at *
  cases hq : rrQ L t with
  | nil => rw [hq] at h; cases h
  | cons w r =>
    have hw : rrW L t = w := by simp [rrW, hq]
    rw [hq] at h hnd
    obtain ⟨h1, h2⟩ := List.nodup_cons.1 hnd
    have hwb : w ≠ b := by
      rcases pair_head hnd hab' h with h | h
      · simpa using h
      · cases h
    rw [hw]
    refine ⟨hwb, ?_⟩
    rw [hq, hw] at eq
    simp only [List.tail_cons] at eq
    by_cases hwa : w = a
    · subst hwa
      left
      refine ⟨rfl, ?_⟩
      have hbr : (b : Int) ∈ r := by
        have : (b : Int) ∈ (a : Int) :: r := h.subset (by simp)
        rcases List.mem_cons.1 this with e | e
        · exact absurd e.symm hab'
        · exact e
      have har : (a : Int) ∈ backR (rrLf L (t + 1)) (a : Int) ++ newC L ((t + 1 : Nat) : Int) L.length := by
        rw [eq] at ha
        rcases List.mem_append.1 ha with h | h
        · exact absurd h h1
        · exact h
      rw [eq]
      exact List.Sublist.append (l₁ := [(b : Int)]) (l₂ := r) (r₁ := [(a : Int)]) (List.singleton_sublist.2 hbr) (List.singleton_sublist.2 har)
    · right
      refine ⟨hwa, ?_⟩
      rw [eq]
      have : List.Sublist [(a : Int), (b : Int)] r := by
        cases h with
        | cons _ h => exact h
        | cons_cons _ h => exact absurd rfl hwa
      exact this.trans (List.sublist_append_left _ _)

end Go.Proofs.Ytecoefjkobpbgaa

