/- Plain mathematics of chapter 11, second part (ahead): units of parts; who is ahead; ends by turns. -/
import Derived.Test.YtecoefjkobpbgaaM30
import Derived.Test.YtecoefjkobpbgaaM19
namespace Go.Proofs.Ytecoefjkobpbgaa
set_option linter.unusedVariables false
open Go.RowKit

def cntU (o : List Int) (who : Int) : Nat → Int
  | 0 => 0
  | t + 1 => cntU o who t + (if Z o t = who then 1 else 0)
theorem cntU_mono (o : List Int) (who : Int) (s : Nat) : ∀ d, cntU o who s ≤ cntU o who (s + d) ∧ cntU o who (s + d) ≤ cntU o who s + d := by
  intro d
  induction d with
  | zero => simp
  | succ d ih => rw [show s + (d + 1) = s + d + 1 by omega]; simp only [cntU]; split <;> omega
theorem cntU_bd (o : List Int) (who : Int) (t : Nat) : 0 ≤ cntU o who t ∧ cntU o who t ≤ t := by
  have := cntU_mono o who 0 t
  simp only [cntU, Nat.zero_add] at this; omega
theorem cntU_left {L : List (Int × Int)} {o : List Int} {n : Nat} (ho : unitsOk L o n = true) {k : Nat} (hk : k < L.length) : ∀ t, t ≤ n → cntU o k t = Y L k - Z (leftOf L o t) k := by
  intro t
  induction t with
  | zero => intro _; show 0 = Y L k - Z (needs L) k; rw [needs_Z hk]; omega
  | succ t ih =>
    intro ht
    simp only [cntU, ih (by omega)]
    show _ = Y L k - Z (stepL (leftOf L o t) (Z o t)) k
    by_cases e : Z o t = k
    · have es : stepL (leftOf L o t) (Z o t) = (leftOf L o t).set k (Z (leftOf L o t) k - 1) := by rw [e]; simp [stepL]
      rw [es, Z_set (by rw [leftOf_len]; exact hk), if_pos rfl, if_pos e]; omega
    · rw [stepL_other e (by rw [leftOf_len]; exact unit_range ho (by omega)), if_neg e]; omega
theorem cntU_all {L : List (Int × Int)} {o : List Int} (h : ordOk L o = true) {k : Nat} (hk : k < L.length) : cntU o k o.length = Y L k := by
  obtain ⟨hc, _, hu, hn⟩ := ordOk_parts h
  have := cntU_left hu hk o.length (Nat.le_refl _)
  have r := (leftOf_inv hc hu o.length (Nat.le_refl _)).rng k hk
  have z := noneLeft_at _ hn k hk
  omega
theorem cntU_end (o : List Int) (k : Nat) : ∀ n, cntU o k n = cntU o k (endTo o k n).toNat := by
  intro n
  induction n with
  | zero => rfl
  | succ n ih =>
    simp only [endTo]
    by_cases e : Z o n = k
    · rw [if_pos e, show ((n : Int) + 1).toNat = n + 1 by omega]
    · rw [if_neg e, ← ih]; simp only [cntU, if_neg e, Int.add_zero]
/-- UnitsIn -/
def uiOk (L : List (Int × Int)) (o : List Int) (who f t : Int) : Bool := ordOk L o && decide (0 ≤ who ∧ who ≤ (L.length : Int) - 1) && decide (0 ≤ f ∧ f ≤ t) && decide (t ≤ 200)
theorem uiOk_parts {L : List (Int × Int)} {o : List Int} {who f t : Int} (h : uiOk L o who f t = true) : ordOk L o = true ∧ (0 ≤ who ∧ who ≤ (L.length : Int) - 1) ∧ (0 ≤ f ∧ f ≤ t) ∧ t ≤ 200 := by
  simp only [uiOk, Bool.and_eq_true, decide_eq_true_eq] at h
  exact ⟨h.1.1.1, h.1.1.2, h.1.2, h.2⟩
def cutT (o : List Int) (t : Int) : Nat := (min t o.length).toNat
def unitsInV (L : List (Int × Int)) (o : List Int) (who f t : Int) : Int := if uiOk L o who f t = true then cntU o who (cutT o t) - cntU o who (cutT o f) else -1
theorem unitsInV_yes {L : List (Int × Int)} {o : List Int} {who f t : Int} (h : uiOk L o who f t = true) : unitsInV L o who f t = cntU o who (cutT o t) - cntU o who (cutT o f) := if_pos h
theorem unitsInV_no {L : List (Int × Int)} {o : List Int} {who f t : Int} (h : uiOk L o who f t = false) : unitsInV L o who f t = -1 := by simp [unitsInV, h]
theorem cutT_mono {o : List Int} {f t : Int} (h : f ≤ t) : cutT o f ≤ cutT o t := by unfold cutT; omega
theorem unitsInV_bd {L : List (Int × Int)} {o : List Int} {who f t : Int} (h : uiOk L o who f t = true) : 0 ≤ unitsInV L o who f t ∧ unitsInV L o who f t ≤ t - f := by
  obtain ⟨_, _, hf, _⟩ := uiOk_parts h
  rw [unitsInV_yes h]
  have hm := cutT_mono (o := o) hf.2
  have := cntU_mono o who (cutT o f) (cutT o t - cutT o f)
  rw [show cutT o f + (cutT o t - cutT o f) = cutT o t by omega] at this
  have : (cutT o t : Int) - cutT o f ≤ t - f := by unfold cutT; omega
  omega
/-- UNITS OF PARTS ARE UNITS -/
theorem units_parts {L : List (Int × Int)} {o : List Int} {who f t m : Int} (h : uiOk L o who f t = true) (hm : f ≤ m ∧ m ≤ t) : unitsInV L o who f t = unitsInV L o who f m + unitsInV L o who m t := by
  obtain ⟨a, b, c, d⟩ := uiOk_parts h
  have h1 : uiOk L o who f m = true := by simp only [uiOk, Bool.and_eq_true, decide_eq_true_eq]; exact ⟨⟨⟨a, b⟩, by omega⟩, by omega⟩
  have h2 : uiOk L o who m t = true := by simp only [uiOk, Bool.and_eq_true, decide_eq_true_eq]; exact ⟨⟨⟨a, b⟩, by omega⟩, by omega⟩
  rw [unitsInV_yes h, unitsInV_yes h1, unitsInV_yes h2]; omega
theorem units_whole {L : List (Int × Int)} {o : List Int} {who f t : Int} (h : uiOk L o who f t = true) : unitsInV L o who 0 200 = Y L who.toNat := by
  obtain ⟨a, b, c, d⟩ := uiOk_parts h
  have h1 : uiOk L o who 0 200 = true := by simp only [uiOk, Bool.and_eq_true, decide_eq_true_eq]; exact ⟨⟨⟨a, b⟩, by omega⟩, by omega⟩
  have hl := (ordOk_parts a).2.1
  have e := cntU_all a (k := who.toNat) (by omega)
  rw [show ((who.toNat : Nat) : Int) = who by omega] at e
  rw [unitsInV_yes h1, show cutT o 200 = o.length by unfold cutT; omega, show cutT o 0 = 0 by unfold cutT; omega, e]
  simp [cntU]
/-- AheadBy -/
def diffU (o : List Int) (a b : Int) (f : Nat) : Nat → Int
  | 0 => 0
  | d + 1 => diffU o a b f d + (if Z o (f + d) = a then 1 else 0) - (if Z o (f + d) = b then 1 else 0)
theorem diffU_cnt (o : List Int) (a b : Int) (f : Nat) : ∀ d, diffU o a b f d = (cntU o a (f + d) - cntU o a f) - (cntU o b (f + d) - cntU o b f) := by
  intro d
  induction d with
  | zero => simp [diffU]
  | succ d ih => rw [show f + (d + 1) = f + d + 1 by omega]; simp only [diffU, cntU, ih]; omega
theorem diffU_flip (o : List Int) (a b : Int) (f d : Nat) : diffU o b a f d = - diffU o a b f d := by rw [diffU_cnt, diffU_cnt]; omega
theorem diffU_same (o : List Int) (a : Int) (f d : Nat) : diffU o a a f d = 0 := by rw [diffU_cnt]; omega
def innerB (o : List Int) (a b : Int) (f : Nat) (best : Int) : Nat → Int
  | 0 => best
  | d + 1 => max (innerB o a b f best d) (max (diffU o a b f (d + 1)) (- diffU o a b f (d + 1)))
def outerB (o : List Int) (a b : Int) (lo hi : Nat) : Nat → Int
  | 0 => 0
  | i + 1 => innerB o a b (lo + i) (outerB o a b lo hi i) (hi - (lo + i))
theorem innerB_bd {o : List Int} {a b : Int} {f : Nat} {best M : Int} (h0 : 0 ≤ best ∧ best ≤ M) : ∀ d, (∀ e, e < d → -M ≤ diffU o a b f (e + 1) ∧ diffU o a b f (e + 1) ≤ M) → 0 ≤ innerB o a b f best d ∧ innerB o a b f best d ≤ M := by
  intro d
  induction d with
  | zero => intro _; exact h0
  | succ d ih =>
    intro h
    have i := ih (fun e he => h e (by omega))
    have x := h d (by omega)
    simp only [innerB]; omega
theorem outerB_bd {o : List Int} {a b : Int} {lo hi : Nat} {M : Int} (hM : 0 ≤ M) : ∀ i, (∀ f d, lo ≤ f → f < lo + i → f + d < hi → -M ≤ diffU o a b f (d + 1) ∧ diffU o a b f (d + 1) ≤ M) → 0 ≤ outerB o a b lo hi i ∧ outerB o a b lo hi i ≤ M := by
  intro i
  induction i with
  | zero => intro _; simp only [outerB]; omega
  | succ i ih =>
    intro h
    have x := ih (fun f d h1 h2 h3 => h f d h1 (by omega) h3)
    exact innerB_bd x _ (fun e he => h (lo + i) e (by omega) (by omega) (by omega))
theorem innerB_flip (o : List Int) (a b : Int) (f : Nat) (best : Int) : ∀ d, innerB o b a f best d = innerB o a b f best d := by
  intro d
  induction d with
  | zero => rfl
  | succ d ih => simp only [innerB, ih, diffU_flip o a b]; omega
theorem outerB_flip (o : List Int) (a b : Int) (lo hi : Nat) : ∀ i, outerB o b a lo hi i = outerB o a b lo hi i := by
  intro i
  induction i with
  | zero => rfl
  | succ i ih => simp only [outerB, ih, innerB_flip o a b]
def aheadOk (L : List (Int × Int)) (o : List Int) (a b : Int) : Bool := ordOk L o && decide (0 ≤ a ∧ a ≤ (L.length : Int) - 1) && decide (0 ≤ b ∧ b ≤ (L.length : Int) - 1)
theorem aheadOk_parts {L : List (Int × Int)} {o : List Int} {a b : Int} (h : aheadOk L o a b = true) : ordOk L o = true ∧ (0 ≤ a ∧ a ≤ (L.length : Int) - 1) ∧ (0 ≤ b ∧ b ≤ (L.length : Int) - 1) := by
  simp only [aheadOk, Bool.and_eq_true, decide_eq_true_eq] at h
  exact ⟨h.1.1, h.1.2, h.2⟩
def loA (L : List (Int × Int)) (a b : Int) : Nat := (max (X L a.toNat) (X L b.toNat)).toNat
def hiA (o : List Int) (a b : Int) : Nat := (min (endTo o a.toNat o.length) (endTo o b.toNat o.length)).toNat
def aheadV (L : List (Int × Int)) (o : List Int) (a b : Int) : Int := if aheadOk L o a b = true then outerB o a b (loA L a b) (hiA o a b) (hiA o a b - loA L a b) else -1
theorem aheadV_yes {L : List (Int × Int)} {o : List Int} {a b : Int} (h : aheadOk L o a b = true) : aheadV L o a b = outerB o a b (loA L a b) (hiA o a b) (hiA o a b - loA L a b) := if_pos h
theorem aheadV_no {L : List (Int × Int)} {o : List Int} {a b : Int} (h : aheadOk L o a b = false) : aheadV L o a b = -1 := by simp [aheadV, h]
theorem aheadOk_flip (L : List (Int × Int)) (o : List Int) (a b : Int) : aheadOk L o b a = aheadOk L o a b := by
  unfold aheadOk
  cases ordOk L o <;> simp only [Bool.true_and, Bool.false_and]
  exact Bool.and_comm _ _
/-- AHEAD IS AHEAD BOTH WAYS -/
theorem ahead_flip (L : List (Int × Int)) (o : List Int) (a b : Int) : aheadV L o b a = aheadV L o a b := by
  have e1 : loA L b a = loA L a b := by unfold loA; omega
  have e2 : hiA o b a = hiA o a b := by unfold hiA; omega
  unfold aheadV
  rw [aheadOk_flip, e1, e2, outerB_flip]
theorem ahead_same {L : List (Int × Int)} {o : List Int} {a : Int} (h : aheadOk L o a a = true) : aheadV L o a a = 0 := by
  rw [aheadV_yes h]
  have := outerB_bd (o := o) (a := a) (b := a) (lo := loA L a a) (hi := hiA o a a) (M := 0) (Int.le_refl _) (hiA o a a - loA L a a) (fun f d _ _ _ => by rw [diffU_same]; omega)
  omega
theorem ahead_bd {L : List (Int × Int)} {o : List Int} {a b : Int} (h : aheadOk L o a b = true) : 0 ≤ aheadV L o a b ∧ aheadV L o a b ≤ max (Y L a.toNat) (Y L b.toNat) := by
  obtain ⟨ho, ha, hb⟩ := aheadOk_parts h
  obtain ⟨hc, _, _, _⟩ := ordOk_parts ho
  have ya := cOk_bd hc (k := a.toNat) (by omega)
  have yb := cOk_bd hc (k := b.toNat) (by omega)
  have ca := cntU_all ho (k := a.toNat) (by omega)
  have cb := cntU_all ho (k := b.toNat) (by omega)
  rw [show ((a.toNat : Nat) : Int) = a by omega] at ca
  rw [show ((b.toNat : Nat) : Int) = b by omega] at cb
  have hle := endTo_le o a.toNat o.length
  rw [aheadV_yes h]
  refine outerB_bd (by omega) _ fun f d h1 h2 h3 => ?_
  have hf : f + (d + 1) ≤ o.length := by
    have : hiA o a b ≤ o.length := by unfold hiA; omega
    omega
  have m1 := cntU_mono o a f (d + 1)
  have m2 := cntU_mono o b f (d + 1)
  have m3 := cntU_mono o a (f + (d + 1)) (o.length - (f + (d + 1)))
  have m4 := cntU_mono o b (f + (d + 1)) (o.length - (f + (d + 1)))
  rw [show f + (d + 1) + (o.length - (f + (d + 1))) = o.length by omega] at m3 m4
  have z1 := cntU_bd o a f
  have z2 := cntU_bd o b f
  rw [diffU_cnt]; omega
/-! by turns -/
def bothIn (L : List (Int × Int)) (a b s : Nat) : Prop := (a : Int) ∈ rrQ L s ∧ (b : Int) ∈ rrQ L s
theorem rr_there {L : List (Int × Int)} (hc : cOk L = true) {T : Nat} (hT : lastLeave L = T) {k s : Nat} (hk : k < L.length) (hx : X L k ≤ s) (he : (s : Int) < endTo (rrO L T) k T) : (k : Int) ∈ rrQ L s := by
  have ho := rr_ok hc hT
  obtain ⟨_, _, hu, _⟩ := ordOk_parts ho
  have hl : (rrO L T).length = T := ordF_len _ _
  rw [hl] at hu
  have hle := endTo_le (rrO L T) k T
  have hz := end_left hc hu hk (t := s) (by omega) he
  rw [rr_left T (by omega)] at hz
  exact ((rr_inv hc s).2.2 _).2 ⟨k, rfl, hk, hx, hz⟩
/-- who is ahead in the row, and by how many units since f -/
theorem rr_phase {L : List (Int × Int)} (hc : cOk L = true) {T a b f : Nat} (hab : a ≠ b) : ∀ d, f + d < T → (∀ s, f ≤ s → s ≤ f + d → bothIn L a b s) →
    (aheadIn L a b f ∧ aheadIn L a b (f + d) ∧ diffU (rrO L T) a b f d = 0) ∨ (aheadIn L a b f ∧ aheadIn L b a (f + d) ∧ diffU (rrO L T) a b f d = 1) ∨
    (aheadIn L b a f ∧ aheadIn L a b (f + d) ∧ diffU (rrO L T) a b f d = -1) ∨ (aheadIn L b a f ∧ aheadIn L b a (f + d) ∧ diffU (rrO L T) a b f d = 0) := by
  intro d
  induction d with
  | zero =>
    intro _ h
    obtain ⟨h1, h2⟩ := h f (Nat.le_refl _) (by omega)
    rcases pair_or (rr_inv hc f).2.1 (show (a : Int) ≠ b by omega) h1 h2 with h | h
    · exact .inl ⟨h, h, rfl⟩
    · exact .inr (.inr (.inr ⟨h, h, rfl⟩))
  | succ d ih =>
    intro hT h
    have i := ih (by omega) (fun s h1 h2 => h s h1 (by omega))
    obtain ⟨ha, hb⟩ := h (f + (d + 1)) (by omega) (Nat.le_refl _)
    have ez : Z (rrO L T) (f + d) = rrW L (f + d) := ordF_Z (by omega)
    have ed : diffU (rrO L T) a b f (d + 1) = diffU (rrO L T) a b f d + (if rrW L (f + d) = a then 1 else 0) - (if rrW L (f + d) = b then 1 else 0) := by simp only [diffU, ez]
    have e9 : f + (d + 1) = f + d + 1 := by omega
    rw [e9] at ha hb ⊢
    rw [ed]
    rcases i with ⟨p1, p2, p3⟩ | ⟨p1, p2, p3⟩ | ⟨p1, p2, p3⟩ | ⟨p1, p2, p3⟩
    · obtain ⟨s1, s2⟩ := ahead_step hc hab p2 ha hb
      rcases s2 with ⟨e, s⟩ | ⟨e, s⟩
      · exact .inr (.inl ⟨p1, s, by rw [if_pos e, if_neg s1]; omega⟩)
      · exact .inl ⟨p1, s, by rw [if_neg e, if_neg s1]; omega⟩
    · obtain ⟨s1, s2⟩ := ahead_step hc (Ne.symm hab) p2 hb ha
      rcases s2 with ⟨e, s⟩ | ⟨e, s⟩
      · exact .inl ⟨p1, s, by rw [if_pos e, if_neg s1]; omega⟩
      · exact .inr (.inl ⟨p1, s, by rw [if_neg e, if_neg s1]; omega⟩)
    · obtain ⟨s1, s2⟩ := ahead_step hc hab p2 ha hb
      rcases s2 with ⟨e, s⟩ | ⟨e, s⟩
      · exact .inr (.inr (.inr ⟨p1, s, by rw [if_pos e, if_neg s1]; omega⟩))
      · exact .inr (.inr (.inl ⟨p1, s, by rw [if_neg e, if_neg s1]; omega⟩))
    · obtain ⟨s1, s2⟩ := ahead_step hc (Ne.symm hab) p2 hb ha
      rcases s2 with ⟨e, s⟩ | ⟨e, s⟩
      · exact .inr (.inr (.inl ⟨p1, s, by rw [if_pos e, if_neg s1]; omega⟩))
      · exact .inr (.inr (.inr ⟨p1, s, by rw [if_neg e, if_neg s1]; omega⟩))
theorem head_not {L : List (Int × Int)} (hc : cOk L = true) {a b : Nat} (hab : a ≠ b) {t : Nat} (h : aheadIn L a b t) : rrW L t ≠ b := by
  rcases pair_head (rr_inv hc t).2.1 (show (a : Int) ≠ b by omega) h with e | e
  · exact e
  · unfold aheadIn at h; rw [e] at h; cases h
theorem rr_diff {L : List (Int × Int)} (hc : cOk L = true) {T : Nat} (hT : lastLeave L = T) {a b f d : Nat} (hab : a ≠ b) (ha : a < L.length) (hb : b < L.length) (hxa : X L a ≤ f) (hxb : X L b ≤ f) (h1 : ((f + d : Nat) : Int) < endTo (rrO L T) a T) (h2 : ((f + d : Nat) : Int) < endTo (rrO L T) b T) :
    -1 ≤ diffU (rrO L T) a b f (d + 1) ∧ diffU (rrO L T) a b f (d + 1) ≤ 1 := by
  have hle := endTo_le (rrO L T) a T
  have hT2 : f + d < T := by omega
  have p := rr_phase hc hab (T := T) (f := f) d hT2 (fun s s1 s2 => ⟨rr_there hc hT ha (by omega) (by omega), rr_there hc hT hb (by omega) (by omega)⟩)
  have ez : Z (rrO L T) (f + d) = rrW L (f + d) := ordF_Z hT2
  simp only [diffU, ez]
  rcases p with ⟨_, p2, p3⟩ | ⟨_, p2, p3⟩ | ⟨_, p2, p3⟩ | ⟨_, p2, p3⟩
  · have := head_not hc hab p2
    rw [if_neg this]; split <;> omega
  · have := head_not hc (Ne.symm hab) p2
    rw [if_neg this]; split <;> omega
  · have := head_not hc hab p2
    rw [if_neg this]; split <;> omega
  · have := head_not hc (Ne.symm hab) p2
    rw [if_neg this]; split <;> omega
/-- of each two customers none is ahead by more than one unit -/
theorem rr_ahead {L : List (Int × Int)} (hc : cOk L = true) {T : Nat} (hT : lastLeave L = T) {a b : Nat} (hab : a ≠ b) (ha : a < L.length) (hb : b < L.length) : 0 ≤ aheadV L (rrO L T) a b ∧ aheadV L (rrO L T) a b ≤ 1 := by
  have hok : aheadOk L (rrO L T) a b = true := by simp only [aheadOk, rr_ok hc hT, Bool.true_and, Bool.and_eq_true, decide_eq_true_eq]; omega
  have hl : (rrO L T).length = T := ordF_len _ _
  rw [aheadV_yes hok]
  refine outerB_bd (by omega) _ fun f d h1 h2 h3 => ?_
  have xa := (cOk_bd hc ha).1
  have xb := (cOk_bd hc hb).1
  have ea := endTo_le (rrO L T) a T
  have eb := endTo_le (rrO L T) b T
  simp only [loA, hiA, Int.toNat_natCast, hl] at h1 h2 h3
  exact rr_diff hc hT hab ha hb (by omega) (by omega) (by omega) (by omega)
theorem newC_pair {L : List (Int × Int)} {t : Int} {j k : Nat} (hjk : j < k) (hj : X L j = t) (hk : X L k = t) : ∀ n, k < n → List.Sublist [(j : Int), (k : Int)] (newC L t n) := by
  intro n
  induction n with
  | zero => intro h; omega
  | succ n ih =>
    intro h
    by_cases e : k = n
    · subst e
      simp only [newC, if_pos hk]
      exact List.Sublist.append (l₁ := [(j : Int)]) (r₁ := [(k : Int)]) (List.singleton_sublist.2 (newC_mem.2 ⟨j, rfl, hjk, hj⟩)) (List.Sublist.refl _)
    · have := ih (by omega)
      simp only [newC]
      split
      · exact this.trans (List.sublist_append_left _ _)
      · exact this
theorem cntU_last {L : List (Int × Int)} {o : List Int} (h : ordOk L o = true) {k u : Nat} (hk : k < L.length) (he : endTo o k o.length = (u : Int) + 1) (hz : Z o u = k) : cntU o k u = Y L k - 1 := by
  have a := cntU_all h hk
  rw [cntU_end, he, show ((u : Int) + 1).toNat = u + 1 by omega] at a
  simp only [cntU, if_pos hz] at a
  omega
/-- ROUNDS END SHORT NEEDS SOONER -/
theorem rr_ends {L : List (Int × Int)} (hc : cOk L = true) {T : Nat} (hT : lastLeave L = T) (h0 : ∀ k, k < L.length → X L k = 0) {j k : Nat} (hjk : j < k) (hk : k < L.length) : endTo (rrO L T) j T < endTo (rrO L T) k T ↔ Y L j ≤ Y L k := by
  have ho := rr_ok hc hT
  obtain ⟨_, _, hu, _⟩ := ordOk_parts ho
  have hl : (rrO L T).length = T := ordF_len _ _
  have hd := ends_diff ho hjk hk
  have nj := ends_need ho (k := j) (by omega)
  have nk := ends_need ho hk
  rw [hl] at hd nj nk hu
  have yj := cOk_bd hc (k := j) (by omega)
  have yk := cOk_bd hc hk
  have hq0 : rrQ L 0 = newC L 0 L.length := by simp [rrQ, rrRow, rrS, rrB, backR]
  have hA : aheadIn L j k 0 := by unfold aheadIn; rw [hq0]; exact newC_pair hjk (h0 j (by omega)) (h0 k hk) _ hk
  have hnB : ¬ aheadIn L k j 0 := fun hB => by
    have hjQ : (j : Int) ∈ rrQ L 0 := hA.subset (by simp)
    have n1 := head_not hc (show j ≠ k by omega) hA
    have key : ∀ l : List Int, l.Nodup → List.Sublist [(j : Int), (k : Int)] l → List.Sublist [(k : Int), (j : Int)] l → False := by
      intro l
      induction l with
      | nil => intro _ h _; cases h
      | cons c r ih =>
        intro hn s1 s2
        obtain ⟨m1, m2⟩ := List.nodup_cons.1 hn
        cases s1 with
        | cons _ s1 =>
          cases s2 with
          | cons _ s2 => exact ih m2 s1 s2
          | cons_cons _ s2 => exact m1 (s1.subset (by simp))
        | cons_cons _ s1 =>
          cases s2 with
          | cons _ s2 => exact m1 (s2.subset (by simp))
          | cons_cons _ s2 => omega
    exact key _ (rr_inv hc 0).2.1 hA hB
  have phase : ∀ u, u < T → (∀ s, s ≤ u → bothIn L j k s) → (aheadIn L j k u ∧ diffU (rrO L T) j k 0 u = 0) ∨ (aheadIn L k j u ∧ diffU (rrO L T) j k 0 u = 1) := by
    intro u hu hs
    have p := rr_phase hc (show j ≠ k by omega) (T := T) (f := 0) u (by omega) (fun s _ h2 => hs s (by omega))
    rw [Nat.zero_add] at p
    rcases p with ⟨_, a, b⟩ | ⟨_, a, b⟩ | ⟨x, _, _⟩ | ⟨x, _, _⟩
    · exact .inl ⟨a, b⟩
    · exact .inr ⟨a, b⟩
    · exact absurd x hnB
    · exact absurd x hnB
  have there : ∀ s : Nat, (s : Int) < endTo (rrO L T) j T → (s : Int) < endTo (rrO L T) k T → bothIn L j k s := fun s a b =>
    ⟨rr_there hc hT (by omega) (by have := h0 j (by omega); omega) a, rr_there hc hT hk (by have := h0 k hk; omega) b⟩
  have dc : ∀ u, diffU (rrO L T) j k 0 u = cntU (rrO L T) j u - cntU (rrO L T) k u := fun u => by rw [diffU_cnt, Nat.zero_add]; simp [cntU]
  have left : ∀ (i u : Nat), i < L.length → u ≤ T → (u : Int) < endTo (rrO L T) i T → cntU (rrO L T) i u ≤ Y L i - 1 := by
    intro i u hi hu2 he
    have := cntU_left hu hi u hu2
    have := end_left hc hu hi hu2 he
    omega
  rcases Int.lt_or_gt_of_ne hd with hlt | hgt
  · refine ⟨fun _ => ?_, fun _ => hlt⟩
    rcases endTo_at (rrO L T) j T with z | ⟨u, hu2, e, hz⟩
    · omega
    · have cl := cntU_last ho (k := j) (u := u) (by omega) (by rw [hl]; exact e) hz
      have p := phase u hu2 (fun s hs => there s (by omega) (by omega))
      have ez : Z (rrO L T) u = rrW L u := ordF_Z hu2
      rcases p with ⟨a, b⟩ | ⟨a, b⟩
      · rw [dc] at b
        have := left k u hk (by omega) (by omega)
        omega
      · exact absurd (ez.symm.trans hz) (head_not hc (show k ≠ j by omega) a)
  · refine ⟨fun h => by omega, fun h => ?_⟩
    exfalso
    rcases endTo_at (rrO L T) k T with z | ⟨u, hu2, e, hz⟩
    · omega
    · have cl := cntU_last ho (k := k) (u := u) hk (by rw [hl]; exact e) hz
      have p := phase u hu2 (fun s hs => there s (by omega) (by omega))
      have ez : Z (rrO L T) u = rrW L u := ordF_Z hu2
      rcases p with ⟨a, b⟩ | ⟨a, b⟩
      · exact absurd (ez.symm.trans hz) (head_not hc (show j ≠ k by omega) a)
      · rw [dc] at b
        have := left j u (by omega) (by omega) (by omega)
        omega
/-! what the functions answer -/
def roundR (L : List (Int × Int)) : List Int := if cOk L = true then rrO L (lastLeave L).toNat else []
theorem roundR_yes {L : List (Int × Int)} (h : cOk L = true) {T : Nat} (hT : lastLeave L = T) : roundR L = rrO L T := by rw [roundR, if_pos h, hT]; rfl
theorem roundR_no {L : List (Int × Int)} (h : cOk L = false) : roundR L = [] := by simp [roundR, h]
theorem rrO_len (L : List (Int × Int)) (n : Nat) : (rrO L n).length = n := ordF_len _ _
theorem roundR_len (L : List (Int × Int)) : (roundR L).length ≤ 200 := by
  cases h : cOk L with
  | true => obtain ⟨T, hT, hT2⟩ := lastLeave_nat h; rw [roundR_yes h hT, rrO_len]; omega
  | false => rw [roundR_no h]; simp
theorem rrQ_len {L : List (Int × Int)} (hc : cOk L = true) (t : Nat) : (rrQ L t).length ≤ 8 := by
  obtain ⟨_, hnd, hm⟩ := rr_inv hc t
  have hlen := cOk_len hc
  have hin : ∀ v, v ∈ rrQ L t → v ∈ upto L.length := fun v hv => by
    obtain ⟨p, rfl, hp, _⟩ := (hm v).1 hv
    exact mem_upto.2 ⟨by omega, by omega⟩
  rcases Nat.lt_or_ge L.length (rrQ L t).length with h | h
  · have := (perm_of_all hnd hin (by rw [upto_len]; omega)).length_eq
    rw [upto_len] at this; omega
  · omega

end Go.Proofs.Ytecoefjkobpbgaa

