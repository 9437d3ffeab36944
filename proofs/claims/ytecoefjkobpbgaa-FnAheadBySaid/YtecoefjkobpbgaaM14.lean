/- Plain mathematics of chapter 5 (ahead): by the least left nobody more is there. -/
import Derived.Test.YtecoefjkobpbgaaM10
namespace Go.Proofs.Ytecoefjkobpbgaa
set_option linter.unusedVariables false
open Go.RowKit

/-- what is left of the first j but those in S -/
def sOut (a : Nat → Int) (S : Nat → Bool) : Nat → Int
  | 0 => 0
  | j + 1 => sOut a S j + (if S j = true then 0 else a j)
def sCnt (S : Nat → Bool) : Nat → Nat
  | 0 => 0
  | j + 1 => sCnt S j + (if S j = true then 1 else 0)
/-- whoever is taken out of b, as few can be taken out of a so that no more is left -/
def Dom (n : Nat) (a b : Nat → Int) : Prop := ∀ S, ∃ S', sCnt S' n ≤ sCnt S n ∧ sOut a S' n ≤ sOut b S n
def upd {β : Type} (f : Nat → β) (p : Nat) (v : β) : Nat → β := fun i => if i = p then v else f i

theorem upd_same {β : Type} (f : Nat → β) (p : Nat) (v : β) : upd f p v p = v := if_pos rfl
theorem upd_ne {β : Type} (f : Nat → β) {p i : Nat} (v : β) (h : i ≠ p) : upd f p v i = f i := if_neg h

theorem sOut_congr {a b : Nat → Int} {S : Nat → Bool} : ∀ j, (∀ i, i < j → a i = b i) → sOut a S j = sOut b S j := by
  intro j
  induction j with
  | zero => intro _; rfl
  | succ j ih => intro h; simp only [sOut]; rw [ih (fun i hi => h i (by omega)), h j (by omega)]
theorem sOut_nn {a : Nat → Int} {S : Nat → Bool} : ∀ j, (∀ i, i < j → 0 ≤ a i) → 0 ≤ sOut a S j := by
  intro j
  induction j with
  | zero => intro _; exact Int.le_refl _
  | succ j ih =>
    intro h
    have := ih (fun i hi => h i (by omega))
    have := h j (by omega)
    simp only [sOut]; split <;> omega
theorem sOut_upd {a : Nat → Int} {S : Nat → Bool} {p : Nat} {v : Int} : ∀ j, sOut (upd a p v) S j = sOut a S j + (if p < j ∧ S p = false then v - a p else 0) := by
  intro j
  induction j with
  | zero => simp [sOut]
  | succ j ih =>
    simp only [sOut, ih]
    by_cases e : j = p
    · subst e
      rw [upd_same]
      cases hs : S j
      · simp; omega
      · simp
    · rw [upd_ne _ _ e]
      by_cases h : p < j
      · have h2 : p < j + 1 := by omega
        cases hs : S p
        · simp only [h, h2, true_and, if_true]; omega
        · simp
      · have h2 : ¬ p < j + 1 := by omega
        simp only [h, h2, false_and, if_false]; omega
theorem sOut_setS {a : Nat → Int} {S : Nat → Bool} {p : Nat} {v : Bool} : ∀ j, sOut a (upd S p v) j = sOut a S j + (if p < j then (if S p = true then a p else 0) - (if v = true then a p else 0) else 0) := by
  intro j
  induction j with
  | zero => simp [sOut]
  | succ j ih =>
    simp only [sOut, ih]
    by_cases e : j = p
    · subst e
      rw [upd_same]
      cases hs : S j <;> cases v <;> simp <;> omega
    · rw [upd_ne _ _ e]
      by_cases h : p < j
      · have h2 : p < j + 1 := by omega
        simp only [h, h2, if_true]; omega
      · have h2 : ¬ p < j + 1 := by omega
        simp only [h, h2, if_false]; omega
theorem sCnt_setS {S : Nat → Bool} {p : Nat} {v : Bool} : ∀ j, sCnt (upd S p v) j + (if p < j ∧ S p = true then 1 else 0) = sCnt S j + (if p < j ∧ v = true then 1 else 0) := by
  intro j
  induction j with
  | zero => simp [sCnt]
  | succ j ih =>
    simp only [sCnt]
    by_cases e : j = p
    · subst e
      rw [upd_same]
      rw [if_neg (by omega), if_neg (by omega)] at ih
      cases hs : S j <;> cases v <;> simp <;> omega
    · rw [upd_ne _ _ e]
      by_cases h : p < j
      · have e1 : (p < j + 1) = True := by simp; omega
        have e2 : (p < j) = True := by simp [h]
        simp only [e1, e2, true_and] at ih ⊢
        omega
      · have e1 : (p < j + 1) = False := by simp; omega
        have e2 : (p < j) = False := by simp [h]
        simp only [e1, e2, false_and, if_false] at ih ⊢
        omega
theorem sOut_pos {a : Nat → Int} {S : Nat → Bool} : ∀ j, (∀ i, i < j → 0 ≤ a i) → 0 < sOut a S j → ∃ q, q < j ∧ S q = false ∧ 0 < a q := by
  intro j
  induction j with
  | zero => intro _ h; simp [sOut] at h
  | succ j ih =>
    intro h hp
    simp only [sOut] at hp
    by_cases h1 : 0 < sOut a S j
    · obtain ⟨q, hq, hs, ha⟩ := ih (fun i hi => h i (by omega)) h1
      exact ⟨q, by omega, hs, ha⟩
    · refine ⟨j, by omega, ?_, ?_⟩
      · cases hs : S j
        · rfl
        · rw [hs] at hp; simp at hp; omega
      · split at hp <;> omega
theorem Dom.refl (n : Nat) (a : Nat → Int) : Dom n a a := fun S => ⟨S, Nat.le_refl _, Int.le_refl _⟩
/-- a unit is served: of a the least one that is left, of b whoever -/
theorem Dom.serve {n : Nat} {a b b' : Nat → Int} (h : Dom n a b) (ha : ∀ i, i < n → 0 ≤ a i) (hb' : ∀ i, i < n → 0 ≤ b' i) (hbb : ∀ S, sOut b S n ≤ sOut b' S n + 1)
    {p : Nat} (hp : p < n) (hpp : 0 < a p) (hmin : ∀ i, i < n → 0 < a i → a p ≤ a i) : Dom n (upd a p (a p - 1)) b' := by
  intro S
  obtain ⟨S', hc, hs⟩ := h S
  have hb := hbb S
  have hbn := sOut_nn (a := b') (S := S) n hb'
  by_cases h0 : 0 < sOut a S' n
  · cases hS : S' p with
    | false =>
      refine ⟨S', hc, ?_⟩
      rw [sOut_upd, if_pos ⟨hp, hS⟩]; omega
    | true =>
      obtain ⟨q, hq, hqs, hqa⟩ := sOut_pos n ha h0
      have hpq : p ≠ q := fun e => by rw [e, hqs] at hS; cases hS
      have hm := hmin q hq hqa
      have c1 := sCnt_setS (S := S') (p := p) (v := false) n
      have c2 := sCnt_setS (S := upd S' p false) (p := q) (v := true) n
      have s1 := sOut_setS (a := a) (S := S') (p := p) (v := false) n
      have s2 := sOut_setS (a := a) (S := upd S' p false) (p := q) (v := true) n
      have e1 : upd S' p false q = false := by simp [upd, Ne.symm hpq, hqs]
      rw [if_pos ⟨hp, hS⟩, if_neg (by simp)] at c1
      rw [if_neg (by simp [e1]), if_pos ⟨hq, rfl⟩] at c2
      rw [if_pos hp, if_pos hS, if_neg (by simp)] at s1
      rw [if_pos hq, if_neg (by simp [e1]), if_pos rfl] at s2
      refine ⟨upd (upd S' p false) q true, by omega, ?_⟩
      have e2 : upd (upd S' p false) q true p = false := by simp [upd, hpq]
      rw [sOut_upd, if_pos ⟨hp, e2⟩]
      omega
  · refine ⟨S', hc, ?_⟩
    rw [sOut_upd]
    have := sOut_nn (a := a) (S := S') n ha
    split <;> omega
/-- nothing is left of a -/
theorem Dom.done {n : Nat} {a b b' : Nat → Int} (h : Dom n a b) (ha : ∀ i, i < n → a i = 0) (hb' : ∀ i, i < n → 0 ≤ b' i) : Dom n a b' := by
  intro S
  refine ⟨S, Nat.le_refl _, ?_⟩
  have := sOut_nn (a := b') (S := S) n hb'
  have e : sOut a S n = sOut (fun _ => 0) S n := sOut_congr n ha
  have z : ∀ j, sOut (fun _ => (0 : Int)) S j = 0 := by intro j; induction j with | zero => rfl | succ j ih => simp [sOut, ih]
  rw [e, z]; exact this
theorem sOut_new {a y : Nat → Int} {N S S' : Nat → Bool} : ∀ j, (∀ i, i < j → N i = true → a i = 0) →
    sOut (fun i => if N i = true then y i else a i) (fun i => if N i = true then S i else S' i) j = sOut a S' j + sOut (fun i => if N i = true then y i else 0) S j := by
  intro j
  induction j with
  | zero => intro _; simp [sOut]
  | succ j ih =>
    intro h
    have i1 := ih (fun i hi => h i (by omega))
    simp only [sOut, i1]
    cases hN : N j
    · simp; omega
    · have := h j (by omega) hN
      simp [this]; omega
theorem sCnt_new {N S S' : Nat → Bool} : ∀ j, sCnt (fun i => if N i = true then S i else S' i) j ≤ sCnt S' j + sCnt (fun i => N i && S i) j := by
  intro j
  induction j with
  | zero => simp [sCnt]
  | succ j ih =>
    simp only [sCnt]
    by_cases hN : N j = true
    · simp [hN]; split <;> omega
    · simp [hN]; omega
theorem sCnt_part {N S : Nat → Bool} : ∀ j, sCnt (fun i => !N i && S i) j + sCnt (fun i => N i && S i) j = sCnt S j := by
  intro j
  induction j with
  | zero => simp [sCnt]
  | succ j ih =>
    simp only [sCnt]
    by_cases hN : N j = true
    · simp [hN]; split <;> omega
    · simp [hN]; split <;> omega
/-- those in N come, to both -/
theorem Dom.come {n : Nat} {a b y : Nat → Int} (N : Nat → Bool) (h : Dom n a b) (ha : ∀ i, i < n → N i = true → a i = 0) (hb : ∀ i, i < n → N i = true → b i = 0) :
    Dom n (fun i => if N i = true then y i else a i) (fun i => if N i = true then y i else b i) := by
  intro S
  obtain ⟨S', hc, hs⟩ := h (fun i => !N i && S i)
  refine ⟨fun i => if N i = true then S i else S' i, ?_, ?_⟩
  · have := sCnt_new (N := N) (S := S) (S' := S') n
    have := sCnt_part (N := N) (S := S) n
    omega
  · rw [sOut_new n ha]
    have e := sOut_new (y := y) (N := N) (S := S) (S' := fun i => !N i && S i) n hb
    have e2 : sOut (fun i => if N i = true then y i else b i) (fun i => if N i = true then S i else (!N i && S i)) n = sOut (fun i => if N i = true then y i else b i) S n := by
      have : (fun i => if N i = true then S i else (!N i && S i)) = S := by funext i; cases hN : N i <;> simp
      rw [this]
    rw [e2] at e
    rw [e]; omega
/-- how many of the first j have something left -/
def posTo (a : Nat → Int) : Nat → Nat
  | 0 => 0
  | j + 1 => posTo a j + (if 0 < a j then 1 else 0)
theorem Dom.many {n : Nat} {a b : Nat → Int} (h : Dom n a b) (ha : ∀ i, i < n → 0 ≤ a i) (hb : ∀ i, i < n → 0 ≤ b i) : posTo a n ≤ posTo b n := by
  obtain ⟨S', hc, hs⟩ := h (fun i => decide (0 < b i))
  have e1 : ∀ j, sCnt (fun i => decide (0 < b i)) j = posTo b j := by
    intro j; induction j with | zero => rfl | succ j ih => simp [sCnt, posTo, ih]
  have e2 : ∀ j, j ≤ n → sOut b (fun i => decide (0 < b i)) j = 0 := by
    intro j
    induction j with
    | zero => intro _; rfl
    | succ j ih =>
      intro hj
      have := hb j (by omega)
      simp only [sOut, ih (by omega), decide_eq_true_eq]
      split <;> omega
  rw [e2 n (Nat.le_refl _)] at hs
  rw [e1] at hc
  have e3 : ∀ j, j ≤ n → sOut a S' j ≤ 0 → posTo a j ≤ sCnt S' j := by
    intro j
    induction j with
    | zero => intro _ _; exact Nat.le_refl _
    | succ j ih =>
      intro hj hz
      have h1 := sOut_nn (a := a) (S := S') j (fun i hi => ha i (by omega))
      have h2 := ha j (by omega)
      simp only [sOut] at hz
      have i := ih (by omega) (by split at hz <;> omega)
      simp only [posTo, sCnt]
      cases hS : S' j
      · rw [hS] at hz
        simp at hz ⊢
        rw [if_neg (by omega)]; omega
      · simp; split <;> omega
  have := e3 n (Nat.le_refl _) hs
  omega

end Go.Proofs.Ytecoefjkobpbgaa

