/- journals: texts of deeds, a newline behind each (ahead of the landing) -/
import Derived.Test.YtpbmehodcllncaaM32
namespace Go.Proofs.Ytpbmehodcllncaa
set_option linter.unusedVariables false
open Go.RowKit

theorem deedL_no10 (d : DV) : (10 : UInt8) ∉ deedL d := by
  have n1 := fun n => numL_no10 n
  rcases deed_ways d with e | ⟨-, -, -, e⟩ | ⟨-, -, -, e⟩ | ⟨-, -, -, e⟩ | ⟨-, e⟩ | ⟨-, e⟩ <;> rw [e]
  · simp
  · simp [wCome, n1]
  · simp [wNeed, n1]
  · simp [wLater, n1]
  · decide
  · decide
/-- the text of a journal; none if one of the deeds has no text -/
def jTo (L : List DV) : List UInt8 := L.flatMap fun d => deedL d ++ [10]
def jOk (L : List DV) : Bool := L.all fun d => !(deedL d).isEmpty
def journalL (L : List DV) : List UInt8 := if jOk L = true then jTo L else []
theorem jTo_snoc (L : List DV) (d : DV) : jTo (L ++ [d]) = jTo L ++ deedL d ++ [10] := by simp [jTo]
theorem jOk_snoc (L : List DV) (d : DV) : jOk (L ++ [d]) = (jOk L && !(deedL d).isEmpty) := by simp [jOk]
theorem jOk_take {L : List DV} (h : jOk L = true) (k : Nat) : jOk (L.take k) = true := by
  rw [jOk, List.all_eq_true] at h ⊢
  exact fun d hd => h d (List.mem_of_mem_take hd)

/-- what has been read of a journal: has it come to an end ahead of the text's, the deeds, how many bytes they have, what stands behind them -/
structure JS where
  st : Bool
  ds : List DV
  n : Nat
  cur : List UInt8
def jStep (s : JS) (c : UInt8) : JS :=
  if s.st = true then s
  else if c = 10 then match readD s.cur with
    | some d => ⟨false, s.ds ++ [d], s.n + s.cur.length + 1, []⟩
    | none => ⟨true, s.ds, s.n, s.cur⟩
  else ⟨false, s.ds, s.n, s.cur ++ [c]⟩
def jS (l : List UInt8) : JS := l.foldl jStep ⟨false, [], 0, []⟩
theorem jS_snoc (l : List UInt8) (c : UInt8) : jS (l ++ [c]) = jStep (jS l) c := by simp [jS]
theorem jS_append (l m : List UInt8) : jS (l ++ m) = m.foldl jStep (jS l) := by simp [jS]
theorem jStep_st {s : JS} (h : s.st = true) : ∀ m : List UInt8, m.foldl jStep s = s := by
  intro m
  induction m with
  | nil => rfl
  | cons c m ih => simp only [List.foldl]; rw [show jStep s c = s by simp [jStep, h]]; exact ih
theorem jStep_word {s : JS} (h : s.st = false) : ∀ m : List UInt8, (10 : UInt8) ∉ m → m.foldl jStep s = ⟨false, s.ds, s.n, s.cur ++ m⟩ := by
  intro m
  induction m generalizing s with
  | nil => intro _; obtain ⟨a, b, c, d⟩ := s; simp at h; subst h; simp
  | cons c m ih =>
    intro hm
    simp only [List.mem_cons, not_or] at hm
    simp only [List.foldl]
    have e : jStep s c = ⟨false, s.ds, s.n, s.cur ++ [c]⟩ := by
      have hc : ¬ c = 10 := fun e => hm.1 e.symm
      simp [jStep, h, hc]
    rw [e, ih rfl hm.2]; simp
/-- a journal's text is read as the journal -/
theorem jS_journal : ∀ (m : Nat) (L : List DV), L.length = m → jOk L = true → jS (jTo L) = ⟨false, L, (jTo L).length, []⟩ := by
  intro m
  induction m with
  | zero => intro L hl _; rw [List.length_eq_zero_iff.1 hl]; rfl
  | succ m ih =>
    intro L hl hok
    have hne : L ≠ [] := by intro e; subst e; simp at hl
    obtain ⟨K, d, rfl⟩ : ∃ K d, L = K ++ [d] := ⟨L.dropLast, L.getLast hne, (List.dropLast_concat_getLast hne).symm⟩
    rw [jOk_snoc, Bool.and_eq_true] at hok
    have hd : deedL d ≠ [] := by have := hok.2; simpa using this
    have hK := ih K (by simpa using hl) hok.1
    rw [jTo_snoc, jS_snoc, jS_append, hK, jStep_word rfl _ (deedL_no10 d)]
    simp only [jStep, List.nil_append, deed_read d hd]
    simp; omega
/-- what was read is the beginning of the text -/
theorem jS_inv (l : List UInt8) : jOk (jS l).ds = true ∧ (jTo (jS l).ds).length = (jS l).n ∧ (jS l).n ≤ l.length ∧ jTo (jS l).ds = l.take (jS l).n ∧ ((jS l).st = false → jTo (jS l).ds ++ (jS l).cur = l ∧ (10 : UInt8) ∉ (jS l).cur) := by
  have key : ∀ (m : Nat) (l : List UInt8), l.length = m → jOk (jS l).ds = true ∧ (jTo (jS l).ds).length = (jS l).n ∧ (jS l).n ≤ l.length ∧ jTo (jS l).ds = l.take (jS l).n ∧ ((jS l).st = false → jTo (jS l).ds ++ (jS l).cur = l ∧ (10 : UInt8) ∉ (jS l).cur) := by
    intro m
    induction m with
    | zero => intro l hl; rw [List.length_eq_zero_iff.1 hl]; simp [jS, jOk, jTo]
    | succ m ih =>
      intro l hl
      have hne : l ≠ [] := by intro e; subst e; simp at hl
      obtain ⟨K, c, rfl⟩ : ∃ K c, l = K ++ [c] := ⟨l.dropLast, l.getLast hne, (List.dropLast_concat_getLast hne).symm⟩
      obtain ⟨i1, i2, i3, i4, i5⟩ := ih K (by simpa using hl)
      rw [jS_snoc]
      generalize jS K = s at *
      have old : s.n ≤ (K ++ [c]).length ∧ jTo s.ds = (K ++ [c]).take s.n := by
        refine ⟨by simp; omega, ?_⟩
        rw [List.take_append_of_le_length i3]; exact i4
      unfold jStep
      cases hst : s.st with
      | true =>
        simp only [if_true]
        exact ⟨i1, i2, old.1, old.2, fun h => by rw [hst] at h; cases h⟩
      | false =>
        obtain ⟨j1, j2⟩ := i5 hst
        simp only [Bool.false_eq_true, if_false]
        by_cases hc : c = 10
        · subst hc
          simp only [if_true]
          cases hr : readD s.cur with
          | none => exact ⟨i1, i2, old.1, old.2, fun h => by cases h⟩
          | some d =>
            have ht := read_text hr
            have hl2 : (jTo s.ds ++ s.cur).length = K.length := by rw [j1]
            rw [List.length_append, i2] at hl2
            have hde2 : (!s.cur.isEmpty) = true := by simpa using ht.2
            simp only [jOk_snoc, i1, Bool.true_and, jTo_snoc, ht.1, j1]
            refine ⟨hde2, by simp; omega, by simp; omega, ?_, fun _ => by simp⟩
            rw [List.take_of_length_le (by simp; omega)]
        · simp only [hc, if_false]
          refine ⟨i1, i2, old.1, old.2, fun _ => ⟨by rw [← List.append_assoc, j1], ?_⟩⟩
          simp only [List.mem_append, List.mem_singleton, not_or]
          exact ⟨j2, fun e => hc e.symm⟩
  exact key _ l rfl
theorem foldl_pre : ∀ (m : List UInt8) (s : JS), s.ds <+: (m.foldl jStep s).ds ∧ s.n ≤ (m.foldl jStep s).n := by
  intro m
  induction m with
  | nil => intro s; exact ⟨List.prefix_refl _, Nat.le_refl _⟩
  | cons c m ih =>
    intro s
    simp only [List.foldl]
    have h1 : s.ds <+: (jStep s c).ds ∧ s.n ≤ (jStep s c).n := by
      unfold jStep
      split
      · exact ⟨List.prefix_refl _, Nat.le_refl _⟩
      · split
        · split
          · exact ⟨List.prefix_append _ _, by simp only; omega⟩
          · exact ⟨List.prefix_refl _, Nat.le_refl _⟩
        · exact ⟨List.prefix_refl _, Nat.le_refl _⟩
    have := ih (jStep s c)
    exact ⟨h1.1.trans this.1, by omega⟩
/-- of a beginning of the text the first ones of the deeds are read -/
theorem jS_cut (l : List UInt8) (k : Nat) : (jS (l.take k)).ds <+: (jS l).ds ∧ (jS (l.take k)).n ≤ k := by
  refine ⟨?_, ?_⟩
  · have := (foldl_pre (l.drop k) (jS (l.take k))).1
    rwa [← jS_append, List.take_append_drop] at this
  · have := (jS_inv (l.take k)).2.2.1
    rw [List.length_take] at this; omega

end Go.Proofs.Ytpbmehodcllncaa

