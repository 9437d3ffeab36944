/- Plain mathematics of chapter 9 (ahead): longest ways through two counters, backwards, and the rule on pairs. -/
import Derived.Test.YtofjfhifldafcaaM20
namespace Go.Proofs.Ytofjfhifldafcaa
set_option linter.unusedVariables false
open Go.RowKit

def sF : List (Int × Int) → Int
  | [] => 0
  | c :: t => c.1 + sF t
def sS : List (Int × Int) → Int
  | [] => 0
  | c :: t => c.2 + sS t
/-- the longest way through both counters -/
def lw : List (Int × Int) → Int
  | [] => 0
  | c :: t => c.1 + max (c.2 + sS t) (lw t)
/-- needs of 1 .. 9 units at each -/
def okB (L : List (Int × Int)) : Prop := ∀ c, c ∈ L → (1 ≤ c.1 ∧ c.1 ≤ 9) ∧ 1 ≤ c.2 ∧ c.2 ≤ 9
theorem okB.tail {c : Int × Int} {t : List (Int × Int)} (h : okB (c :: t)) : okB t := fun d hd => h d (by simp [hd])
theorem okB.head {c : Int × Int} {t : List (Int × Int)} (h : okB (c :: t)) : (1 ≤ c.1 ∧ c.1 ≤ 9) ∧ 1 ≤ c.2 ∧ c.2 ≤ 9 := h c (by simp)
theorem okB.perm {L M : List (Int × Int)} (h : okB L) (hp : L.Perm M) : okB M := fun c hc => h c (hp.mem_iff.2 hc)
theorem sF_append (u v : List (Int × Int)) : sF (u ++ v) = sF u + sF v := by
  induction u with
  | nil => simp [sF]
  | cons c t ih => simp only [List.cons_append, sF, ih]; omega
theorem sS_append (u v : List (Int × Int)) : sS (u ++ v) = sS u + sS v := by
  induction u with
  | nil => simp [sS]
  | cons c t ih => simp only [List.cons_append, sS, ih]; omega
theorem sF_perm {u v : List (Int × Int)} (h : u.Perm v) : sF u = sF v := by
  induction h with
  | nil => rfl
  | cons x _ ih => simp only [sF, ih]
  | swap x y l => simp only [sF]; omega
  | trans _ _ a b => exact a.trans b
theorem sS_perm {u v : List (Int × Int)} (h : u.Perm v) : sS u = sS v := by
  induction h with
  | nil => rfl
  | cons x _ ih => simp only [sS, ih]
  | swap x y l => simp only [sS]; omega
  | trans _ _ a b => exact a.trans b
theorem sF_nn {L : List (Int × Int)} (h : okB L) : (L.length : Int) ≤ sF L ∧ sF L ≤ 9 * L.length := by
  induction L with
  | nil => simp [sF]
  | cons c t ih => have := ih h.tail; have := h.head; simp only [sF, List.length_cons]; omega
theorem sS_nn {L : List (Int × Int)} (h : okB L) : (L.length : Int) ≤ sS L ∧ sS L ≤ 9 * L.length := by
  induction L with
  | nil => simp [sS]
  | cons c t ih => have := ih h.tail; have := h.head; simp only [sS, List.length_cons]; omega
theorem lw_nn {L : List (Int × Int)} (h : okB L) : 0 ≤ lw L := by
  induction L with
  | nil => simp [lw]
  | cons c t ih => have := ih h.tail; have := h.head; simp only [lw]; omega
theorem lw_low {L : List (Int × Int)} (h : okB L) (hp : L ≠ []) : sF L + 1 ≤ lw L ∧ sS L + 1 ≤ lw L ∧ lw L ≤ sF L + sS L := by
  induction L with
  | nil => exact absurd rfl hp
  | cons c t ih =>
    have hd := h.head
    have hs := sS_nn h.tail
    simp only [lw, sF, sS]
    by_cases e : t = []
    · subst e; simp only [lw, sF, sS]; omega
    · have := ih h.tail e
      omega
/-- one more behind -/
theorem lw_snoc {L : List (Int × Int)} (h : okB L) (c : Int × Int) (hc : 0 ≤ c.1 ∧ 0 ≤ c.2) : lw (L ++ [c]) = max (sF L + c.1) (lw L) + c.2 := by
  induction L with
  | nil => simp only [List.nil_append, lw, sF, sS]; omega
  | cons d t ih =>
    have hd := h.head
    have hs := sS_nn h.tail
    have hl := lw_nn h.tail
    simp only [List.cons_append, lw, sF, ih h.tail, sS_append, sS]; omega
/-- from the last one to the first one, with both needs exchanged -/
def backB (L : List (Int × Int)) : List (Int × Int) := (L.map fun c => (c.2, c.1)).reverse
theorem backB_len (L : List (Int × Int)) : (backB L).length = L.length := by simp [backB]
theorem backB_ok {L : List (Int × Int)} (h : okB L) : okB (backB L) := by
  intro c hc
  simp only [backB, List.mem_reverse, List.mem_map] at hc
  obtain ⟨d, hd, rfl⟩ := hc
  have := h d hd
  exact ⟨this.2, this.1⟩
theorem backB_back (L : List (Int × Int)) : backB (backB L) = L := by
  simp only [backB, List.map_reverse, List.reverse_reverse, List.map_map]
  exact List.map_id' L
theorem backB_cons (c : Int × Int) (t : List (Int × Int)) : backB (c :: t) = backB t ++ [(c.2, c.1)] := by simp [backB]
theorem backB_sums (L : List (Int × Int)) : sF (backB L) = sS L ∧ sS (backB L) = sF L := by
  induction L with
  | nil => simp [backB, sF, sS]
  | cons c t ih => rw [backB_cons, sF_append, sS_append, ih.1, ih.2]; simp only [sF, sS]; omega
/-- BACKWARDS IT TAKES AS LONG -/
theorem lw_back {L : List (Int × Int)} (h : okB L) : lw (backB L) = lw L := by
  induction L with
  | nil => rfl
  | cons c t ih =>
    have hd := h.head
    rw [backB_cons, lw_snoc (backB_ok h.tail) _ (by constructor <;> simp <;> omega), ih h.tail, (backB_sums t).1]
    simp only [lw]; omega

/-- the key of the rule on pairs -/
def keyB (c : Int × Int) : Int := if c.1 ≤ c.2 then c.1 else 20 - c.2
theorem lw_pre {L M : List (Int × Int)} (h : lw L ≤ lw M) (hs : sS L = sS M) : ∀ u, lw (u ++ L) ≤ lw (u ++ M) := by
  intro u
  induction u with
  | nil => exact h
  | cons c t ih => simp only [List.cons_append, lw, sS_append, hs]; omega
theorem lw_swap (x y : Int × Int) (v : List (Int × Int)) (hx : (1 ≤ x.1 ∧ x.1 ≤ 9) ∧ 1 ≤ x.2 ∧ x.2 ≤ 9) (hy : (1 ≤ y.1 ∧ y.1 ≤ 9) ∧ 1 ≤ y.2 ∧ y.2 ≤ 9) (hk : keyB x ≤ keyB y) :
    lw (x :: y :: v) ≤ lw (y :: x :: v) := by
  simp only [lw, sS]
  unfold keyB at hk
  split at hk <;> split at hk <;> omega
theorem lw_front {x : Int × Int} : ∀ (u v : List (Int × Int)), okB (u ++ x :: v) → (∀ c, c ∈ u → keyB x ≤ keyB c) → lw (x :: (u ++ v)) ≤ lw (u ++ x :: v) := by
  intro u
  induction u with
  | nil => intro v _ _; exact Int.le_refl _
  | cons c t ih =>
    intro v h hk
    have hx := h x (by simp)
    have hc := h.head
    have h1 := lw_swap x c (t ++ v) hx hc (hk c (by simp))
    have h2 := ih v h.tail (fun d hd => hk d (by simp [hd]))
    have h3 := lw_pre h2 (sS_perm List.perm_middle.symm) [c]
    simp only [List.cons_append, List.nil_append] at h3 ⊢
    exact Int.le_trans h1 h3
/-- A RULE ON PAIRS TAKES LEAST -/
theorem lw_least : ∀ {s l : List (Int × Int)}, okB l → s.Perm l → s.Pairwise (fun a b => keyB a ≤ keyB b) → lw s ≤ lw l := by
  intro s
  induction s with
  | nil => intro l _ hp _; rw [List.nil_perm.1 hp]; exact Int.le_refl _
  | cons x s ih =>
    intro l h hp hs
    have hx : x ∈ l := hp.mem_iff.1 (by simp)
    obtain ⟨u, v, rfl⟩ := List.append_of_mem hx
    have hp2 : s.Perm (u ++ v) := (hp.trans List.perm_middle).cons_inv
    have hs' := List.pairwise_cons.1 hs
    have h2 : okB (u ++ v) := fun c hc => h c (by rcases List.mem_append.1 hc with h' | h' <;> simp [h'])
    have a := ih h2 hp2 hs'.2
    have b := lw_front u v h (fun c hc => hs'.1 c (hp2.mem_iff.2 (by simp [hc])))
    have d := lw_pre a (sS_perm hp2) [x]
    exact Int.le_trans d b

end Go.Proofs.Ytofjfhifldafcaa

