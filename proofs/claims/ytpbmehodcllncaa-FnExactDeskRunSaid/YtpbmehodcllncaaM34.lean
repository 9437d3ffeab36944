/- desks: what deeds make of customers, and of desks (ahead of the landing) -/
import Derived.Test.YtpbmehodcllncaaM33
namespace Go.Proofs.Ytpbmehodcllncaa
set_option linter.unusedVariables false
open Go.RowKit

/-- a desk: customers, and those of before -/
structure KV where
  now : List (Int × Int)
  past : List (List (Int × Int))
def noK : KV := ⟨[], []⟩
def deskOk (D : KV) : Bool := D.past.all cOk && (cOk D.now && decide (D.past.length ≤ 8))
theorem deskOk_parts {D : KV} (h : deskOk D = true) : (∀ L ∈ D.past, cOk L = true) ∧ cOk D.now = true ∧ D.past.length ≤ 8 := by
  simp only [deskOk, Bool.and_eq_true, decide_eq_true_eq, List.all_eq_true] at h
  exact ⟨h.1, h.2.1, h.2.2⟩
theorem deskOk_of {D : KV} (h1 : ∀ L ∈ D.past, cOk L = true) (h2 : cOk D.now = true) (h3 : D.past.length ≤ 8) : deskOk D = true := by
  simp only [deskOk, Bool.and_eq_true, decide_eq_true_eq, List.all_eq_true]
  exact ⟨h1, h2, h3⟩
theorem deskOk_now {D : KV} (h : deskOk D = true) : deskOk ⟨D.now, []⟩ = true := deskOk_of (by simp) (deskOk_parts h).2.1 (by simp)

/-- what a deed makes of customers, and whether it can be done -/
def madeV (L : List (Int × Int)) (d : DV) : List (Int × Int) × Bool :=
  if d.k = 0 then (L ++ [(d.a, d.b)], cOk (L ++ [(d.a, d.b)]))
  else if d = ⟨1, 0, 0⟩ ∧ 0 < L.length then (L.take (L.length - 1), true)
  else if d.k = 2 ∧ d.b = 0 then (moreR L d.a, moreOk L d.a)
  else if d.k = 3 ∧ d.b = 0 ∧ 0 < d.a ∧ 0 < L.length then (laterR L d.a, laterOk L d.a)
  else (L, false)
theorem made_ok {L : List (Int × Int)} {d : DV} (h : cOk L = true) (hm : (madeV L d).2 = true) : cOk (madeV L d).1 = true := by
  unfold madeV at hm ⊢
  split at hm <;> rename_i h0
  · rw [if_pos h0]; exact hm
  · rw [if_neg h0]
    split at hm <;> rename_i h1
    · rw [if_pos h1]; exact cOk_take h (by omega)
    · rw [if_neg h1]
      split at hm <;> rename_i h2
      · rw [if_pos h2]
        simp only at hm ⊢
        rw [moreR_yes hm]
        simp only [moreOk, Bool.and_eq_true] at hm
        exact hm.2
      · rw [if_neg h2]
        split at hm <;> rename_i h3
        · rw [if_pos h3]
          simp only at hm ⊢
          rw [laterR_yes hm]
          exact (laterOk_parts hm).2.2
        · cases hm
theorem X_appK {L : List (Int × Int)} (c : Int × Int) {k : Nat} (h : k < L.length) : X (L ++ [c]) k = X L k ∧ Y (L ++ [c]) k = Y L k := by
  simp [X, Y, List.getElem?_append_left h, h]
theorem XY_last (L : List (Int × Int)) (c : Int × Int) : X (L ++ [c]) L.length = c.1 ∧ Y (L ++ [c]) L.length = c.2 := by simp [X, Y]
theorem sumTo_app {L : List (Int × Int)} (c : Int × Int) : ∀ k, k ≤ L.length → sumTo (L ++ [c]) k = sumTo L k := by
  intro k
  induction k with
  | zero => intro _; rfl
  | succ k ih => intro hk; simp only [sumTo, ih (by omega), (X_appK c (show k < L.length by omega)).2]
theorem sumTo_later {L : List (Int × Int)} {t : Int} : ∀ k, k ≤ L.length → sumTo (laterL L t) k = sumTo L k := by
  intro k
  induction k with
  | zero => intro _; rfl
  | succ k ih => intro hk; simp only [sumTo, ih (by omega), laterL_Y (show k < L.length by omega)]
/-- behind come and need all need more, and behind later as much -/
theorem made_need {L : List (Int × Int)} {d : DV} (h : cOk L = true) (hm : (madeV L d).2 = true) : (d.k = 0 ∨ d.k = 2 → needOf L < needOf (madeV L d).1) ∧ (d.k = 3 → needOf (madeV L d).1 = needOf L) := by
  have hok := made_ok h hm
  have e1 : needOf (madeV L d).1 = sumTo (madeV L d).1 (madeV L d).1.length := if_pos hok
  have e2 : needOf L = sumTo L L.length := if_pos h
  rw [e1, e2]
  unfold madeV at hm hok ⊢
  by_cases h0 : d.k = 0
  · rw [if_pos h0] at hm hok ⊢
    refine ⟨fun _ => ?_, fun h3 => by omega⟩
    have hb := cOk_bd hok (k := L.length) (by simp)
    rw [(XY_last L _).2] at hb
    rw [List.length_append, List.length_singleton]
    simp only [sumTo, sumTo_app _ _ (Nat.le_refl _), (XY_last L _).2]
    omega
  · rw [if_neg h0] at hm hok ⊢
    by_cases h1 : d = ⟨1, 0, 0⟩ ∧ 0 < L.length
    · rw [if_pos h1]
      have : d.k = 1 := by rw [h1.1]
      exact ⟨fun h => by omega, fun h => by omega⟩
    · rw [if_neg h1] at hm hok ⊢
      by_cases h2 : d.k = 2 ∧ d.b = 0
      · rw [if_pos h2] at hm hok ⊢
        refine ⟨fun _ => ?_, fun h3 => by omega⟩
        simp only at hm ⊢
        have hp := hm
        simp only [moreOk, Bool.and_eq_true] at hp
        simp only [placeOk, Bool.and_eq_true, decide_eq_true_eq] at hp
        rw [moreR_yes hm, moreL_len, sumTo_more (by omega) _ (Nat.le_refl _), if_pos (by omega)]
        omega
      · rw [if_neg h2] at hm hok ⊢
        by_cases h3 : d.k = 3 ∧ d.b = 0 ∧ 0 < d.a ∧ 0 < L.length
        · rw [if_pos h3] at hm ⊢
          refine ⟨fun h => by omega, fun _ => ?_⟩
          simp only at hm ⊢
          rw [laterR_yes hm, laterL_len, sumTo_later _ (Nat.le_refl _)]
        · rw [if_neg h3] at hm; cases hm

/-- the lists of before, and one behind them: at most eight -/
def pushP (P : List (List (Int × Int))) (L : List (Int × Int)) : List (List (Int × Int)) := if 8 < P.length + 1 then (P ++ [L]).drop 1 else P ++ [L]
theorem pushP_len {P : List (List (Int × Int))} (L : List (Int × Int)) (h : P.length ≤ 8) : (pushP P L).length ≤ 8 := by
  unfold pushP; split <;> simp <;> omega
theorem pushP_mem {P : List (List (Int × Int))} {L M : List (Int × Int)} (h : M ∈ pushP P L) : M ∈ P ∨ M = L := by
  unfold pushP at h
  split at h
  · have := List.mem_of_mem_drop h
    simpa using this
  · simpa using h
def deskDo (D : KV) (d : DV) : KV × Bool :=
  if deskOk D = true then
    if d = ⟨4, 0, 0⟩ ∧ 0 < D.past.length then (⟨D.past.getD (D.past.length - 1) [], D.past.take (D.past.length - 1)⟩, true)
    else if (madeV D.now d).2 = true then (⟨(madeV D.now d).1, pushP D.past D.now⟩, true)
    else (D, false)
  else (noK, false)
theorem deskDo_ok {D : KV} {d : DV} (h : deskOk D = true) : deskOk (deskDo D d).1 = true := by
  obtain ⟨h1, h2, h3⟩ := deskOk_parts h
  unfold deskDo
  rw [if_pos h]
  split <;> rename_i hb
  · refine deskOk_of (fun L hL => h1 L (List.mem_of_mem_take hL)) ?_ (by simp; omega)
    simp only [List.getD_eq_getElem?_getD, List.getElem?_eq_getElem (show D.past.length - 1 < D.past.length by omega), Option.getD_some]
    exact h1 _ (List.getElem_mem _)
  · split <;> rename_i hm
    · refine deskOk_of (fun L hL => ?_) (made_ok h2 hm) (pushP_len _ h3)
      rcases pushP_mem hL with hL | rfl
      · exact h1 L hL
      · exact h2
    · exact h
theorem deskDo_not {D : KV} {d : DV} (h : deskOk D = true) (hn : (deskDo D d).2 = false) : (deskDo D d).1 = D := by
  unfold deskDo at hn ⊢
  rw [if_pos h] at hn ⊢
  split at hn <;> rename_i h1
  · cases hn
  · rw [if_neg h1]
    split at hn <;> rename_i h2
    · cases hn
    · rw [if_neg h2]
/-- what was done can be undone -/
theorem desk_undo {D : KV} {d : DV} (h : deskOk D = true) (hd : (deskDo D d).2 = true) (hk : d.k ≠ 4) (hp : D.past.length < 8) : deskDo (deskDo D d).1 ⟨4, 0, 0⟩ = (D, true) := by
  have hok := deskDo_ok (d := d) h
  unfold deskDo at hd hok
  rw [if_pos h] at hd hok
  have hb : ¬ (d = ⟨4, 0, 0⟩ ∧ 0 < D.past.length) := by rintro ⟨rfl, _⟩; exact hk rfl
  rw [if_neg hb] at hd hok
  split at hd <;> rename_i hm
  · rw [if_pos hm] at hok
    have e : deskDo D d = (⟨(madeV D.now d).1, pushP D.past D.now⟩, true) := by rw [deskDo, if_pos h, if_neg hb, if_pos hm]
    have ep : pushP D.past D.now = D.past ++ [D.now] := by rw [pushP, if_neg (by omega)]
    rw [e]
    rw [ep] at hok ⊢
    rw [deskDo, if_pos hok, if_pos ⟨rfl, by simp⟩]
    simp
  · cases hd
theorem desk_need {D : KV} {d : DV} (h : deskOk D = true) (hd : (deskDo D d).2 = true) : (d.k = 0 ∨ d.k = 2 → needOf D.now < needOf (deskDo D d).1.now) ∧ (d.k = 3 → needOf (deskDo D d).1.now = needOf D.now) := by
  unfold deskDo at hd ⊢
  rw [if_pos h] at hd ⊢
  split at hd <;> rename_i hb
  · have : d.k = 4 := by rw [hb.1]
    exact ⟨fun h => by omega, fun h => by omega⟩
  · rw [if_neg hb]
    split at hd <;> rename_i hm
    · rw [if_pos hm]
      exact made_need (deskOk_parts h).2.1 hm
    · cases hd

/-- deeds one after the other, and how many were done -/
def runTo (D : KV) (ds : List DV) : KV × Int := ds.foldl (fun s d => if (deskDo s.1 d).2 = true then ((deskDo s.1 d).1, s.2 + 1) else s) (D, 0)
theorem runTo_snoc (D : KV) (ds : List DV) (d : DV) : runTo D (ds ++ [d]) = if (deskDo (runTo D ds).1 d).2 = true then ((deskDo (runTo D ds).1 d).1, (runTo D ds).2 + 1) else runTo D ds := by
  rw [runTo, List.foldl_append]; rfl
theorem run_from (n : Int) (ds : List DV) : ∀ (D : KV) (m : Int), ds.foldl (fun s d => if (deskDo s.1 d).2 = true then ((deskDo s.1 d).1, s.2 + 1) else s) (D, m + n) =
    (((ds.foldl (fun s d => if (deskDo s.1 d).2 = true then ((deskDo s.1 d).1, s.2 + 1) else s) (D, m)).1, (ds.foldl (fun s d => if (deskDo s.1 d).2 = true then ((deskDo s.1 d).1, s.2 + 1) else s) (D, m)).2 + n) : KV × Int) := by
  induction ds with
  | nil => intro D m; rfl
  | cons d ds ih =>
    intro D m
    simp only [List.foldl]
    split
    · have := ih (deskDo D d).1 (m + 1)
      rw [show m + n + 1 = m + 1 + n by omega]; exact this
    · exact ih D m
theorem runTo_append (D : KV) (p q : List DV) : runTo D (p ++ q) = ((runTo (runTo D p).1 q).1, (runTo D p).2 + (runTo (runTo D p).1 q).2) := by
  have h := run_from (runTo D p).2 q (runTo D p).1 0
  rw [Int.zero_add] at h
  have e : runTo D (p ++ q) = q.foldl (fun s d => if (deskDo s.1 d).2 = true then ((deskDo s.1 d).1, s.2 + 1) else s) ((runTo D p).1, (runTo D p).2) := by
    simp only [runTo, List.foldl_append]
  rw [e, h]
  show (_, _ + _) = _
  rw [Int.add_comm]; rfl
theorem runTo_ok {D : KV} (h : deskOk D = true) (ds : List DV) : deskOk (runTo D ds).1 = true := by
  have key : ∀ (ds : List DV) (s : KV × Int), deskOk s.1 = true → deskOk (ds.foldl (fun s d => if (deskDo s.1 d).2 = true then ((deskDo s.1 d).1, s.2 + 1) else s) s).1 = true := by
    intro ds
    induction ds with
    | nil => intro s hs; exact hs
    | cons d ds ih =>
      intro s hs
      simp only [List.foldl]
      split
      · exact ih _ (deskDo_ok hs)
      · exact ih _ hs
  exact key ds (D, 0) h
theorem runTo_bd (D : KV) (ds : List DV) : 0 ≤ (runTo D ds).2 ∧ (runTo D ds).2 ≤ ds.length := by
  have key : ∀ (ds : List DV) (s : KV × Int), s.2 ≤ (ds.foldl (fun s d => if (deskDo s.1 d).2 = true then ((deskDo s.1 d).1, s.2 + 1) else s) s).2 ∧ (ds.foldl (fun s d => if (deskDo s.1 d).2 = true then ((deskDo s.1 d).1, s.2 + 1) else s) s).2 ≤ s.2 + ds.length := by
    intro ds
    induction ds with
    | nil => intro s; exact ⟨Int.le_refl _, by simp⟩
    | cons d ds ih =>
      intro s
      simp only [List.foldl, List.length_cons]
      split
      · have := ih ((deskDo s.1 d).1, s.2 + 1); simp only at this; omega
      · have := ih s; omega
  have := key ds (D, 0)
  unfold runTo; simp only at this; omega
def runOk (D : KV) (ds : List DV) : Bool := deskOk D && decide (ds.length ≤ 40)
def deskRun (D : KV) (ds : List DV) : KV × Int := if runOk D ds = true then runTo D ds else (noK, 0)
/-- in two parts, one after the other, it is the same -/
theorem deskRun_parts {D : KV} {ds : List DV} (h : runOk D ds = true) (k : Nat) : (deskRun (deskRun D (ds.take k)).1 (ds.drop k)).1 = (deskRun D ds).1 ∧ (deskRun D (ds.take k)).2 + (deskRun (deskRun D (ds.take k)).1 (ds.drop k)).2 = (deskRun D ds).2 := by
  have hp : deskOk D = true ∧ ds.length ≤ 40 := by simpa [runOk] using h
  have h1 : runOk D (ds.take k) = true := by simp only [runOk, hp.1, Bool.true_and, decide_eq_true_eq, List.length_take]; omega
  have e1 : deskRun D (ds.take k) = runTo D (ds.take k) := if_pos h1
  have h2 : runOk (runTo D (ds.take k)).1 (ds.drop k) = true := by simp only [runOk, runTo_ok hp.1, Bool.true_and, decide_eq_true_eq, List.length_drop]; omega
  have e2 : deskRun (runTo D (ds.take k)).1 (ds.drop k) = runTo (runTo D (ds.take k)).1 (ds.drop k) := if_pos h2
  have e3 : deskRun D ds = runTo D ds := if_pos h
  have e4 := runTo_append D (ds.take k) (ds.drop k)
  rw [List.take_append_drop] at e4
  rw [e1, e2, e3, e4]
  exact ⟨rfl, rfl⟩

end Go.Proofs.Ytpbmehodcllncaa

