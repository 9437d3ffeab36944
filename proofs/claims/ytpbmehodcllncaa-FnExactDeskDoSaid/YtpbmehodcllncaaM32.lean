/- texts: numbers in decimal, what stands between bytes, texts of deeds (ahead of the landing) -/
import Derived.Test.YtpbmehodcllncaaM
namespace Go.Proofs.Ytpbmehodcllncaa
set_option linter.unusedVariables false
open Go.RowKit

def dig8 (n : Nat) : UInt8 := UInt8.ofNat (48 + n % 10)
def numL (n : Nat) : List UInt8 := if n < 10 then [dig8 n] else numL (n / 10) ++ [dig8 n]
termination_by n
theorem numL_one {n : Nat} (h : n < 10) : numL n = [dig8 n] := by rw [numL, if_pos h]
theorem numL_more {n : Nat} (h : ¬ n < 10) : numL n = numL (n / 10) ++ [dig8 n] := by rw [numL, if_neg h]
theorem dig8_nat (n : Nat) : (dig8 n).toNat = 48 + n % 10 := by
  have : n % 10 < 10 := Nat.mod_lt _ (by omega)
  simp [dig8, UInt8.toNat_ofNat']; omega
def isD (c : UInt8) : Bool := decide (48 ≤ c.toNat ∧ c.toNat ≤ 57)
def valN (l : List UInt8) : Nat := l.foldl (fun n c => 10 * n + (c.toNat - 48)) 0
theorem valN_snoc (l : List UInt8) (c : UInt8) : valN (l ++ [c]) = 10 * valN l + (c.toNat - 48) := by simp [valN]
theorem dig8_isD (n : Nat) : isD (dig8 n) = true := by
  have : n % 10 < 10 := Nat.mod_lt _ (by omega)
  simp only [isD, dig8_nat, decide_eq_true_eq]; omega
theorem numL_all (n : Nat) : (numL n).all isD = true := by
  induction n using Nat.strongRecOn with
  | _ n ih =>
    by_cases h : n < 10
    · rw [numL_one h]; simp [dig8_isD]
    · rw [numL_more h, List.all_append, ih (n / 10) (by omega)]; simp [dig8_isD]
theorem numL_val (n : Nat) : valN (numL n) = n := by
  induction n using Nat.strongRecOn with
  | _ n ih =>
    by_cases h : n < 10
    · rw [numL_one h]; simp only [valN, List.foldl, dig8_nat]; omega
    · rw [numL_more h, valN_snoc, ih (n / 10) (by omega), dig8_nat]; omega
theorem numL_ne (n : Nat) : 1 ≤ (numL n).length := by
  by_cases h : n < 10
  · rw [numL_one h]; simp
  · rw [numL_more h]; simp
theorem numL_len : ∀ (k n : Nat), n < 10 ^ (k + 1) → (numL n).length ≤ k + 1 := by
  intro k
  induction k with
  | zero => intro n h; rw [numL_one (by simpa using h)]; simp
  | succ k ih =>
    intro n h
    by_cases h1 : n < 10
    · rw [numL_one h1]; simp
    · rw [numL_more h1]
      have := ih (n / 10) (by rw [Nat.pow_succ] at h; omega)
      simp; omega
theorem dig8_zero {n : Nat} (h : dig8 n = 48) : n % 10 = 0 := by
  have e := congrArg UInt8.toNat h
  rw [dig8_nat] at e
  have : (48 : UInt8).toNat = 48 := rfl
  omega
theorem numL_head (n : Nat) (h : 1 ≤ n) : (numL n).head? ≠ some 48 := by
  induction n using Nat.strongRecOn with
  | _ n ih =>
    by_cases h1 : n < 10
    · rw [numL_one h1]
      intro e
      simp only [List.head?_cons, Option.some.injEq] at e
      have := dig8_zero e; omega
    · rw [numL_more h1, List.head?_append]
      have := ih (n / 10) (by omega) (by omega)
      have hne := numL_ne (n / 10)
      cases hx : numL (n / 10) with
      | nil => rw [hx] at hne; simp at hne
      | cons c l => rw [hx] at this; simpa using this
theorem numL_lead (n : Nat) : 1 < (numL n).length → (numL n).head? ≠ some 48 := by
  intro h
  refine numL_head n ?_
  cases n with
  | zero => rw [numL_one (by omega)] at h; simp at h
  | succ n => omega
theorem numL_inj {a b : Nat} (h : numL a = numL b) : a = b := by rw [← numL_val a, h, numL_val]
theorem isD_nat {c : UInt8} (h : isD c = true) : 48 ≤ c.toNat ∧ c.toNat ≤ 57 := by simpa [isD] using h
theorem dig8_of {c : UInt8} (h : isD c = true) {n : Nat} (hn : n % 10 = c.toNat - 48) : dig8 n = c := by
  have := isD_nat h
  apply UInt8.toNat_inj.1
  rw [dig8_nat]; omega
theorem valN_pos : ∀ l : List UInt8, l.all isD = true → l.head? ≠ some 48 → l ≠ [] → 1 ≤ valN l := by
  have key : ∀ (l : List UInt8) (n : Nat), n ≤ l.foldl (fun n c => 10 * n + (c.toNat - 48)) n := by
    intro l
    induction l with
    | nil => intro n; exact Nat.le_refl _
    | cons c l ih => intro n; have := ih (10 * n + (c.toNat - 48)); simp only [List.foldl]; omega
  intro l ha hh hne
  cases l with
  | nil => exact absurd rfl hne
  | cons c l =>
    simp only [List.all_cons, Bool.and_eq_true] at ha
    have hc := isD_nat ha.1
    have hz : c ≠ 48 := by simpa using hh
    have : c.toNat ≠ 48 := fun e => hz (UInt8.toNat_inj.1 (by rw [e]; rfl))
    have := key l (10 * 0 + (c.toNat - 48))
    simp only [valN, List.foldl]; omega
/-- a text of digits without a leading zero is the text of its number -/
theorem num_of : ∀ (m : Nat) (l : List UInt8), l.length = m → l ≠ [] → l.all isD = true → (1 < l.length → l.head? ≠ some 48) → numL (valN l) = l := by
  intro m
  induction m with
  | zero => intro l hl hne; exact absurd (List.length_eq_zero_iff.1 hl) hne
  | succ m ih =>
    intro l hl hne ha hh
    obtain ⟨l', c, rfl⟩ : ∃ l' c, l = l' ++ [c] := ⟨l.dropLast, l.getLast hne, (List.dropLast_concat_getLast hne).symm⟩
    simp only [List.all_append, Bool.and_eq_true, List.all_cons, List.all_nil, and_true] at ha
    have hc := isD_nat ha.2
    rw [valN_snoc]
    by_cases h0 : l' = []
    · subst h0
      rw [show valN [] = 0 from rfl, numL_one (by omega)]
      simp only [List.nil_append, List.cons.injEq, and_true]
      exact dig8_of ha.2 (by omega)
    · have hl1 : l'.length = m := by simp at hl; exact hl
      have hp : 0 < l'.length := List.length_pos_iff.2 h0
      have hh1 : l'.head? ≠ some 48 := by
        have := hh (by simp; omega)
        rw [List.head?_append] at this
        cases hx : l' with
        | nil => exact absurd hx h0
        | cons d r => rw [hx] at this; simpa using this
      have hv := valN_pos l' ha.1 hh1 h0
      rw [numL_more (by omega), show (10 * valN l' + (c.toNat - 48)) / 10 = valN l' by omega, ih l' hl1 h0 ha.1 (fun _ => hh1), dig8_of ha.2 (by omega)]

def digOk (l : List UInt8) : Bool := decide (1 ≤ l.length ∧ l.length ≤ 6) && !(decide (1 < l.length) && l.head? == some 48) && l.all isD
def digL (l : List UInt8) : Int := if digOk l = true then (valN l : Int) else -1
theorem digOk_parts {l : List UInt8} (h : digOk l = true) : (1 ≤ l.length ∧ l.length ≤ 6) ∧ (1 < l.length → l.head? ≠ some 48) ∧ l.all isD = true := by
  simp only [digOk, Bool.and_eq_true, decide_eq_true_eq, Bool.not_eq_true', Bool.and_eq_false_iff, decide_eq_false_iff_not] at h
  refine ⟨h.1.1, fun h1 e => ?_, h.2⟩
  rcases h.1.2 with h2 | h2
  · exact h2 h1
  · rw [e] at h2; simp at h2
theorem digL_num {n : Nat} (h : n < 1000000) : digL (numL n) = n := by
  have h1 := numL_ne n
  have h2 := numL_len 5 n (by simpa using h)
  have h3 := numL_all n
  have h4 := numL_lead n
  have : digOk (numL n) = true := by
    simp only [digOk, Bool.and_eq_true, decide_eq_true_eq, h3, and_true, Bool.not_eq_true', Bool.and_eq_false_iff, decide_eq_false_iff_not]
    refine ⟨by omega, ?_⟩
    by_cases h5 : 1 < (numL n).length
    · right
      have := h4 h5
      cases hx : (numL n).head? with
      | none => rfl
      | some c => rw [hx] at this; simpa using this
    · exact .inl h5
  rw [digL, if_pos this, numL_val]
theorem num_digL {l : List UInt8} (h : 0 ≤ digL l) : numL (digL l).toNat = l := by
  unfold digL at h ⊢
  split at h
  · rename_i hk
    obtain ⟨h1, h2, h3⟩ := digOk_parts hk
    rw [if_pos hk, Int.toNat_natCast]
    exact num_of _ l rfl (by intro e; subst e; simp at h1) h3 h2
  · omega

/-- what stands between the bytes sep: the parts behind which one stands, and what stands behind the last one -/
def cutS (sep : UInt8) (l : List UInt8) : List (List UInt8) × List UInt8 := l.foldl (fun s c => if c = sep then (s.1 ++ [s.2], []) else (s.1, s.2 ++ [c])) ([], [])
def cutL (sep : UInt8) (l : List UInt8) : List (List UInt8) := (cutS sep l).1 ++ [(cutS sep l).2]
theorem cutS_snoc (sep : UInt8) (l : List UInt8) (c : UInt8) : cutS sep (l ++ [c]) = if c = sep then ((cutS sep l).1 ++ [(cutS sep l).2], []) else ((cutS sep l).1, (cutS sep l).2 ++ [c]) := by
  simp [cutS]
theorem cutS_word {sep : UInt8} (l : List UInt8) : ∀ (w : List UInt8), sep ∉ w → cutS sep (l ++ w) = ((cutS sep l).1, (cutS sep l).2 ++ w) := by
  intro w
  have key : ∀ (w : List UInt8) (s : List (List UInt8) × List UInt8), sep ∉ w → w.foldl (fun s c => if c = sep then (s.1 ++ [s.2], []) else (s.1, s.2 ++ [c])) s = (s.1, s.2 ++ w) := by
    intro w
    induction w with
    | nil => intro s _; simp
    | cons c w ih =>
      intro s h
      simp only [List.mem_cons, not_or] at h
      simp only [List.foldl]
      rw [if_neg (fun e => h.1 e.symm), ih _ h.2]
      simp
  intro h
  rw [cutS, List.foldl_append]
  exact key w _ h
theorem cutS_sep (sep : UInt8) (l : List UInt8) : cutS sep (l ++ [sep]) = ((cutS sep l).1 ++ [(cutS sep l).2], []) := by rw [cutS_snoc, if_pos rfl]
theorem cutS_len (sep : UInt8) (l : List UInt8) : (cutS sep l).1.length ≤ l.length := by
  have key : ∀ (l : List UInt8) (s : List (List UInt8) × List UInt8), (l.foldl (fun s c => if c = sep then (s.1 ++ [s.2], []) else (s.1, s.2 ++ [c])) s).1.length ≤ s.1.length + l.length := by
    intro l
    induction l with
    | nil => intro s; simp
    | cons c l ih =>
      intro s
      simp only [List.foldl]
      split
      · have := ih (s.1 ++ [s.2], []); simp at this ⊢; omega
      · have := ih (s.1, s.2 ++ [c]); simp at this ⊢; omega
  have := key l ([], [])
  simpa [cutS] using this
theorem numL_no32 (n : Nat) : (32 : UInt8) ∉ numL n := by
  intro h
  have := List.all_eq_true.1 (numL_all n) _ h
  simp [isD] at this
theorem numL_no10 (n : Nat) : (10 : UInt8) ∉ numL n := by
  intro h
  have := List.all_eq_true.1 (numL_all n) _ h
  simp [isD] at this
theorem cut_two (u v : List UInt8) (hu : (32 : UInt8) ∉ u) (hv : (32 : UInt8) ∉ v) : cutL 32 (u ++ [32] ++ v) = [u, v] := by
  rw [cutL, cutS_word _ _ hv, cutS_sep, show u = [] ++ u by simp, cutS_word _ _ hu]; simp [cutS]
theorem cut_three (u v x : List UInt8) (hu : (32 : UInt8) ∉ u) (hv : (32 : UInt8) ∉ v) (hx : (32 : UInt8) ∉ x) : cutL 32 (u ++ [32] ++ v ++ [32] ++ x) = [u, v, x] := by
  rw [cutL, cutS_word _ _ hx, cutS_sep, cutS_word _ _ hv, cutS_sep, show u = [] ++ u by simp, cutS_word _ _ hu]; simp [cutS]

/-- a deed: what is done, with two numbers -/
structure DV where
  k : Int
  a : Int
  b : Int
deriving DecidableEq
def wCome : List UInt8 := [99, 111, 109, 101]
def wNeed : List UInt8 := [110, 101, 101, 100]
def wLater : List UInt8 := [108, 97, 116, 101, 114]
def wGo : List UInt8 := [103, 111]
def wBack : List UInt8 := [98, 97, 99, 107]
def deedL (d : DV) : List UInt8 :=
  if d.k = 0 ∧ (0 ≤ d.a ∧ d.a ≤ 99) ∧ (0 ≤ d.b ∧ d.b ≤ 99) then wCome ++ [32] ++ numL d.a.toNat ++ [32] ++ numL d.b.toNat
  else if d.k = 2 ∧ (0 ≤ d.a ∧ d.a ≤ 99) ∧ d.b = 0 then wNeed ++ [32] ++ numL d.a.toNat
  else if d.k = 3 ∧ (0 ≤ d.a ∧ d.a ≤ 99) ∧ d.b = 0 then wLater ++ [32] ++ numL d.a.toNat
  else if d = ⟨1, 0, 0⟩ then wGo
  else if d = ⟨4, 0, 0⟩ then wBack
  else []
def candL (s : List UInt8) : List DV :=
  [⟨1, 0, 0⟩, ⟨4, 0, 0⟩]
    ++ (if (cutL 32 s).length = 3 then [⟨0, digL ((cutL 32 s).getD 1 []), digL ((cutL 32 s).getD 2 [])⟩] else [])
    ++ (if (cutL 32 s).length = 2 then [⟨2, digL ((cutL 32 s).getD 1 []), 0⟩, ⟨3, digL ((cutL 32 s).getD 1 []), 0⟩] else [])
def readD (s : List UInt8) : Option DV := (candL s).find? fun d => decide (s ≠ []) && decide (deedL d = s)
/-- the ways in which a deed has a text -/
theorem deed_ways (d : DV) : deedL d = [] ∨ (d.k = 0 ∧ (0 ≤ d.a ∧ d.a ≤ 99) ∧ (0 ≤ d.b ∧ d.b ≤ 99) ∧ deedL d = wCome ++ [32] ++ numL d.a.toNat ++ [32] ++ numL d.b.toNat)
    ∨ (d.k = 2 ∧ (0 ≤ d.a ∧ d.a ≤ 99) ∧ d.b = 0 ∧ deedL d = wNeed ++ [32] ++ numL d.a.toNat)
    ∨ (d.k = 3 ∧ (0 ≤ d.a ∧ d.a ≤ 99) ∧ d.b = 0 ∧ deedL d = wLater ++ [32] ++ numL d.a.toNat)
    ∨ (d = ⟨1, 0, 0⟩ ∧ deedL d = wGo) ∨ (d = ⟨4, 0, 0⟩ ∧ deedL d = wBack) := by
  unfold deedL
  split
  · rename_i h; exact .inr (.inl ⟨h.1, h.2.1, h.2.2, rfl⟩)
  · split
    · rename_i h; exact .inr (.inr (.inl ⟨h.1, h.2.1, h.2.2, rfl⟩))
    · split
      · rename_i h; exact .inr (.inr (.inr (.inl ⟨h.1, h.2.1, h.2.2, rfl⟩)))
      · split
        · rename_i h; exact .inr (.inr (.inr (.inr (.inl ⟨h, rfl⟩))))
        · split
          · rename_i h; exact .inr (.inr (.inr (.inr (.inr ⟨h, rfl⟩))))
          · exact .inl rfl
/-- a text of a deed is read as this deed, and as no other -/
theorem deed_inj {c d : DV} (h : deedL c = deedL d) (hne : deedL d ≠ []) : c = d := by
  have n3 := fun n => numL_no32 n
  obtain ⟨ck, ca, cb⟩ := c
  obtain ⟨dk, da, db⟩ := d
  have hc := deed_ways ⟨ck, ca, cb⟩
  have hd := deed_ways ⟨dk, da, db⟩
  rw [h] at hc
  simp only [DV.mk.injEq] at hc hd ⊢
  rcases hd with e | ⟨d1, d2, d3, e⟩ | ⟨d1, d2, d3, e⟩ | ⟨d1, d2, d3, e⟩ | ⟨d1, e⟩ | ⟨d1, e⟩
  · exact absurd e hne
  all_goals rw [e] at hc
  all_goals rcases hc with g | ⟨c1, c2, c3, g⟩ | ⟨c1, c2, c3, g⟩ | ⟨c1, c2, c3, g⟩ | ⟨c1, g⟩ | ⟨c1, g⟩
  all_goals first
    | (exfalso; simp [wCome, wNeed, wLater, wGo, wBack] at g; done)
    | skip
  · have w1 := cut_three wCome (numL da.toNat) (numL db.toNat) (by decide) (n3 _) (n3 _)
    have w2 := cut_three wCome (numL ca.toNat) (numL cb.toNat) (by decide) (n3 _) (n3 _)
    rw [g, w2] at w1
    injection w1 with _ w1
    injection w1 with w3 w1
    injection w1 with w4 _
    have := numL_inj w3
    have := numL_inj w4
    omega
  · have w3 := numL_inj (List.append_cancel_left g)
    omega
  · have w3 := numL_inj (List.append_cancel_left g)
    omega
  · omega
  · omega
theorem deed_cand (d : DV) (hne : deedL d ≠ []) : d ∈ candL (deedL d) := by
  have n3 := fun n => numL_no32 n
  obtain ⟨dk, da, db⟩ := d
  have hd := deed_ways ⟨dk, da, db⟩
  simp only [DV.mk.injEq] at hd
  rcases hd with e | ⟨d1, d2, d3, e⟩ | ⟨d1, d2, d3, e⟩ | ⟨d1, d2, d3, e⟩ | ⟨d1, e⟩ | ⟨d1, e⟩
  · exact absurd e hne
  all_goals rw [e]
  · have w1 := cut_three wCome (numL da.toNat) (numL db.toNat) (by decide) (n3 _) (n3 _)
    simp only [candL, w1]
    simp only [List.length_cons, List.length_nil, List.getD_cons_succ, List.getD_cons_zero, Nat.zero_add, Nat.reduceAdd, if_true, List.mem_append, List.mem_cons, DV.mk.injEq]
    rw [digL_num (by omega), digL_num (by omega)]
    exact .inl (.inr (.inl ⟨d1, by omega, by omega⟩))
  · have w1 := cut_two wNeed (numL da.toNat) (by decide) (n3 _)
    simp only [candL, w1]
    simp only [List.length_cons, List.length_nil, List.getD_cons_succ, List.getD_cons_zero, Nat.zero_add, Nat.reduceAdd, if_true, List.mem_append, List.mem_cons, DV.mk.injEq]
    rw [digL_num (by omega)]
    exact .inr (.inl ⟨d1, by omega, d3⟩)
  · have w1 := cut_two wLater (numL da.toNat) (by decide) (n3 _)
    simp only [candL, w1]
    simp only [List.length_cons, List.length_nil, List.getD_cons_succ, List.getD_cons_zero, Nat.zero_add, Nat.reduceAdd, if_true, List.mem_append, List.mem_cons, DV.mk.injEq]
    rw [digL_num (by omega)]
    exact .inr (.inr (.inl ⟨d1, by omega, d3⟩))
  · obtain ⟨rfl, rfl, rfl⟩ := d1
    simp [candL]
  · obtain ⟨rfl, rfl, rfl⟩ := d1
    simp [candL]
theorem read_text {s : List UInt8} {d : DV} (h : readD s = some d) : deedL d = s ∧ s ≠ [] := by
  have := List.find?_some h
  simp only [Bool.and_eq_true, decide_eq_true_eq] at this
  exact ⟨this.2, this.1⟩
theorem deed_read (d : DV) (hne : deedL d ≠ []) : readD (deedL d) = some d := by
  cases h : readD (deedL d) with
  | some c => rw [deed_inj (read_text h).1 hne]
  | none =>
    have := List.find?_eq_none.1 h d (deed_cand d hne)
    simp [hne] at this
theorem numL_last (n : Nat) (l : List UInt8) : (l ++ numL n).getLast? ≠ some 32 := by
  intro e
  have hne := numL_ne n
  rw [List.getLast?_append] at e
  cases hx : (numL n).getLast? with
  | none => rw [List.getLast?_eq_none_iff] at hx; rw [hx] at hne; simp at hne
  | some c =>
    rw [hx] at e
    have : c = 32 := by simpa using e
    subst this
    exact numL_no32 n (List.mem_of_getLast? hx)
/-- with a space behind it no text is a deed's -/
theorem read_space (s : List UInt8) : readD (s ++ [32]) = none := by
  cases h : readD (s ++ [32]) with
  | none => rfl
  | some d =>
    exfalso
    have ht := (read_text h).1
    have hl : (deedL d).getLast? = some 32 := by rw [ht]; simp
    rcases deed_ways d with e | ⟨-, -, -, e⟩ | ⟨-, -, -, e⟩ | ⟨-, -, -, e⟩ | ⟨-, e⟩ | ⟨-, e⟩
    · rw [e] at ht; simp at ht
    · rw [e] at hl; exact numL_last _ _ hl
    · rw [e] at hl; exact numL_last _ _ hl
    · rw [e] at hl; exact numL_last _ _ hl
    · rw [e] at hl; simp [wGo] at hl
    · rw [e] at hl; simp [wBack] at hl

end Go.Proofs.Ytpbmehodcllncaa

