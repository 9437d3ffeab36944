/- Plain mathematics of chapter 10 (ahead): counters beside each other: when they are free, counted by times. -/
import Derived.Test.YthoendonhkffkaaM17
namespace Go.Proofs.Ythoendonhkffkaa
set_option linter.unusedVariables false
open Go.RowKit

def insF (e : Int) : List Int → List Int
  | [] => [e]
  | f :: t => if f ≤ e then f :: insF e t else e :: f :: t
/-- how many are at most t -/
def leC (t : Int) : List Int → Nat
  | [] => 0
  | f :: r => leC t r + (if f ≤ t then 1 else 0)
theorem insF_len (e : Int) (F : List Int) : (insF e F).length = F.length + 1 := by
  induction F with
  | nil => rfl
  | cons f t ih => simp only [insF]; split <;> simp [ih]
theorem leC_ins (t e : Int) (F : List Int) : leC t (insF e F) = leC t F + (if e ≤ t then 1 else 0) := by
  induction F with
  | nil => simp [insF, leC]
  | cons f r ih =>
    simp only [insF]
    split
    · simp only [leC, ih]; omega
    · simp only [leC]
theorem mem_insF {e v : Int} {F : List Int} : v ∈ insF e F ↔ v = e ∨ v ∈ F := by
  induction F with
  | nil => simp [insF]
  | cons f r ih =>
    simp only [insF]
    split
    · simp only [List.mem_cons, ih]
      constructor
      · rintro (h | h | h) <;> simp [h]
      · rintro (h | h | h) <;> simp [h]
    · simp only [List.mem_cons]
theorem insF_sorted {e : Int} {F : List Int} (h : F.Pairwise (· ≤ ·)) : (insF e F).Pairwise (· ≤ ·) := by
  induction F with
  | nil => simp [insF]
  | cons f r ih =>
    obtain ⟨h1, h2⟩ := List.pairwise_cons.1 h
    simp only [insF]
    split
    · rename_i hc
      refine List.pairwise_cons.2 ⟨fun v hv => ?_, ih h2⟩
      rcases mem_insF.1 hv with rfl | hv
      · exact hc
      · exact h1 v hv
    · rename_i hc
      refine List.pairwise_cons.2 ⟨fun v hv => ?_, h⟩
      rcases List.mem_cons.1 hv with rfl | hv
      · omega
      · have := h1 v hv; omega
theorem leC_none {t : Int} {F : List Int} (h : ∀ v, v ∈ F → t < v) : leC t F = 0 := by
  induction F with
  | nil => rfl
  | cons f r ih =>
    have := h f (by simp)
    simp only [leC, ih (fun v hv => h v (by simp [hv]))]
    rw [if_neg (by omega)]
theorem head_le {F : List Int} (hs : F.Pairwise (· ≤ ·)) (hn : F ≠ []) (t : Int) : F.headD 0 ≤ t ↔ 1 ≤ leC t F := by
  cases F with
  | nil => exact absurd rfl hn
  | cons f r =>
    obtain ⟨h1, h2⟩ := List.pairwise_cons.1 hs
    simp only [List.headD_cons, leC]
    constructor
    · intro h; rw [if_pos h]; omega
    · intro h
      by_cases hc : f ≤ t
      · exact hc
      · rw [leC_none (fun v hv => by have := h1 v hv; omega), if_neg hc] at h; omega
theorem tail_le {F : List Int} (hs : F.Pairwise (· ≤ ·)) (t : Int) : leC t F.tail = leC t F - 1 := by
  cases F with
  | nil => rfl
  | cons f r =>
    obtain ⟨h1, h2⟩ := List.pairwise_cons.1 hs
    simp only [List.tail_cons, leC]
    by_cases hc : f ≤ t
    · rw [if_pos hc]; omega
    · rw [leC_none (fun v hv => by have := h1 v hv; omega), if_neg hc]
def bgnOf (F : List Int) (x : Int) : Int := max (F.headD 0) x
/-- when the counters are free, ahead of customer k -/
def freeK (L : List (Int × Int)) (c : Nat) : Nat → List Int
  | 0 => List.replicate c 0
  | k + 1 => insF (bgnOf (freeK L c k) (X L k) + Y L k) (freeK L c k).tail
def bgn (L : List (Int × Int)) (c k : Nat) : Int := bgnOf (freeK L c k) (X L k)
theorem freeK_succ (L : List (Int × Int)) (c k : Nat) : freeK L c (k + 1) = insF (bgn L c k + Y L k) (freeK L c k).tail := rfl
theorem freeK_len (L : List (Int × Int)) {c : Nat} (hc : 1 ≤ c) : ∀ k, (freeK L c k).length = c := by
  intro k
  induction k with
  | zero => simp [freeK]
  | succ k ih => rw [freeK, insF_len, List.length_tail, ih]; omega
theorem freeK_ne (L : List (Int × Int)) {c : Nat} (hc : 1 ≤ c) (k : Nat) : freeK L c k ≠ [] := by
  intro e; have := freeK_len L hc k; rw [e] at this; simp at this; omega
theorem freeK_sorted (L : List (Int × Int)) (c : Nat) : ∀ k, (freeK L c k).Pairwise (· ≤ ·) := by
  intro k
  induction k with
  | zero => exact List.pairwise_replicate.2 (Or.inr (Int.le_refl _))
  | succ k ih => exact insF_sorted (ih.tail)
theorem free_dom {L M : List (Int × Int)} {c d n : Nat} (hc : 1 ≤ c) (hcd : c ≤ d) (hX : ∀ k, k < n → X M k = X L k) (hY : ∀ k, k < n → Y M k ≤ Y L k) :
    ∀ k, k ≤ n → (∀ t, leC t (freeK L c k) ≤ leC t (freeK M d k)) ∧ (k < n → bgn M d k ≤ bgn L c k) := by
  have key : ∀ k, (∀ t, leC t (freeK L c k) ≤ leC t (freeK M d k)) → k < n → bgn M d k ≤ bgn L c k := by
    intro k hd hk
    have h1 := (head_le (freeK_sorted L c k) (freeK_ne L hc k) ((freeK L c k).headD 0)).1 (Int.le_refl _)
    have h2 := (head_le (freeK_sorted M d k) (freeK_ne M (by omega) k) ((freeK L c k).headD 0)).2 (by have := hd ((freeK L c k).headD 0); omega)
    simp only [bgn, bgnOf, hX k hk]; omega
  have dom : ∀ k, k ≤ n → ∀ t, leC t (freeK L c k) ≤ leC t (freeK M d k) := by
    intro k
    induction k with
    | zero =>
      intro _ t
      have : ∀ m, leC t (List.replicate m 0) = if 0 ≤ t then m else 0 := by
        intro m
        induction m with
        | zero => simp [leC]
        | succ m ih => simp only [List.replicate_succ, leC, ih]; split <;> omega
      simp only [freeK, this]; split <;> omega
    | succ k ih =>
      intro hk t
      have i := ih (by omega)
      have b := key k i (by omega)
      have y := hY k (by omega)
      rw [freeK_succ, freeK_succ, leC_ins, leC_ins, tail_le (freeK_sorted L c k), tail_le (freeK_sorted M d k)]
      have := i t
      split <;> split <;> omega
  intro k hk
  exact ⟨dom k hk, key k (dom k hk)⟩
theorem bgn_come (L : List (Int × Int)) (c k : Nat) : X L k ≤ bgn L c k := by simp only [bgn, bgnOf]; omega
theorem bgn_up {L : List (Int × Int)} (h : cOk L = true) {c : Nat} (hc : 1 ≤ c) {k : Nat} (hk : k + 1 < L.length) : bgn L c k ≤ bgn L c (k + 1) := by
  have hm := cOk_mono h (i := k) (j := k + 1) (by omega) hk
  have hy := cOk_bd h (k := k) (by omega)
  have hs := freeK_sorted L c k
  have hs' := freeK_sorted L c (k + 1)
  by_cases hh : (freeK L c (k + 1)).headD 0 < (freeK L c k).headD 0
  · exfalso
    have h1 := (head_le hs' (freeK_ne L hc _) _).1 (Int.le_refl ((freeK L c (k + 1)).headD 0))
    have h2 : leC ((freeK L c (k + 1)).headD 0) (freeK L c k) = 0 := by
      have := (head_le hs (freeK_ne L hc k) ((freeK L c (k + 1)).headD 0)).2
      omega
    have e := leC_ins ((freeK L c (k + 1)).headD 0) (bgn L c k + Y L k) (freeK L c k).tail
    rw [← freeK_succ, tail_le hs, h2, if_neg (by simp only [bgn, bgnOf]; omega)] at e
    omega
  · simp only [bgn, bgnOf] at *; omega
theorem bgn_one {L : List (Int × Int)} (h : cOk L = true) : ∀ k, k < L.length → bgn L 1 k = X L k + waitAt L k := by
  have key : ∀ k, k < L.length → freeK L 1 k = [if k = 0 then 0 else leaveAt L (k - 1)] ∧ bgn L 1 k = X L k + waitAt L k := by
    intro k
    induction k with
    | zero =>
      intro hk
      have := cOk_bd h hk
      refine ⟨rfl, ?_⟩
      simp only [bgn, bgnOf, freeK, waitAt, List.replicate_succ, List.headD_cons]; omega
    | succ k ih =>
      intro hk
      obtain ⟨i1, i2⟩ := ih (by omega)
      have e : freeK L 1 (k + 1) = [leaveAt L k] := by rw [freeK_succ, i1, i2]; simp [insF, leaveAt]
      refine ⟨by rw [e]; simp, ?_⟩
      simp only [bgn, bgnOf, e, List.headD_cons, waitAt, leaveAt]; omega
  exact fun k hk => (key k hk).2
theorem bgn_last {L : List (Int × Int)} (h : cOk L = true) {c : Nat} (hc : 1 ≤ c) {k : Nat} (hk : k < L.length) : bgn L c k + Y L k ≤ lastLeave L := by
  have d := (free_dom (L := L) (M := L) (c := 1) (d := c) (n := L.length) (Nat.le_refl _) hc (fun _ _ => rfl) (fun _ _ => Int.le_refl _) k (by omega)).2 hk
  rw [bgn_one h k hk] at d
  have e := leaveAt_fwd h k hk
  have m := fwd_mono h (i := k + 1) (j := L.length) (by omega) (Nat.le_refl _)
  rw [lastLeave_fwd h]
  simp only [leaveAt] at e; omega
theorem bgn_bd {L : List (Int × Int)} (h : cOk L = true) {c : Nat} (hc : 1 ≤ c) {k : Nat} (hk : k < L.length) : 0 ≤ bgn L c k ∧ bgn L c k ≤ 200 := by
  have a := bgn_come L c k
  have b := cOk_bd h hk
  have l := bgn_last h hc hk
  have m := lastLeave_bd h
  omega
theorem freeK_bd {L : List (Int × Int)} (h : cOk L = true) {c : Nat} (hc : 1 ≤ c) : ∀ k, k ≤ L.length → ∀ v, v ∈ freeK L c k → 0 ≤ v ∧ v ≤ 300 := by
  intro k
  induction k with
  | zero => intro _ v hv; have := List.eq_of_mem_replicate hv; omega
  | succ k ih =>
    intro hk v hv
    rw [freeK_succ] at hv
    rcases mem_insF.1 hv with rfl | hv
    · have := bgn_bd h hc (k := k) (by omega)
      have := cOk_bd h (k := k) (by omega)
      omega
    · exact ih (by omega) v (List.mem_of_mem_tail hv)
/-- with as many counters as customers nobody waits -/
theorem bgn_many {L : List (Int × Int)} (h : cOk L = true) {c : Nat} (hc : L.length ≤ c) {k : Nat} (hk : k < L.length) : bgn L c k = X L k := by
  have hc1 : 1 ≤ c := by omega
  have key : ∀ k, k ≤ L.length → c ≤ leC 0 (freeK L c k) + k := by
    intro k
    induction k with
    | zero =>
      intro _
      have : ∀ m, leC 0 (List.replicate m 0) = m := by
        intro m
        induction m with
        | zero => rfl
        | succ m ih => simp only [List.replicate_succ, leC, ih]; rfl
      simp only [freeK, this]; omega
    | succ k ih =>
      intro hk
      have i := ih (by omega)
      rw [freeK_succ, leC_ins, tail_le (freeK_sorted L c k)]
      omega
  have i := key k (by omega)
  have hd := (head_le (freeK_sorted L c k) (freeK_ne L hc1 k) 0).2 (by omega)
  have := cOk_bd h hk
  simp only [bgn, bgnOf]; omega
def servedN (L : List (Int × Int)) (c : Nat) (t : Int) : Nat → Int
  | 0 => 0
  | k + 1 => servedN L c t k + (if bgn L c k ≤ t ∧ t ≤ bgn L c k + Y L k - 1 then 1 else 0)
def thereC (L : List (Int × Int)) (c : Nat) (t : Int) : Nat → Int
  | 0 => 0
  | k + 1 => thereC L c t k + (if X L k ≤ t ∧ t < bgn L c k + Y L k then 1 else 0)
theorem servedN_bd (L : List (Int × Int)) (c : Nat) (t : Int) : ∀ k, 0 ≤ servedN L c t k ∧ servedN L c t k ≤ k := by
  intro k
  induction k with
  | zero => simp [servedN]
  | succ k ih => simp only [servedN]; split <;> omega
theorem thereC_bd (L : List (Int × Int)) (c : Nat) (t : Int) : ∀ k, 0 ≤ thereC L c t k ∧ thereC L c t k ≤ k := by
  intro k
  induction k with
  | zero => simp [thereC]
  | succ k ih => simp only [thereC]; split <;> omega
/-- NO MORE ARE SERVED THAN COUNTERS -/
theorem served_min {L : List (Int × Int)} (h : cOk L = true) {c : Nat} (hc : 1 ≤ c) {t : Int} (ht : 0 ≤ t) : ∀ k, k ≤ L.length → servedN L c t k = min (thereC L c t k) c := by
  have inv : ∀ k, k ≤ L.length → (∀ j, j < k → X L j ≤ t) → (1 ≤ leC t (freeK L c k) → servedN L c t k = thereC L c t k ∧ servedN L c t k + leC t (freeK L c k) = c) ∧ (leC t (freeK L c k) = 0 → servedN L c t k = c ∧ (c : Int) ≤ thereC L c t k) := by
    intro k
    induction k with
    | zero =>
      intro _ _
      have : ∀ m, leC t (List.replicate m 0) = m := by
        intro m
        induction m with
        | zero => rfl
        | succ m ih => simp only [List.replicate_succ, leC, ih]; rw [if_pos ht]
      simp only [freeK, this, servedN, thereC]
      exact ⟨fun _ => ⟨trivial, by omega⟩, fun e => by omega⟩
    | succ k ih =>
      intro hk hX
      obtain ⟨i1, i2⟩ := ih (by omega) (fun j hj => hX j (by omega))
      have hx := hX k (by omega)
      have hy := cOk_bd h (k := k) (by omega)
      have hh := head_le (freeK_sorted L c k) (freeK_ne L hc k) t
      have hb := bgn_come L c k
      have eb : bgn L c k = max ((freeK L c k).headD 0) (X L k) := rfl
      rw [freeK_succ, leC_ins, tail_le (freeK_sorted L c k)]
      simp only [servedN, thereC]
      by_cases h1 : 1 ≤ leC t (freeK L c k)
      · obtain ⟨j1, j2⟩ := i1 h1
        have hd := hh.2 h1
        have hbt : bgn L c k ≤ t := by omega
        by_cases he : bgn L c k + Y L k ≤ t
        · rw [if_pos he, if_neg (by omega), if_neg (by omega)]
          exact ⟨fun _ => ⟨by omega, by omega⟩, fun e => by omega⟩
        · rw [if_neg he, if_pos ⟨hbt, by omega⟩, if_pos ⟨hx, by omega⟩]
          exact ⟨fun _ => ⟨by omega, by omega⟩, fun e => ⟨by omega, by omega⟩⟩
      · obtain ⟨j1, j2⟩ := i2 (by omega)
        have hd : ¬ (freeK L c k).headD 0 ≤ t := fun x => h1 (hh.1 x)
        have hbt : t < bgn L c k := by omega
        rw [if_neg (show ¬ bgn L c k + Y L k ≤ t by omega), if_neg (by omega), if_pos ⟨hx, by omega⟩]
        exact ⟨fun e => by omega, fun _ => ⟨by omega, by omega⟩⟩
  intro k
  induction k with
  | zero => intro _; simp only [servedN, thereC]; omega
  | succ k ih =>
    intro hk
    by_cases hx : X L k ≤ t
    · have i := inv (k + 1) hk (fun j hj => by have := cOk_mono h (i := j) (j := k) (by omega) (by omega); omega)
      rcases Nat.eq_zero_or_pos (leC t (freeK L c (k + 1))) with e | e
      · have := i.2 e; omega
      · have := i.1 e; omega
    · have hb := bgn_come L c k
      simp only [servedN, thereC]
      rw [if_neg (by omega), if_neg (by omega)]
      have := ih (by omega)
      omega
def waitS (L : List (Int × Int)) (c : Nat) : Nat → Int
  | 0 => 0
  | k + 1 => waitS L c k + bgn L c k - X L k
theorem waitS_bd {L : List (Int × Int)} (h : cOk L = true) {c : Nat} (hc : 1 ≤ c) : ∀ k, k ≤ L.length → 0 ≤ waitS L c k ∧ waitS L c k ≤ 200 * k := by
  intro k
  induction k with
  | zero => intro _; simp [waitS]
  | succ k ih =>
    intro hk
    have := ih (by omega)
    have := bgn_come L c k
    have := bgn_bd h hc (k := k) (by omega)
    have := cOk_bd h (k := k) (by omega)
    simp only [waitS]; omega
theorem waitS_one {L : List (Int × Int)} (h : cOk L = true) : ∀ k, k ≤ L.length → waitS L 1 k = waitSumTo L k := by
  intro k
  induction k with
  | zero => intro _; rfl
  | succ k ih => intro hk; simp only [waitS, waitSumTo, ih (by omega), bgn_one h k (by omega)]; omega
theorem waitS_dom {L : List (Int × Int)} {c d : Nat} (hc : 1 ≤ c) (hcd : c ≤ d) : ∀ k, k ≤ L.length → waitS L d k ≤ waitS L c k := by
  intro k
  induction k with
  | zero => intro _; exact Int.le_refl _
  | succ k ih =>
    intro hk
    have := ih (by omega)
    have := (free_dom (L := L) (M := L) (n := L.length) hc hcd (fun _ _ => rfl) (fun _ _ => Int.le_refl _) k (by omega)).2 (by omega)
    simp only [waitS]; omega
theorem waitS_many {L : List (Int × Int)} (h : cOk L = true) {c : Nat} (hc : L.length ≤ c) : ∀ k, k ≤ L.length → waitS L c k = 0 := by
  intro k
  induction k with
  | zero => intro _; rfl
  | succ k ih => intro hk; simp only [waitS, ih (by omega), bgn_many h hc (k := k) (by omega)]; omega
/-! what the functions answer -/
def besOk (L : List (Int × Int)) (c : Int) : Bool := cOk L && decide (1 ≤ c ∧ c ≤ 4)
theorem besOk_parts {L : List (Int × Int)} {c : Int} (h : besOk L c = true) : cOk L = true ∧ 1 ≤ c ∧ c ≤ 4 := by simpa [besOk] using h
def beginsTo (L : List (Int × Int)) (c k : Nat) : List Int := (List.range k).map (bgn L c)
def leaveBeTo (L : List (Int × Int)) (c k : Nat) : List Int := (List.range k).map fun k => bgn L c k + Y L k
theorem beginsTo_len (L : List (Int × Int)) (c k : Nat) : (beginsTo L c k).length = k := by simp [beginsTo]
theorem leaveBeTo_len (L : List (Int × Int)) (c k : Nat) : (leaveBeTo L c k).length = k := by simp [leaveBeTo]
theorem beginsTo_succ (L : List (Int × Int)) (c k : Nat) : beginsTo L c (k + 1) = beginsTo L c k ++ [bgn L c k] := by simp [beginsTo, List.range_succ]
theorem leaveBeTo_succ (L : List (Int × Int)) (c k : Nat) : leaveBeTo L c (k + 1) = leaveBeTo L c k ++ [bgn L c k + Y L k] := by simp [leaveBeTo, List.range_succ]
theorem beginsTo_Z {L : List (Int × Int)} {c n k : Nat} (h : k < n) : Z (beginsTo L c n) k = bgn L c k := by simp [Z, beginsTo, h]
theorem leaveBeTo_Z {L : List (Int × Int)} {c n k : Nat} (h : k < n) : Z (leaveBeTo L c n) k = bgn L c k + Y L k := by simp [Z, leaveBeTo, h]
def beginsV (L : List (Int × Int)) (c : Int) : List Int := if besOk L c = true then beginsTo L c.toNat L.length else []
theorem beginsV_yes {L : List (Int × Int)} {c : Int} (h : besOk L c = true) : beginsV L c = beginsTo L c.toNat L.length := if_pos h
theorem beginsV_no {L : List (Int × Int)} {c : Int} (h : besOk L c = false) : beginsV L c = [] := by simp [beginsV, h]
def leaveBeV (L : List (Int × Int)) (c : Int) : List Int := if besOk L c = true then leaveBeTo L c.toNat L.length else []
theorem leaveBeV_yes {L : List (Int × Int)} {c : Int} (h : besOk L c = true) : leaveBeV L c = leaveBeTo L c.toNat L.length := if_pos h
theorem leaveBeV_no {L : List (Int × Int)} {c : Int} (h : besOk L c = false) : leaveBeV L c = [] := by simp [leaveBeV, h]
def servedAtV (L : List (Int × Int)) (c t : Int) : Int := if besOk L c = true ∧ (0 ≤ t ∧ t ≤ 200) then servedN L c.toNat t L.length else -1
theorem servedAtV_yes {L : List (Int × Int)} {c t : Int} (h : besOk L c = true) (ht : 0 ≤ t ∧ t ≤ 200) : servedAtV L c t = servedN L c.toNat t L.length := if_pos ⟨h, ht⟩
theorem servedAtV_no {L : List (Int × Int)} {c t : Int} (h : ¬ (besOk L c = true ∧ (0 ≤ t ∧ t ≤ 200))) : servedAtV L c t = -1 := if_neg h
def waitSumV (L : List (Int × Int)) (c : Int) : Int := if besOk L c = true then waitS L c.toNat L.length else -1
theorem waitSumV_yes {L : List (Int × Int)} {c : Int} (h : besOk L c = true) : waitSumV L c = waitS L c.toNat L.length := if_pos h
theorem waitSumV_no {L : List (Int × Int)} {c : Int} (h : besOk L c = false) : waitSumV L c = -1 := by simp [waitSumV, h]

end Go.Proofs.Ythoendonhkffkaa

