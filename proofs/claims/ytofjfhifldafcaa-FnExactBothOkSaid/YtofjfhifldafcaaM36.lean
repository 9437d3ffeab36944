/- Plain mathematics of chapter 9, for the landed code: insertion by a key (places, rows), and that the order by pairs is it; ways added up from the front. -/
import Derived.Test.YtofjfhifldafcaaU12
import Derived.Test.YtofjfhifldafcaaM28
namespace Go.Proofs.Ytofjfhifldafcaa
set_option linter.unusedVariables false
open Go.RowKit

def posK (K : Int → Int) (o : List Int) (k : Int) : Nat → Nat
  | 0 => 0
  | a + 1 => if K k < K (Z o a) then posK K o k a else a + 1
theorem posK_le (K : Int → Int) (o : List Int) (k : Int) : ∀ a, posK K o k a ≤ a := by
  intro a
  induction a with
  | zero => exact Nat.le_refl _
  | succ a ih => simp only [posK]; split <;> omega
theorem posK_behind (K : Int → Int) (o : List Int) (k : Int) : ∀ a i, posK K o k a ≤ i → i < a → K k < K (Z o i) := by
  intro a
  induction a with
  | zero => intro i _ h; omega
  | succ a ih =>
    intro i h1 h2
    simp only [posK] at h1
    split at h1
    · rename_i hc
      by_cases e : i = a
      · subst e; exact hc
      · exact ih i h1 (by omega)
    · omega
theorem posK_at (K : Int → Int) (o : List Int) (k : Int) : ∀ a p, posK K o k a = p + 1 → K (Z o p) ≤ K k := by
  intro a
  induction a with
  | zero => intro p h; simp [posK] at h
  | succ a ih =>
    intro p h
    simp only [posK] at h
    split at h
    · exact ih p h
    · rename_i hc
      have : p = a := by omega
      subst this; omega
def insK (K : Int → Int) (o : List Int) (k : Int) : List Int := o.take (posK K o k o.length) ++ k :: o.drop (posK K o k o.length)
def byRK (K : Int → Int) : Nat → List Int
  | 0 => []
  | k + 1 => insK K (byRK K k) k
theorem insK_perm (K : Int → Int) (o : List Int) (k : Int) : (insK K o k).Perm (k :: o) := by
  have := List.perm_middle (a := k) (l₁ := o.take (posK K o k o.length)) (l₂ := o.drop (posK K o k o.length))
  rwa [List.take_append_drop] at this
theorem byRK_perm (K : Int → Int) : ∀ k, (byRK K k).Perm (upto k) := by
  intro k
  induction k with
  | zero => exact List.Perm.refl _
  | succ k ih =>
    refine (insK_perm K _ _).trans ((List.Perm.cons _ ih).trans ?_)
    have e : upto (k + 1) = upto k ++ [(k : Int)] := by simp [upto, List.range_succ]
    rw [e]
    exact (List.perm_append_singleton _ _).symm
theorem byRK_len (K : Int → Int) (k : Nat) : (byRK K k).length = k := by rw [(byRK_perm K k).length_eq, upto_len]
/-- the row of n while i is put in, at j: what is ahead of i by ratios, and behind it as it was -/
def rowK (K : Int → Int) (n i j : Nat) : List Int := (List.range n).map fun p => if p < j then Z (byRK K i) p else if p = j then (i : Int) else if p ≤ i then Z (byRK K i) (p - 1) else (p : Int)
theorem rowK_len (K : Int → Int) (n i j : Nat) : (rowK K n i j).length = n := by simp [rowK]
theorem rowK_Z (K : Int → Int) {n i j p : Nat} (h : p < n) : Z (rowK K n i j) p = if p < j then Z (byRK K i) p else if p = j then (i : Int) else if p ≤ i then Z (byRK K i) (p - 1) else (p : Int) := by simp [Z, rowK, h]
theorem rowK_swap (K : Int → Int) {n i j : Nat} (hj : 0 < j) (hji : j ≤ i) (hi : i < n) : exL (rowK K n i j) j (j - 1) = rowK K n i (j - 1) := by
  refine ext_Z (by rw [exL_len, rowK_len, rowK_len]) (fun p hp => ?_)
  rw [exL_len, rowK_len] at hp
  rw [exL_Z (by rw [rowK_len]; omega) (by rw [rowK_len]; omega), rowK_Z K hp, rowK_Z K hp, rowK_Z K (show j < n by omega), rowK_Z K (show j - 1 < n by omega)]
  by_cases e1 : j - 1 = p
  · subst e1
    rw [if_pos rfl, if_neg (by omega), if_pos rfl, if_neg (by omega), if_pos rfl]
  · rw [if_neg e1]
    by_cases e2 : j = p
    · subst e2
      rw [if_pos rfl, if_pos (by omega), if_neg (by omega), if_neg (by omega), if_pos (by omega)]
    · rw [if_neg e2]
      by_cases e3 : p < j
      · rw [if_pos e3, if_pos (by omega)]
      · rw [if_neg e3, if_neg (show ¬ p = j by omega), if_neg (show ¬ p < j - 1 by omega), if_neg (show ¬ p = j - 1 by omega)]
theorem insK_Z (K : Int → Int) (o : List Int) (k : Int) (p : Nat) (hp : p < o.length + 1) : Z (insK K o k) p = if p < posK K o k o.length then Z o p else if p = posK K o k o.length then k else Z o (p - 1) := by
  have hl := posK_le K o k o.length
  unfold insK
  generalize posK K o k o.length = j at *
  have ht : (o.take j).length = j := by rw [List.length_take]; omega
  unfold Z
  simp only [List.getD_eq_getElem?_getD]
  by_cases h1 : p < j
  · rw [if_pos h1, List.getElem?_append_left (by omega), List.getElem?_take_of_lt h1]
  · rw [if_neg h1, List.getElem?_append_right (by omega), ht]
    by_cases h2 : p = j
    · subst h2; simp
    · rw [if_neg h2]
      obtain ⟨q, rfl⟩ : ∃ q, p = j + 1 + q := ⟨p - j - 1, by omega⟩
      rw [show j + 1 + q - j = q + 1 by omega, List.getElem?_cons_succ, List.getElem?_drop]
      rw [show j + 1 + q - 1 = j + q by omega]
theorem rowK_next (K : Int → Int) {n i j : Nat} (hi : i < n) (hp : posK K (byRK K i) i i = j) : rowK K n i j = rowK K n (i + 1) (i + 1) := by
  have hj := posK_le K (byRK K i) i i
  refine ext_Z (by rw [rowK_len, rowK_len]) (fun p hpn => ?_)
  rw [rowK_len] at hpn
  rw [rowK_Z K hpn, rowK_Z K hpn]
  by_cases h1 : p < i + 1
  · rw [if_pos h1, show byRK K (i + 1) = insK K (byRK K i) i from rfl, insK_Z K _ _ _ (by rw [byRK_len]; exact h1), byRK_len, hp]
    by_cases h2 : p < j
    · rw [if_pos h2, if_pos h2]
    · rw [if_neg h2, if_neg h2]
      by_cases h3 : p = j
      · rw [if_pos h3, if_pos h3]
      · rw [if_neg h3, if_neg h3, if_pos (by omega)]
  · rw [if_neg h1, if_neg (by omega), if_neg (by omega), if_neg (by omega)]
    by_cases h2 : p = i + 1
    · rw [if_pos h2]; subst h2; rfl
    · rw [if_neg h2, if_neg (by omega)]
theorem rowK_first (K : Int → Int) {n : Nat} : upto n = rowK K n 1 1 := by
  refine ext_Z (by rw [upto_len, rowK_len]) (fun p hp => ?_)
  rw [upto_len] at hp
  rw [rowK_Z K hp]
  have e : Z (upto n) p = (p : Int) := by simp [Z, upto, hp]
  rw [e]
  by_cases h1 : p < 1
  · rw [if_pos h1]
    obtain rfl : p = 0 := by omega
    rfl
  · rw [if_neg h1]
    by_cases h2 : p = 1
    · rw [if_pos h2]; subst h2; rfl
    · rw [if_neg h2, if_neg (by omega)]
theorem rowK_last (K : Int → Int) (n : Nat) : rowK K n n n = byRK K n := by
  refine ext_Z (by rw [rowK_len, byRK_len]) (fun p hp => ?_)
  rw [rowK_len] at hp
  rw [rowK_Z K hp, if_pos hp]


/-- sorted by a key, and alike ones by their place -/
def lexK (K : Int → Int) (a b : Int) : Prop := K a < K b ∨ (K a = K b ∧ a < b)
theorem byRK_sorted (K : Int → Int) : ∀ n, (byRK K n).Pairwise (lexK K) := by
  intro n
  induction n with
  | zero => exact List.Pairwise.nil
  | succ k i =>
    have hm : ∀ v, v ∈ byRK K k → v < (k : Int) := fun v hv => (mem_upto.1 ((byRK_perm K k).mem_iff.1 hv)).2
    show (insK K (byRK K k) k).Pairwise (lexK K)
    have hb := posK_behind K (byRK K k) k (byRK K k).length
    have hp := posK_at K (byRK K k) k (byRK K k).length
    have hl := posK_le K (byRK K k) k (byRK K k).length
    unfold insK
    generalize posK K (byRK K k) k (byRK K k).length = p at *
    have e : byRK K k = (byRK K k).take p ++ (byRK K k).drop p := (List.take_append_drop _ _).symm
    have i' := i
    rw [e] at i'
    obtain ⟨a1, a2, a3⟩ := List.pairwise_append.1 i'
    refine List.pairwise_append.2 ⟨a1, List.pairwise_cons.2 ⟨fun v hv => ?_, a2⟩, fun a ha b hbm => ?_⟩
    · obtain ⟨j, hj, rfl⟩ := List.getElem_of_mem hv
      rw [List.length_drop] at hj
      rw [List.getElem_drop]
      have := hb (p + j) (by omega) (by omega)
      rw [Z_get (by omega)] at this
      exact Or.inl this
    · rcases List.mem_cons.1 hbm with rfl | hbm
      · have hak := hm a (List.mem_of_mem_take ha)
        obtain ⟨j, hj, rfl⟩ := List.getElem_of_mem ha
        rw [List.length_take] at hj
        rw [List.getElem_take] at hak ⊢
        have hq := hp (p - 1) (by omega)
        rw [Z_get (by omega)] at hq
        by_cases ej : j = p - 1
        · subst ej
          by_cases e2 : K (byRK K k)[p - 1] = K k
          · exact Or.inr ⟨e2, hak⟩
          · exact Or.inl (by omega)
        · have hr := List.pairwise_iff_getElem.1 i j (p - 1) (by omega) (by omega) (by omega)
          unfold lexK at hr ⊢
          by_cases e2 : K (byRK K k)[j] = K k
          · exact Or.inr ⟨e2, hak⟩
          · exact Or.inl (by omega)
      · exact a3 a ha b hbm
theorem lex_unique {K : Int → Int} : ∀ {a b : List Int}, a.Perm b → a.Pairwise (lexK K) → b.Pairwise (lexK K) → a = b := by
  intro a
  induction a with
  | nil => intro b h _ _; exact (List.nil_perm.1 h).symm
  | cons x a ih =>
    intro b h ha hb
    cases b with
    | nil => exact absurd h.length_eq (by simp)
    | cons y b =>
      have ha' := List.pairwise_cons.1 ha
      have hb' := List.pairwise_cons.1 hb
      have e : x = y := by
        apply Classical.byContradiction
        intro hne
        have h1 : x ∈ y :: b := h.mem_iff.1 (by simp)
        have h2 : y ∈ x :: a := h.mem_iff.2 (by simp)
        rcases List.mem_cons.1 h1 with h1 | h1
        · exact hne h1
        rcases List.mem_cons.1 h2 with h2 | h2
        · exact hne h2.symm
        have x1 := hb'.1 x h1
        have x2 := ha'.1 y h2
        unfold lexK at x1 x2
        omega
      subst e
      rw [ih h.cons_inv ha'.2 hb'.2]

/-- the key of a place -/
def keyAt (L : List (Int × Int)) (v : Int) : Int := keyB (gB L v)
theorem lowG_lt (L : List (Int × Int)) (n : Int) : ∀ k, (lowG L n k).Pairwise (· < ·) := by
  intro k
  induction k with
  | zero => simp [lowG]
  | succ k ih =>
    simp only [lowG]; split
    · refine List.pairwise_append.2 ⟨ih, by simp, fun a ha b hb => ?_⟩
      have := lowG_mem.1 ha
      simp at hb; omega
    · exact ih
theorem highG_lt (L : List (Int × Int)) (n : Int) : ∀ k, (highG L n k).Pairwise (· < ·) := by
  intro k
  induction k with
  | zero => simp [highG]
  | succ k ih =>
    simp only [highG]; split
    · refine List.pairwise_append.2 ⟨ih, by simp, fun a ha b hb => ?_⟩
      have := highG_mem.1 ha
      simp at hb; omega
    · exact ih
theorem lowTo_lex (L : List (Int × Int)) : ∀ m, (lowTo L m).Pairwise (lexK (keyAt L)) := by
  intro m
  induction m with
  | zero => simp [lowTo]
  | succ m ih =>
    rw [lowTo]
    refine List.pairwise_append.2 ⟨ih, ?_, fun a ha b hb => ?_⟩
    · refine (lowG_lt L _ _).imp_of_mem fun {a b} ha hb h => ?_
      have x1 := lowG_mem.1 ha
      have x2 := lowG_mem.1 hb
      refine Or.inr ⟨?_, h⟩
      rw [keyAt, keyAt, keyB_low x1.2.2.1, keyB_low x2.2.2.1]; omega
    · have x1 := lowTo_mem.1 ha
      have x2 := lowG_mem.1 hb
      refine Or.inl ?_
      rw [keyAt, keyAt, keyB_low x1.2.2.1, keyB_low x2.2.2.1]; omega
theorem highTo_lex (L : List (Int × Int)) : ∀ m, m ≤ 9 → (highTo L m).Pairwise (lexK (keyAt L)) := by
  intro m
  induction m with
  | zero => intro _; simp [highTo]
  | succ m ih =>
    intro hm
    rw [highTo]
    refine List.pairwise_append.2 ⟨ih (by omega), ?_, fun a ha b hb => ?_⟩
    · refine (highG_lt L _ _).imp_of_mem fun {a b} ha hb h => ?_
      have x1 := highG_mem.1 ha
      have x2 := highG_mem.1 hb
      refine Or.inr ⟨?_, h⟩
      rw [keyAt, keyAt, keyB_high x1.2.2.1, keyB_high x2.2.2.1]; omega
    · have x1 := (highTo_mem (by omega)).1 ha
      have x2 := highG_mem.1 hb
      refine Or.inl ?_
      rw [keyAt, keyAt, keyB_high x1.2.2.1, keyB_high x2.2.2.1]; omega
theorem pairsR_lex (L : List (Int × Int)) : (pairsR L).Pairwise (lexK (keyAt L)) := by
  refine List.pairwise_append.2 ⟨lowTo_lex L 9, highTo_lex L 9 (by omega), fun a ha b hb => Or.inl ?_⟩
  have x1 := lowTo_mem.1 ha
  have x2 := (highTo_mem (by omega)).1 hb
  rw [keyAt, keyAt, keyB_low x1.2.2.1, keyB_high x2.2.2.1]
  omega
theorem byRK_pairs {L : List (Int × Int)} (h : bOk L = true) : byRK (keyAt L) L.length = pairsR L :=
  lex_unique ((byRK_perm _ _).trans (pairsR_perm h).symm) (byRK_sorted _ _) (pairsR_lex L)
/-- what the comparison tells -/
def cmpB (x1 y1 x2 y2 : Int) : Int := if x1 ≤ y1 then (if x2 ≤ y2 then x1 - x2 else -1) else (if x2 ≤ y2 then 1 else y2 - y1)
theorem cmpB_key {L : List (Int × Int)} (h : bOk L = true) {p q : Nat} (hp : p < L.length) (hq : q < L.length) : cmpB (X L p) (Y L p) (X L q) (Y L q) < 0 ↔ keyAt L (p : Int) < keyAt L (q : Int) := by
  have b1 := (bOk_parts h).1 p hp
  have b2 := (bOk_parts h).1 q hq
  simp only [cmpB, keyAt, keyB, gB, Int.toNat_natCast]
  split <;> split <;> omega

/-! ways, added up from the front -/
def sTo (L : List (Int × Int)) : Nat → Int
  | 0 => 0
  | k + 1 => sTo L k + Y L k
theorem fS_sTo (L : List (Int × Int)) (k : Nat) : ∀ m, k ≤ m → fS L k m = sTo L m - sTo L k := by
  intro m
  induction m with
  | zero => intro h; obtain rfl : k = 0 := by omega
            simp [fS, sTo]
  | succ m ih =>
    intro h
    by_cases hk : k ≤ m
    · rw [fS, if_pos hk, ih hk, sTo]; omega
    · obtain rfl : k = m + 1 := by omega
      rw [fS, if_neg hk]; omega
theorem sTo_bd {L : List (Int × Int)} (h : bOk L = true) : ∀ k, k ≤ L.length → 0 ≤ sTo L k ∧ sTo L k ≤ 9 * k := by
  intro k
  induction k with
  | zero => intro _; simp [sTo]
  | succ k ih => intro hk; have := ih (by omega); have := (bOk_parts h).1 k (by omega); simp only [sTo]; omega
theorem sTo_up {L : List (Int × Int)} (h : bOk L = true) {k m : Nat} (hk : k ≤ m) (hm : m ≤ L.length) : sTo L k ≤ sTo L m := by
  have := fS_bd h k m hm
  rw [fS_sTo L k m hk] at this
  omega
def maxW (L : List (Int × Int)) : Nat → Int
  | 0 => 0
  | k + 1 => max (maxW L k) (pF L k + X L k + (sTo L L.length - sTo L k))
theorem maxW_to {L : List (Int × Int)} : ∀ k, k ≤ L.length → maxW L k = max 0 (longTo L k) := by
  intro k
  induction k with
  | zero => intro _; show (0 : Int) = max 0 (-1); omega
  | succ k ih =>
    intro hk
    have e : wayAt L k = pF L k + X L k + (sTo L L.length - sTo L k) := by rw [wayAt, fS_sTo L k _ (by omega)]; rfl
    simp only [maxW, longTo]
    rw [ih (by omega), e]; omega
theorem maxW_lw {L : List (Int × Int)} (h : bOk L = true) : maxW L L.length = lw L := by
  have hb := bOk_okB h
  have := lw_nn hb
  rw [maxW_to _ (Nat.le_refl _), longTo_lw hb (bOk_parts h).2.1]; omega
theorem maxW_bd {L : List (Int × Int)} (h : bOk L = true) : ∀ k, k ≤ L.length → 0 ≤ maxW L k ∧ maxW L k ≤ 1000 := by
  intro k
  have h6 := (bOk_parts h).2.2
  induction k with
  | zero => intro _; simp [maxW]
  | succ k ih =>
    intro hk
    have := ih (by omega)
    have := pF_bd h k (by omega)
    have := (bOk_parts h).1 k (by omega)
    have := sTo_bd h k (by omega)
    have := sTo_bd h L.length (Nat.le_refl _)
    simp only [maxW]; omega

/-! the least of the orders that have come -/
def minB (L : List (Int × Int)) : Int → List (List Int) → Int
  | s, [] => s
  | s, p :: q => minB L (min s (lw (inOrd L p))) q
theorem minB_snoc (L : List (Int × Int)) (p : List Int) : ∀ (q : List (List Int)) (s : Int), minB L s (q ++ [p]) = min (minB L s q) (lw (inOrd L p)) := by
  intro q
  induction q with
  | nil => intro s; rfl
  | cons a q ih => intro s; exact ih _
theorem minB_spec (L : List (Int × Int)) : ∀ (q : List (List Int)) (s : Int), (minB L s q ≤ s ∧ ∀ p ∈ q, minB L s q ≤ lw (inOrd L p)) ∧ (minB L s q = s ∨ ∃ p ∈ q, minB L s q = lw (inOrd L p)) := by
  intro q
  induction q with
  | nil => intro s; exact ⟨⟨Int.le_refl _, fun p hp => by cases hp⟩, .inl rfl⟩
  | cons a q ih =>
    intro s
    obtain ⟨⟨h1, h2⟩, h3⟩ := ih (min s (lw (inOrd L a)))
    have e : minB L s (a :: q) = minB L (min s (lw (inOrd L a))) q := rfl
    rw [e]
    refine ⟨⟨by omega, fun p hp => ?_⟩, ?_⟩
    · rcases List.mem_cons.1 hp with rfl | hp
      · omega
      · exact h2 p hp
    · rcases h3 with h3 | ⟨p, hp, h3⟩
      · by_cases hs : s ≤ lw (inOrd L a)
        · left; omega
        · right; exact ⟨a, by simp, by omega⟩
      · right; exact ⟨p, by simp [hp], h3⟩

end Go.Proofs.Ytofjfhifldafcaa

