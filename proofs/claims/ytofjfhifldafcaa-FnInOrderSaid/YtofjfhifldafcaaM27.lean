/- Plain mathematics of chapter 9, third part (ahead): orders of customers of two counters; the order by pairs; the least of all orders. -/
import Derived.Test.YtofjfhifldafcaaM26
namespace Go.Proofs.Ytofjfhifldafcaa
set_option linter.unusedVariables false
open Go.RowKit

def gB (L : List (Int × Int)) (v : Int) : Int × Int := (X L v.toNat, Y L v.toNat)
def inOrd (L : List (Int × Int)) (o : List Int) : List (Int × Int) := o.map (gB L)
theorem inOrd_upto (L : List (Int × Int)) : inOrd L (upto L.length) = L := by
  refine List.ext_getElem (by simp [inOrd, upto]) fun i h1 h2 => ?_
  simp only [inOrd, upto, List.getElem_map, List.getElem_range, gB, Int.toNat_natCast, X_get h2, Y_get h2]
theorem inOrd_perm {L : List (Int × Int)} {o : List Int} (h : o.Perm (upto L.length)) : (inOrd L o).Perm L := by
  have := h.map (gB L)
  rw [show (upto L.length).map (gB L) = L from inOrd_upto L] at this
  exact this
theorem inOrd_len (L : List (Int × Int)) (o : List Int) : (inOrd L o).length = o.length := by simp [inOrd]
theorem each_len {o : List Int} {n : Nat} (h : eachV o n = true) : o.length = n := by have := (each_iff.1 h).2.1; omega
def inOk (L : List (Int × Int)) (o : List Int) : Bool := bOk L && eachV o L.length
def inV (L : List (Int × Int)) (o : List Int) : List (Int × Int) := if inOk L o = true then inOrd L o else []
theorem inV_yes {L : List (Int × Int)} {o : List Int} (h : inOk L o = true) : inV L o = inOrd L o := if_pos h
theorem inV_no {L : List (Int × Int)} {o : List Int} (h : inOk L o = false) : inV L o = [] := by simp [inV, h]
theorem inOk_parts {L : List (Int × Int)} {o : List Int} (h : inOk L o = true) : bOk L = true ∧ eachV o L.length = true := by simpa [inOk] using h
theorem bOk_perm {L M : List (Int × Int)} (h : bOk L = true) (hp : L.Perm M) : bOk M = true := by
  have a := bOk_parts h
  have b := hp.length_eq
  exact bOk_of ((bOk_okB h).perm hp) (by omega) (by omega)
theorem bOk_inOrd {L : List (Int × Int)} {o : List Int} (h : bOk L = true) (ho : eachV o L.length = true) : bOk (inOrd L o) = true := bOk_perm h (inOrd_perm (each_perm ho)).symm
theorem long_inOrd {L : List (Int × Int)} {o : List Int} (h : bOk L = true) (ho : eachV o L.length = true) : longV (inOrd L o) = lw (inOrd L o) := longV_yes (bOk_inOrd h ho)

/-- the least of all orders that go on an order -/
def bestG (g : List Int → Int) (n : Nat) : Nat → List Int → Int
  | 0, o => g o
  | m + 1, o => minTo (fun k => bestG g n m (o ++ [(k : Int)])) (fun k => hasN o k o.length) n
theorem bestG_spec {g : List Int → Int} {n : Nat} (hn : 1 ≤ n ∧ n ≤ 6) (hg : ∀ p, eachV p n = true → 0 ≤ g p) : ∀ m o, o.length + m = n → o.Nodup → (∀ v, v ∈ o → 0 ≤ v ∧ v ≤ (n : Int) - 1) →
    (∃ p, eachV p n = true ∧ o <+: p ∧ bestG g n m o = g p) ∧ ∀ p, eachV p n = true → o <+: p → bestG g n m o ≤ g p := by
  intro m
  induction m with
  | zero =>
    intro o h1 h2 h3
    refine ⟨⟨o, each_iff.2 ⟨by omega, by omega, h3, h2⟩, List.prefix_refl _, rfl⟩, fun p hp hpre => ?_⟩
    have := (each_iff.1 hp).2.1
    rw [hpre.eq_of_length (by omega)]
    exact Int.le_refl _
  | succ m ih =>
    intro o h1 h2 h3
    have hnew : ∀ k : Nat, k < n → hasN o k o.length = false → (o ++ [(k : Int)]).length + m = n ∧ (o ++ [(k : Int)]).Nodup ∧ (∀ v, v ∈ o ++ [(k : Int)] → 0 ≤ v ∧ v ≤ (n : Int) - 1) := by
      intro k hk hs
      have hn : (k : Int) ∉ o := fun h => by rw [hasN_mem.2 h] at hs; cases hs
      refine ⟨by simp; omega, ?_, fun v hv => ?_⟩
      · refine List.nodup_append.2 ⟨h2, by simp, fun a ha b hb => ?_⟩
        simp at hb; subst hb
        intro e; exact hn (e ▸ ha)
      · rcases List.mem_append.1 hv with hv | hv
        · exact h3 v hv
        · simp at hv; subst hv; omega
    have hpos : ∀ k, k < n → hasN o k o.length = false → 0 ≤ bestG g n m (o ++ [(k : Int)]) := by
      intro k hk hs
      obtain ⟨a, b, c⟩ := hnew k hk hs
      obtain ⟨p, hp, _, e⟩ := (ih _ a b c).1
      rw [e]; exact hg p hp
    rcases minTo_spec (f := fun k => bestG g n m (o ++ [(k : Int)])) (s := fun k => hasN o k o.length) hpos with ⟨_, hall⟩ | ⟨k, hk, hs, he, hle⟩
    · exfalso
      have hn : (upto n).Nodup := by
        refine List.pairwise_iff_getElem.2 (fun i j hi hj hij => ?_)
        simp only [upto, List.getElem_map, List.getElem_range]; omega
      have := (perm_of_all (q := o) hn (fun v hv => by
        have b := mem_upto.1 hv
        have c := hall v.toNat (by omega)
        rw [show ((v.toNat : Nat) : Int) = v by omega] at c
        exact hasN_mem.1 c) (by rw [upto_len]; omega)).length_eq
      rw [upto_len] at this; omega
    · obtain ⟨a, b, c⟩ := hnew k hk hs
      obtain ⟨p, hp, hpre, e⟩ := (ih _ a b c).1
      refine ⟨⟨p, hp, (List.prefix_append _ _).trans hpre, he.trans e⟩, fun q hq hpq => ?_⟩
      obtain ⟨r, rfl⟩ := hpq
      have hq' := each_iff.1 hq
      cases r with
      | nil => simp at hq'; omega
      | cons v r =>
        have hv := hq'.2.2.1 v (by simp)
        have hnd := List.nodup_append.1 hq'.2.2.2
        have hvo : v ∉ o := fun h => hnd.2.2 v h v (by simp) rfl
        have hvs : hasN o ((v.toNat : Nat) : Int) o.length = false := by
          rw [show ((v.toNat : Nat) : Int) = v by omega]
          cases hh : hasN o v o.length with
          | false => rfl
          | true => exact absurd (hasN_mem.1 hh) hvo
        have x1 := hle v.toNat (by omega) hvs
        obtain ⟨a', b', c'⟩ := hnew v.toNat (by omega) hvs
        have x2 := (ih _ a' b' c').2 (o ++ v :: r) hq ⟨r, by rw [show ((v.toNat : Nat) : Int) = v by omega]; simp⟩
        have he' : bestG g n (m + 1) o = bestG g n m (o ++ [(k : Int)]) := he
        rw [he']; exact Int.le_trans x1 x2

/-- the order by pairs, as the model makes it -/
def lowG (L : List (Int × Int)) (n : Int) : Nat → List Int
  | 0 => []
  | k + 1 => if X L k ≤ Y L k ∧ X L k = n then lowG L n k ++ [(k : Int)] else lowG L n k
def highG (L : List (Int × Int)) (n : Int) : Nat → List Int
  | 0 => []
  | k + 1 => if Y L k < X L k ∧ Y L k = n then highG L n k ++ [(k : Int)] else highG L n k
/-- the first group for the needs 1 .. m; the second one for 9 .. 10 - m -/
def lowTo (L : List (Int × Int)) : Nat → List Int
  | 0 => []
  | m + 1 => lowTo L m ++ lowG L (m + 1 : Nat) L.length
def highTo (L : List (Int × Int)) : Nat → List Int
  | 0 => []
  | m + 1 => highTo L m ++ highG L (9 - m : Int) L.length
def pairsR (L : List (Int × Int)) : List Int := lowTo L 9 ++ highTo L 9
theorem lowG_mem {L : List (Int × Int)} {n v : Int} : ∀ {k}, v ∈ lowG L n k ↔ 0 ≤ v ∧ v < k ∧ X L v.toNat ≤ Y L v.toNat ∧ X L v.toNat = n := by
  intro k
  induction k with
  | zero => simp [lowG]; omega
  | succ k ih =>
    rw [lowG]
    split
    · rename_i h
      rw [List.mem_append, ih, List.mem_singleton]
      constructor
      · rintro (⟨a, b, c⟩ | rfl)
        · exact ⟨a, by omega, c⟩
        · exact ⟨by omega, by omega, by simpa using h⟩
      · rintro ⟨a, b, c⟩
        by_cases e : v = (k : Int)
        · exact Or.inr e
        · exact Or.inl ⟨a, by omega, c⟩
    · rename_i h
      rw [ih]
      constructor
      · rintro ⟨a, b, c⟩; exact ⟨a, by omega, c⟩
      · rintro ⟨a, b, c⟩
        refine ⟨a, ?_, c⟩
        by_cases e : v = (k : Int)
        · subst e; exact absurd (by simpa using c) h
        · omega
theorem highG_mem {L : List (Int × Int)} {n v : Int} : ∀ {k}, v ∈ highG L n k ↔ 0 ≤ v ∧ v < k ∧ Y L v.toNat < X L v.toNat ∧ Y L v.toNat = n := by
  intro k
  induction k with
  | zero => simp [highG]; omega
  | succ k ih =>
    rw [highG]
    split
    · rename_i h
      rw [List.mem_append, ih, List.mem_singleton]
      constructor
      · rintro (⟨a, b, c⟩ | rfl)
        · exact ⟨a, by omega, c⟩
        · exact ⟨by omega, by omega, by simpa using h⟩
      · rintro ⟨a, b, c⟩
        by_cases e : v = (k : Int)
        · exact Or.inr e
        · exact Or.inl ⟨a, by omega, c⟩
    · rename_i h
      rw [ih]
      constructor
      · rintro ⟨a, b, c⟩; exact ⟨a, by omega, c⟩
      · rintro ⟨a, b, c⟩
        refine ⟨a, ?_, c⟩
        by_cases e : v = (k : Int)
        · subst e; exact absurd (by simpa using c) h
        · omega
theorem lowG_nodup (L : List (Int × Int)) (n : Int) : ∀ k, (lowG L n k).Nodup := by
  intro k
  induction k with
  | zero => simp [lowG]
  | succ k ih =>
    rw [lowG]
    split
    · refine List.nodup_append.2 ⟨ih, by simp, fun a ha b hb => ?_⟩
      have := lowG_mem.1 ha
      simp at hb; omega
    · exact ih
theorem highG_nodup (L : List (Int × Int)) (n : Int) : ∀ k, (highG L n k).Nodup := by
  intro k
  induction k with
  | zero => simp [highG]
  | succ k ih =>
    rw [highG]
    split
    · refine List.nodup_append.2 ⟨ih, by simp, fun a ha b hb => ?_⟩
      have := highG_mem.1 ha
      simp at hb; omega
    · exact ih
theorem lowTo_mem {L : List (Int × Int)} {v : Int} : ∀ {m}, v ∈ lowTo L m ↔ 0 ≤ v ∧ v < L.length ∧ X L v.toNat ≤ Y L v.toNat ∧ 1 ≤ X L v.toNat ∧ X L v.toNat ≤ m := by
  intro m
  induction m with
  | zero => simp [lowTo]; omega
  | succ m ih => rw [lowTo, List.mem_append, ih, lowG_mem]; omega
theorem highTo_mem {L : List (Int × Int)} {v : Int} : ∀ {m}, m ≤ 9 → (v ∈ highTo L m ↔ 0 ≤ v ∧ v < L.length ∧ Y L v.toNat < X L v.toNat ∧ Y L v.toNat ≤ 9 ∧ 10 - m ≤ Y L v.toNat) := by
  intro m
  induction m with
  | zero => intro _; simp [highTo]; omega
  | succ m ih => intro h; rw [highTo, List.mem_append, ih (by omega), highG_mem]; omega
theorem lowTo_good (L : List (Int × Int)) : ∀ m, (lowTo L m).Nodup ∧ (lowTo L m).Pairwise fun a b => X L a.toNat ≤ X L b.toNat := by
  intro m
  induction m with
  | zero => simp [lowTo]
  | succ m ih =>
    rw [lowTo]
    refine ⟨List.nodup_append.2 ⟨ih.1, lowG_nodup L _ _, fun a ha b hb => ?_⟩, List.pairwise_append.2 ⟨ih.2, ?_, fun a ha b hb => ?_⟩⟩
    · have := lowTo_mem.1 ha; have := lowG_mem.1 hb; intro e; subst e; omega
    · exact List.pairwise_of_forall_mem_list fun a ha b hb => by have := lowG_mem.1 ha; have := lowG_mem.1 hb; omega
    · have := lowTo_mem.1 ha; have := lowG_mem.1 hb; omega
theorem highTo_good (L : List (Int × Int)) : ∀ m, m ≤ 9 → (highTo L m).Nodup ∧ (highTo L m).Pairwise fun a b => Y L b.toNat ≤ Y L a.toNat := by
  intro m
  induction m with
  | zero => intro _; simp [highTo]
  | succ m ih =>
    intro h
    have ih := ih (by omega)
    rw [highTo]
    refine ⟨List.nodup_append.2 ⟨ih.1, highG_nodup L _ _, fun a ha b hb => ?_⟩, List.pairwise_append.2 ⟨ih.2, ?_, fun a ha b hb => ?_⟩⟩
    · have := (highTo_mem (by omega)).1 ha; have := highG_mem.1 hb; intro e; subst e; omega
    · exact List.pairwise_of_forall_mem_list fun a ha b hb => by have := highG_mem.1 ha; have := highG_mem.1 hb; omega
    · have := (highTo_mem (by omega)).1 ha; have := highG_mem.1 hb; omega
theorem upto_nodup (n : Nat) : (upto n).Nodup := by
  refine List.pairwise_iff_getElem.2 (fun i j hi hj hij => ?_)
  simp only [upto, List.getElem_map, List.getElem_range]; omega
theorem pairsR_perm {L : List (Int × Int)} (h : bOk L = true) : (pairsR L).Perm (upto L.length) := by
  have hp := (bOk_parts h).1
  have hnd : (pairsR L).Nodup := List.nodup_append.2 ⟨(lowTo_good L 9).1, (highTo_good L 9 (by omega)).1, fun a ha b hb => by
    have := lowTo_mem.1 ha; have := (highTo_mem (by omega)).1 hb; intro e; subst e; omega⟩
  have hin : ∀ v, v ∈ pairsR L → v ∈ upto L.length := fun v hv => by
    rcases List.mem_append.1 hv with hv | hv
    · have := lowTo_mem.1 hv; exact mem_upto.2 ⟨by omega, by omega⟩
    · have := (highTo_mem (by omega)).1 hv; exact mem_upto.2 ⟨by omega, by omega⟩
  have hout : ∀ v, v ∈ upto L.length → v ∈ pairsR L := fun v hv => by
    have b := mem_upto.1 hv
    have := hp v.toNat (by omega)
    by_cases hx : X L v.toNat ≤ Y L v.toNat
    · exact List.mem_append.2 (Or.inl (lowTo_mem.2 ⟨by omega, by omega, hx, by omega, by omega⟩))
    · exact List.mem_append.2 (Or.inr ((highTo_mem (by omega)).2 ⟨by omega, by omega, by omega, by omega, by omega⟩))
  have hlen : (upto L.length).length ≤ (pairsR L).length := by
    rcases Nat.lt_or_ge (pairsR L).length (upto L.length).length with hc | hc
    · have := (perm_of_all (upto_nodup _) hout (Nat.le_of_lt hc)).length_eq; omega
    · exact hc
  exact perm_of_all hnd hin hlen
theorem pairsR_each {L : List (Int × Int)} (h : bOk L = true) : eachV (pairsR L) L.length = true := by
  have hp := bOk_parts h
  have hq := pairsR_perm h
  refine each_iff.2 ⟨by omega, by rw [hq.length_eq, upto_len], fun v hv => ?_, (hq.nodup_iff).2 (upto_nodup _)⟩
  have := mem_upto.1 (hq.mem_iff.1 hv)
  omega
theorem keyB_low {L : List (Int × Int)} {v : Int} (h : X L v.toNat ≤ Y L v.toNat) : keyB (gB L v) = X L v.toNat := if_pos h
theorem keyB_high {L : List (Int × Int)} {v : Int} (h : Y L v.toNat < X L v.toNat) : keyB (gB L v) = 20 - Y L v.toNat := if_neg (show ¬ X L v.toNat ≤ Y L v.toNat by omega)
theorem pairsR_sorted {L : List (Int × Int)} (h : bOk L = true) : (inOrd L (pairsR L)).Pairwise fun a b => keyB a ≤ keyB b := by
  have hp := (bOk_parts h).1
  rw [inOrd, List.pairwise_map]
  refine List.pairwise_append.2 ⟨?_, ?_, fun a ha b hb => ?_⟩
  · refine ((lowTo_good L 9).2.and (List.pairwise_of_forall_mem_list (r := fun a b => a ∈ lowTo L 9 ∧ b ∈ lowTo L 9) fun a ha b hb => ⟨ha, hb⟩)).imp fun {a b} hab => ?_
    have x1 := lowTo_mem.1 hab.2.1
    have x2 := lowTo_mem.1 hab.2.2
    rw [keyB_low x1.2.2.1, keyB_low x2.2.2.1]
    exact hab.1
  · refine ((highTo_good L 9 (by omega)).2.and (List.pairwise_of_forall_mem_list (r := fun a b => a ∈ highTo L 9 ∧ b ∈ highTo L 9) fun a ha b hb => ⟨ha, hb⟩)).imp fun {a b} hab => ?_
    have x1 := (highTo_mem (by omega)).1 hab.2.1
    have x2 := (highTo_mem (by omega)).1 hab.2.2
    have := hab.1
    rw [keyB_high x1.2.2.1, keyB_high x2.2.2.1]
    omega
  · have x1 := lowTo_mem.1 ha
    have x2 := (highTo_mem (by omega)).1 hb
    rw [keyB_low x1.2.2.1, keyB_high x2.2.2.1]
    omega
/-- A RULE ON PAIRS TAKES LEAST -/
theorem pairsR_least {L : List (Int × Int)} (h : bOk L = true) {p : List Int} (hp : eachV p L.length = true) : lw (inOrd L (pairsR L)) ≤ lw (inOrd L p) := by
  refine lw_least (bOk_okB (bOk_inOrd h hp)) ?_ (pairsR_sorted h)
  exact ((pairsR_perm h).trans (each_perm hp).symm).map (gB L)
def pairsV (L : List (Int × Int)) : List Int := if bOk L = true then pairsR L else []
theorem pairsV_yes {L : List (Int × Int)} (h : bOk L = true) : pairsV L = pairsR L := if_pos h
theorem pairsV_no {L : List (Int × Int)} (h : bOk L = false) : pairsV L = [] := by simp [pairsV, h]
def leastB (L : List (Int × Int)) : Int := if bOk L = true then bestG (fun o => lw (inOrd L o)) L.length L.length [] else -1
theorem leastB_yes {L : List (Int × Int)} (h : bOk L = true) : leastB L = bestG (fun o => lw (inOrd L o)) L.length L.length [] := if_pos h
theorem leastB_no {L : List (Int × Int)} (h : bOk L = false) : leastB L = -1 := by simp [leastB, h]
theorem leastB_pairs {L : List (Int × Int)} (h : bOk L = true) : leastB L = lw (inOrd L (pairsR L)) := by
  obtain ⟨⟨p, hp, _, e⟩, hle⟩ := bestG_spec (g := fun o => lw (inOrd L o)) (bOk_parts h).2 (fun p hp => lw_nn (bOk_okB (bOk_inOrd h hp))) L.length [] (by simp) (by simp) (by simp)
  have x1 := hle _ (pairsR_each h) (List.nil_prefix)
  have x2 := pairsR_least h hp
  rw [leastB_yes h]; omega
theorem leastB_le {L : List (Int × Int)} (h : bOk L = true) {p : List Int} (hp : eachV p L.length = true) : leastB L ≤ lw (inOrd L p) := by
  rw [leastB_pairs h]; exact pairsR_least h hp

end Go.Proofs.Ytofjfhifldafcaa

