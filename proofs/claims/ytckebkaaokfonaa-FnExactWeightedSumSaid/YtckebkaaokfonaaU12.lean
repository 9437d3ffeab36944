/- Chapter 7's functions of the program, second part: WeightedSum (fold with what a closure keeps), ByRatio (a stable sort by insertion). -/
import Derived.Test.YtckebkaaokfonaaU11
namespace Go.Proofs.Ytckebkaaokfonaa
set_option linter.unusedVariables false
open Go.RowKit
attribute [local go_sem ↓] Go.wp_at_zero Go.wp_at_succ

/-! WeightedSum -/
set_option maxRecDepth 4000 in
set_option maxHeartbeats 1000000 in
theorem c_weigh (L : List (Int × Int)) (A : Option Addr) (c B : Nat) (s t : Int) (p : Nat) (Be Bl : Nat) (w : World) (hA : Cs w B A L) (hp : p < L.length) (ht : 0 ≤ t ∧ t ≤ 1000) (hs : 0 ≤ s ∧ s ≤ 100000) (hX : 1 ≤ X L p ∧ X L p ≤ 9) (hY : 0 ≤ Y L p ∧ Y L p ≤ 9)
    (hl : w.cell? ⟨Bl, 0, none⟩ = some (.slice A L.length c)) (he : w.cell? ⟨Be, 0, none⟩ = some (.int .i64 t)) (hf : w.frozen? ⟨Be, 0, none⟩ = false) (hB : B ≤ Be) (hne : Bl < Be) (hz : Be < w.heap.size) :
    Calls Try.prog 55 #[.int .i64 s, .int .i64 (p : Int), .pointer (some ⟨Be, 0, none⟩), .pointer (some ⟨Bl, 0, none⟩)] w fun e w' => e = .returned (.int .i64 (s + (t + X L p) * Y L p)) ∧ Below Be w w' ∧ w'.cell? ⟨Be, 0, none⟩ = some (.int .i64 (t + X L p)) ∧ w'.frozen? ⟨Be, 0, none⟩ = false := by
  obtain ⟨b, off, rfl, hlb, hc⟩ := hA (by omega)
  have c1 := (hc p hp).1
  have c2 := (hc p hp).2
  clear hc
  have m1 : 0 ≤ Y L p * (t + X L p) := Int.mul_nonneg (by omega) (by omega)
  have m2 : Y L p * (t + X L p) ≤ 9 * 1009 := Int.mul_le_mul (by omega) (by omega) (by omega) (by omega)
  have q1 : IntKind.i64.wrap (t + X L p) = t + X L p := IntWalk.i64_in _ (by omega)
  have q2 : IntKind.i64.wrap (Y L p * (t + X L p)) = Y L p * (t + X L p) := IntWalk.i64_in _ (by omega)
  have q3 : IntKind.i64.wrap (s + Y L p * (t + X L p)) = s + Y L p * (t + X L p) := IntWalk.i64_in _ (by omega)
  have HC := Lib.hid (Int.mul_comm (t + X L p) (Y L p))
  have p1 : (0 : Int) ≤ (p : Int) := by omega
  have p2 : (p : Int) < (L.length : Int) := by omega
  have e1 : (w.setCell ⟨Be, 0, none⟩ (.int .i64 (t + X L p))).cell? ⟨Be, 0, none⟩ = some (.int .i64 (t + X L p)) := World.cell?_setCell_same' _ _ _ (by rw [he]; rfl)
  have hb : Below Be w (w.setCell ⟨Be, 0, none⟩ (.int .i64 (t + X L p))) := (Below.refl _ w).setCell (p := ⟨Be, 0, none⟩) (Nat.le_refl _) _
  have e2 := (hb.cell (p := ⟨Bl, 0, none⟩) hne).trans hl
  have e3 := (hb.cell (p := ⟨b, off + p * 2 + 1, none⟩) (show b < Be by omega)).trans c2
  have e4 : (w.setCell ⟨Be, 0, none⟩ (.int .i64 (t + X L p))).frozen? ⟨Be, 0, none⟩ = false := by rw [World.frozen?_setCell]; exact hf
  have HB := Lib.hid hb
  clear m1 m2 hs ht hX hY hb
  go_enter Try.func55, Try.ntmps55
  go_wp2_with fail
  go_region
  go_wp2_with fail
  go_region
  go_wp2_with fail
  go_ret
  rw [HC.out]
  exact ⟨rfl, by (repeat (first | exact HB.out | exact Below.refl _ _ | (with_reducible refine Below.drew ?_) | (with_reducible refine Below.drewN ?_ _) | (with_reducible refine Below.alloc ?_ ?_ _) | (with_reducible refine Below.setCell ?_ ?_ _) | (show _ ≤ _; focus (first | omega | (simp; done) | (simp; omega))))), e1, e4⟩

set_option maxRecDepth 4000 in
set_option maxHeartbeats 2000000 in
theorem c_foldW (L : List (Int × Int)) (o : List Int) (A O : Option Addr) (c d B : Nat) (Be Bl : Nat) (w : World) (ht : tOk L = true) (he : eachV o L.length = true) (hA : Cs w B A L) (hO : Is w B O o)
    (hl : w.cell? ⟨Bl, 0, none⟩ = some (.slice A L.length c)) (h0 : w.cell? ⟨Be, 0, none⟩ = some (.int .i64 0)) (hf : w.frozen? ⟨Be, 0, none⟩ = false) (hB : B ≤ Be) (hne : Bl < Be) (hz : Be < w.heap.size) :
    Calls Try.prog 54 #[.slice O o.length d, .int .i64 0, .func (.func 55) #[] #[.pointer (some ⟨Be, 0, none⟩), .pointer (some ⟨Bl, 0, none⟩)]] w fun e w' => e = .returned (.int .i64 (wsumV L o)) ∧ Below Be w w' := by
  have HV := Lib.hid (wsumV_yes ht he)
  have hl6 := (tOk_parts ht).2
  have hol := (each_iff.1 he).2.1
  have HBD := Lib.hid (fun k hk => wsW_bd ht he (k := k) hk)
  have HZ := Lib.hid (fun k (hk : k < o.length) => each_Z he hk)
  have HT := Lib.hid (fun i (hi : i < L.length) => (tOk_parts ht).1 i hi)
  clear ht he
  go_enter Try.func54, Try.ntmps54
  go_wp2_with fail
  go_loopw [7, 13] (fun a i wr => ∃ k : Nat, k ≤ o.length ∧ i = .int .i64 k ∧ a = .int .i64 (wsW L o k) ∧ Below Be w wr ∧ wr.cell? ⟨Be, 0, none⟩ = some (.int .i64 (tmW L o k)) ∧ wr.frozen? ⟨Be, 0, none⟩ = false) (fun _ i _ => o.length - (intOf i).toNat)
  case atStart => exact ⟨0, Nat.zero_le _, rfl, rfl, Below.refl _ _, h0, hf⟩
  case round =>
    obtain ⟨k, hk, rfl, rfl, hb, hbe, hbf⟩ := hrel
    by_cases hlt : k < o.length
    · obtain ⟨b, off, rfl, hlb, hc⟩ := hO (by omega)
      have c1 := (hb.cell (p := ⟨b, off + k, none⟩) (show b < Be by omega)).trans (hc k hlt)
      clear hc
      have hsz := hb.size
      have z := HZ.out k hlt
      obtain ⟨p, hp⟩ : ∃ p : Nat, Z o k = (p : Int) := ⟨(Z o k).toNat, by omega⟩
      have hpl : p < L.length := by omega
      have bd := HBD.out k hk
      have hx := HT.out p hpl
      have HS := Lib.hid (show tmW L o k + X L p = tmW L o (k + 1) ∧ wsW L o k + (tmW L o k + X L p) * Y L p = wsW L o (k + 1) from by
        constructor
        · simp only [tmW, nd, hp, Int.toNat_natCast]
        · simp only [wsW, tmW, nd, wt, hp, Int.toNat_natCast])
      have HW := Lib.hid (c_weigh L A c B (wsW L o k) (tmW L o k) p Be Bl wr (hA.below (hb.mono hB)) hpl (by omega) (by omega) hx.1 hx.2 ((hb.cell (p := ⟨Bl, 0, none⟩) hne).trans hl) hbe hbf hB hne (by omega))
      rw [hp] at c1
      clear z bd hx hbe hbf hp
      go_wp2_with fail
      refine HW.out.mono ?_
      rintro e w1 ⟨rfl, hb1, he1, hf1⟩
      go_wp2_with fail
      go_roundw
      case rel => exact ⟨k + 1, by omega, by go_num, by rw [HS.out.2], hb.trans hb1, by rw [← HS.out.1]; exact he1, hf1⟩
      case measure => simp [intOf]; omega
    · go_wp2_with fail
      go_ret
      obtain rfl : k = o.length := by omega
      exact ⟨by rw [HV.out]; rfl, hb⟩

set_option maxRecDepth 4000 in
set_option maxHeartbeats 2000000 in
theorem c_iWeightedSum (L : List (Int × Int)) (o : List Int) (A O : Option Addr) (c d : Nat) (w : World) (hA : Cs w w.heap.size A L) (hO : Is w w.heap.size O o) (hn : L.length ≤ 140737488351232) (ho : o.length ≤ 140737488351232) :
    Calls Try.prog 24 #[.slice A L.length c, .slice O o.length d] w fun e w' => e = .returned (.int .i64 (wsumV L o)) ∧ Below w.heap.size w w' := by
  have hb0 : Below w.heap.size w (w.alloc (.cells #[.slice A L.length c] 23)) := by (repeat (first | exact rfl | exact Below.refl _ _ | (with_reducible refine Below.drew ?_) | (with_reducible refine Below.drewN ?_ _) | (with_reducible refine Below.alloc ?_ ?_ _) | (with_reducible refine Below.setCell ?_ ?_ _) | (show _ ≤ _; focus (first | omega | (simp; done) | (simp; omega)))))
  have hl0 : (w.alloc (.cells #[.slice A L.length c] 23)).cell? ⟨w.heap.size, 0, none⟩ = some (.slice A L.length c) := by have := heap_alloc_new w (.cells #[.slice A L.length c] 23); simp only [World.cell?, this]; rfl
  have hz0 : (w.alloc (.cells #[.slice A L.length c] 23)).heap.size = w.heap.size + 1 := by simp
  have HT := Lib.hid (c_iTasksOk L A c _ ((hA.below hb0).more hb0.size) hn)
  by_cases ht : tOk L = true
  · have H := Lib.hid ht
    have HE := Lib.hid (fun (w' : World) (hb : Below w.heap.size w w') => c_iEachOnce o O d (L.length : Int) w' ((hO.below hb).more hb.size) ho)
    by_cases he : eachV o (L.length : Int) = true
    · have H2 := Lib.hid he
      have hne := Lib.hid (fun (w' : World) (hb : Below (w.heap.size + 1) (w.alloc (.cells #[.slice A L.length c] 23)) w') => show w'.cell? ⟨w.heap.size, 0, none⟩ = some (.slice A L.length c) from (hb.cell (p := ⟨w.heap.size, 0, none⟩) (by simp)).trans hl0)
      clear ht he
      go_enter Try.func24, Try.ntmps24
      go_wp2_with fail
      refine HT.out.mono ?_
      rintro e w1 ⟨rfl, hb1⟩
      rw [H.out]
      rw [hz0] at hb1
      have hx1 := hb0.trans (hb1.mono (by omega))
      have hl1 := hne.out _ hb1
      have hs1 := hb1.size
      rw [hz0] at hs1
      go_wp2_with fail
      refine (HE.out _ hx1).mono ?_
      rintro e w2 ⟨rfl, hb2⟩
      rw [H2.out]
      have hs2 := hb2.size
      have hx2 := hx1.trans (hb2.mono (by omega))
      have hl2 := (hb2.cell (p := ⟨w.heap.size, 0, none⟩) (show w.heap.size < w1.heap.size by omega)).trans hl1
      have hn2 := heap_alloc_new w2 (.cells #[.int .i64 0] 3)
      have hx3 : Below w.heap.size w (w2.alloc (.cells #[.int .i64 0] 3)) := hx2.alloc (by omega) _
      have HF := Lib.hid (c_foldW L o A O c d w.heap.size w2.heap.size w.heap.size (w2.alloc (.cells #[.int .i64 0] 3)) H.out H2.out (hA.below hx3) (hO.below hx3)
        (((Below.refl w2.heap.size w2).alloc (Nat.le_refl _) _).cell (p := ⟨w.heap.size, 0, none⟩) (show w.heap.size < w2.heap.size by omega) |>.trans hl2)
        (by simp only [World.cell?, hn2]; rfl) (by simp only [World.frozen?, hn2]; rfl) (by omega) (by omega) (by simp))
      clear hb1 hb2 hl1 hl0 hne hb0 HT HE hn2
      go_wp2_with fail
      refine HF.out.mono ?_
      rintro e w3 ⟨rfl, hb3⟩
      go_wp2_with fail
      go_ret
      exact ⟨rfl, hx3.trans (hb3.mono (by omega))⟩
    · have hno : eachV o (L.length : Int) = false := by simpa using he
      have H2 := Lib.hid hno
      have HV := Lib.hid (wsumV_no (L := L) (o := o) (fun h => he h.2))
      have hne := Lib.hid (fun (w' : World) (hb : Below (w.heap.size + 1) (w.alloc (.cells #[.slice A L.length c] 23)) w') => show w'.cell? ⟨w.heap.size, 0, none⟩ = some (.slice A L.length c) from (hb.cell (p := ⟨w.heap.size, 0, none⟩) (by simp)).trans hl0)
      clear ht he hno
      go_enter Try.func24, Try.ntmps24
      go_wp2_with fail
      refine HT.out.mono ?_
      rintro e w1 ⟨rfl, hb1⟩
      rw [H.out]
      rw [hz0] at hb1
      have hx1 := hb0.trans (hb1.mono (by omega))
      have hl1 := hne.out _ hb1
      go_wp2_with fail
      refine (HE.out _ hx1).mono ?_
      rintro e w2 ⟨rfl, hb2⟩
      rw [H2.out]
      go_wp2_with fail
      go_ret
      exact ⟨by rw [HV.out]; rfl, hx1.trans (hb2.mono hx1.size)⟩
  · have hno : tOk L = false := by simpa using ht
    have H := Lib.hid hno
    have HV := Lib.hid (wsumV_no (L := L) (o := o) (fun h => ht h.1))
    clear ht hno
    go_enter Try.func24, Try.ntmps24
    go_wp2_with fail
    refine HT.out.mono ?_
    rintro e w1 ⟨rfl, hb1⟩
    rw [H.out]
    rw [hz0] at hb1
    go_wp2_with fail
    go_ret
    exact ⟨by rw [HV.out]; rfl, hb0.trans (hb1.mono (by omega))⟩

/-! ByRatio -/
theorem ext_Z {a b : List Int} (hl : a.length = b.length) (h : ∀ k, k < a.length → Z a k = Z b k) : a = b := by
  refine List.ext_getElem hl (fun i h1 h2 => ?_)
  have := h i h1
  rwa [Z_get h1, Z_get h2] at this
/-- the row of n while i is put in, at j: what is ahead of i by ratios, and behind it as it was -/
def rowI (L : List (Int × Int)) (n i j : Nat) : List Int := (List.range n).map fun p => if p < j then Z (byR L i) p else if p = j then (i : Int) else if p ≤ i then Z (byR L i) (p - 1) else (p : Int)
theorem rowI_len (L : List (Int × Int)) (n i j : Nat) : (rowI L n i j).length = n := by simp [rowI]
theorem rowI_Z (L : List (Int × Int)) {n i j p : Nat} (h : p < n) : Z (rowI L n i j) p = if p < j then Z (byR L i) p else if p = j then (i : Int) else if p ≤ i then Z (byR L i) (p - 1) else (p : Int) := by simp [Z, rowI, h]
theorem rowI_swap (L : List (Int × Int)) {n i j : Nat} (hj : 0 < j) (hji : j ≤ i) (hi : i < n) : exL (rowI L n i j) j (j - 1) = rowI L n i (j - 1) := by
  refine ext_Z (by rw [exL_len, rowI_len, rowI_len]) (fun p hp => ?_)
  rw [exL_len, rowI_len] at hp
  rw [exL_Z (by rw [rowI_len]; omega) (by rw [rowI_len]; omega), rowI_Z L hp, rowI_Z L hp, rowI_Z L (show j < n by omega), rowI_Z L (show j - 1 < n by omega)]
  by_cases e1 : j - 1 = p
  · subst e1
    rw [if_pos rfl, if_neg (by omega), if_pos rfl, if_neg (by omega), if_pos rfl]
  · rw [if_neg e1]
    by_cases e2 : j = p
    · subst e2
      rw [if_pos rfl, if_pos (by omega), if_neg (by omega), if_neg (by omega), if_pos (by omega)]
    · rw [if_neg e2]
      by_cases e3 : p < j
      · rw [if_pos e3, if_pos (by omega)]
      · rw [if_neg e3, if_neg (show ¬ p = j by omega), if_neg (show ¬ p < j - 1 by omega), if_neg (show ¬ p = j - 1 by omega)]
theorem insR_Z (L : List (Int × Int)) (o : List Int) (k : Int) (p : Nat) (hp : p < o.length + 1) : Z (insR L o k) p = if p < posTo L o k o.length then Z o p else if p = posTo L o k o.length then k else Z o (p - 1) := by
  have hl := posTo_le L o k o.length
  unfold insR
  generalize posTo L o k o.length = j at *
  have ht : (o.take j).length = j := by rw [List.length_take]; omega
  unfold Z
  simp only [List.getD_eq_getElem?_getD]
  by_cases h1 : p < j
  · rw [if_pos h1, List.getElem?_append_left (by omega), List.getElem?_take_of_lt h1]
  · rw [if_neg h1, List.getElem?_append_right (by omega), ht]
    by_cases h2 : p = j
    · subst h2; simp
    · rw [if_neg h2]
      obtain ⟨q, rfl⟩ : ∃ q, p = j + 1 + q := ⟨p - j - 1, by omega⟩
      rw [show j + 1 + q - j = q + 1 by omega, List.getElem?_cons_succ, List.getElem?_drop]
      rw [show j + 1 + q - 1 = j + q by omega]
theorem rowI_next (L : List (Int × Int)) {n i j : Nat} (hi : i < n) (hp : posTo L (byR L i) i i = j) : rowI L n i j = rowI L n (i + 1) (i + 1) := by
  have hj := posTo_le L (byR L i) i i
  refine ext_Z (by rw [rowI_len, rowI_len]) (fun p hpn => ?_)
  rw [rowI_len] at hpn
  rw [rowI_Z L hpn, rowI_Z L hpn]
  by_cases h1 : p < i + 1
  · rw [if_pos h1, show byR L (i + 1) = insR L (byR L i) i from rfl, insR_Z L _ _ _ (by rw [byR_len]; exact h1), byR_len, hp]
    by_cases h2 : p < j
    · rw [if_pos h2, if_pos h2]
    · rw [if_neg h2, if_neg h2]
      by_cases h3 : p = j
      · rw [if_pos h3, if_pos h3]
      · rw [if_neg h3, if_neg h3, if_pos (by omega)]
  · rw [if_neg h1, if_neg (by omega), if_neg (by omega), if_neg (by omega)]
    by_cases h2 : p = i + 1
    · rw [if_pos h2]; subst h2; rfl
    · rw [if_neg h2, if_neg (by omega)]
theorem rowI_first (L : List (Int × Int)) {n : Nat} : upto n = rowI L n 1 1 := by
  refine ext_Z (by rw [upto_len, rowI_len]) (fun p hp => ?_)
  rw [upto_len] at hp
  rw [rowI_Z L hp]
  have e : Z (upto n) p = (p : Int) := by simp [Z, upto, hp]
  rw [e]
  by_cases h1 : p < 1
  · rw [if_pos h1]
    obtain rfl : p = 0 := by omega
    rfl
  · rw [if_neg h1]
    by_cases h2 : p = 1
    · rw [if_pos h2]; subst h2; rfl
    · rw [if_neg h2, if_neg (by omega)]
theorem rowI_last (L : List (Int × Int)) (n : Nat) : rowI L n n n = byR L n := by
  refine ext_Z (by rw [rowI_len, byR_len]) (fun p hp => ?_)
  rw [rowI_len] at hp
  rw [rowI_Z L hp, if_pos hp]

set_option maxHeartbeats 1000000 in
theorem c_ratioTo (x1 y1 x2 y2 : Int) (w : World) (h1 : 1 ≤ x1 ∧ x1 ≤ 9) (h2 : 0 ≤ y1 ∧ y1 ≤ 9) (h3 : 1 ≤ x2 ∧ x2 ≤ 9) (h4 : 0 ≤ y2 ∧ y2 ≤ 9) :
    Calls Try.prog 62 #[.agg #[.int .i64 x1, .int .i64 y1], .agg #[.int .i64 x2, .int .i64 y2]] w fun e w' => e = .returned (.int .i64 (x1 * y2 - x2 * y1)) ∧ Below w.heap.size w w' := by
  have m1 : 0 ≤ x1 * y2 := Int.mul_nonneg (by omega) (by omega)
  have m2 : x1 * y2 ≤ 9 * 9 := Int.mul_le_mul (by omega) (by omega) (by omega) (by omega)
  have m3 : 0 ≤ x2 * y1 := Int.mul_nonneg (by omega) (by omega)
  have m4 : x2 * y1 ≤ 9 * 9 := Int.mul_le_mul (by omega) (by omega) (by omega) (by omega)
  have q1 : IntKind.i64.wrap (x1 * y2) = x1 * y2 := IntWalk.i64_in _ (by omega)
  have q2 : IntKind.i64.wrap (x2 * y1) = x2 * y1 := IntWalk.i64_in _ (by omega)
  have q3 : IntKind.i64.wrap (x1 * y2 - x2 * y1) = x1 * y2 - x2 * y1 := IntWalk.i64_in _ (by omega)
  clear m1 m2 m3 m4
  go_enter Try.func62, Try.ntmps62
  go_wp2_with fail
  go_ret
  exact ⟨rfl, by (repeat (first | exact rfl | exact Below.refl _ _ | (with_reducible refine Below.drew ?_) | (with_reducible refine Below.drewN ?_ _) | (with_reducible refine Below.alloc ?_ ?_ _) | (with_reducible refine Below.setCell ?_ ?_ _) | (show _ ≤ _; focus (first | omega | (simp; done) | (simp; omega)))))⟩

set_option maxHeartbeats 1000000 in
theorem c_ratioCmp (L : List (Int × Int)) (A : Option Addr) (c p q Bl : Nat) (w : World) (ht : tOk L = true) (hA : Cs w w.heap.size A L) (hp : p < L.length) (hq : q < L.length) (hl : w.cell? ⟨Bl, 0, none⟩ = some (.slice A L.length c)) :
    Calls Try.prog 61 #[.int .i64 (p : Int), .int .i64 (q : Int), .pointer (some ⟨Bl, 0, none⟩)] w fun e w' => e = .returned (.int .i64 (X L p * Y L q - X L q * Y L p)) ∧ Below w.heap.size w w' := by
  obtain ⟨b, off, rfl, hlb, hc⟩ := hA (by omega)
  have hbl : Bl < w.heap.size := by
    cases h : w.heap[Bl]? with
    | none => simp [World.cell?, h] at hl
    | some o => exact (Array.getElem?_eq_some_iff.1 h).1
  have c1 := hc p hp
  have c2 := hc q hq
  have p1 : (0 : Int) ≤ (p : Int) := by omega
  have p2 : (p : Int) < (L.length : Int) := by omega
  have p3 : (0 : Int) ≤ (q : Int) := by omega
  have p4 : (q : Int) < (L.length : Int) := by omega
  have b1 := (tOk_parts ht).1 p hp
  have b2 := (tOk_parts ht).1 q hq
  have HK := Lib.hid (fun W => c_ratioTo (X L p) (Y L p) (X L q) (Y L q) W b1.1 b1.2 b2.1 b2.2)
  have cs0 := WB.cell (B := w.heap.size) (w := w) hbl hl
  have cs1 := WB.cell (B := w.heap.size) (w := w) hlb c1.1
  have cs2 := WB.cell (B := w.heap.size) (w := w) hlb c1.2
  have cs3 := WB.cell (B := w.heap.size) (w := w) hlb c2.1
  have cs4 := WB.cell (B := w.heap.size) (w := w) hlb c2.2
  clear hc c1 c2 b1 b2 ht hl
  go_enter Try.func61, Try.ntmps61
  go_wp2_with fail
  refine wp_region_wb w.heap.size (by kernel_rfl) (by kernel_rfl) ?_
  repeat (go_big_quiet_step (first | (go_at_call 62; exact Calls.inB (by simp) (HK.out _))))
  refine wpQuiet_nil ?_
  rintro w5 ⟨⟨_, hb5⟩, rfl⟩
  go_wp2_with fail
  go_ret
  exact ⟨rfl, hb5⟩

set_option maxRecDepth 4000 in
set_option maxHeartbeats 4000000 in
theorem c_insertSort (L : List (Int × Int)) (A : Option Addr) (c B Bl G g base : Nat) (w : World) (ht : tOk L = true) (hA : Cs w B A L) (hB : B ≤ base) (hl : w.cell? ⟨Bl, 0, none⟩ = some (.slice A L.length c)) (hlb : Bl < base)
    (hown : IO w base (.slice (some ⟨G, 0, none⟩) L.length g) (upto L.length)) :
    Calls Try.prog 72 #[.slice (some ⟨G, 0, none⟩) L.length g, .int .i64 0, .int .i64 (L.length : Int), .func (.func 61) #[] #[.pointer (some ⟨Bl, 0, none⟩)]] w fun e w' => (∃ r, e = .returned r) ∧ IO w' base (.slice (some ⟨G, 0, none⟩) L.length g) (byR L L.length) ∧ Below base w w' := by
  have hl6 := (tOk_parts ht).2
  have hGb := owns_base hown G (by simp [Value.ownBlock])
  have hGz := owns_lt hown G (by simp [Value.ownBlock])
  have H := Lib.hid ht
  rw [rowI_first L] at hown
  clear ht
  go_enter Try.func72, Try.ntmps72
  go_wp2_with fail
  go_loopw [8] (fun i wr => ∃ k : Nat, 1 ≤ k ∧ k ≤ L.length ∧ i = .int .i64 k ∧ IO wr base (.slice (some ⟨G, 0, none⟩) L.length g) (rowI L L.length k k) ∧ Below base w wr ∧ w.heap.size ≤ wr.heap.size) (fun i _ => L.length - (intOf i).toNat)
  case atStart => exact ⟨1, by omega, by omega, rfl, hown, Below.refl _ _, Nat.le_refl _⟩
  case round =>
    obtain ⟨k, hk1, hk, rfl, ho, hb, hsz⟩ := hrel
    by_cases hlt : k < L.length
    · have p2 : (k : Int) < (L.length : Int) := by omega
      go_wp2_with fail
      go_loopw [9] (fun i wr => ∃ j : Nat, j ≤ k ∧ i = .int .i64 j ∧ IO wr base (.slice (some ⟨G, 0, none⟩) L.length g) (rowI L L.length k j) ∧ Below base w wr ∧ w.heap.size ≤ wr.heap.size ∧ Hid (posTo L (byR L k) k j = posTo L (byR L k) k k)) (fun i _ => (intOf i).toNat)
      case atStart => exact ⟨k, by omega, rfl, ho, hb, hsz, Lib.hid rfl⟩
      case round =>
        clear ho hb hsz
        obtain ⟨j, hj, rfl, ho, hb, hsz, hpos⟩ := hrel
        by_cases h0 : 0 < j
        · have z := byR_at (L := L) (k := k) (i := j - 1) (by omega)
          obtain ⟨q, hq⟩ : ∃ q : Nat, Z (byR L k) (j - 1) = (q : Int) := ⟨(Z (byR L k) (j - 1)).toNat, by omega⟩
          have hql : q < L.length := by omega
          have hc := ho.cells
          have d1 := hc.2.1 j (by omega)
          have d0 := hc.2.1 (j - 1) (by omega)
          have f1 := hc.2.2 j
          have f0 := hc.2.2 (j - 1)
          rw [rowI_Z L (show j < L.length by omega), if_neg (by omega), if_pos rfl] at d1
          rw [rowI_Z L (show j - 1 < L.length by omega), if_pos (by omega), hq] at d0
          have p0 : (0 : Int) < (j : Int) := by omega
          have p1 : (0 : Int) ≤ (j : Int) := by omega
          have p3 : (j : Int) < (L.length : Int) := by omega
          have p4 : (0 : Int) ≤ (j : Int) - 1 := by omega
          have p5 : (j : Int) - 1 < (L.length : Int) := by omega
          have p6 : ((j : Int) - 1).toNat = j - 1 := by omega
          have p7 : (1 : Int) ≤ (j : Int) := by omega
          have hlr := (hb.cell (p := ⟨Bl, 0, none⟩) hlb).trans hl
          have hAr := (hA.below (hb.mono hB)).more (show B ≤ wr.heap.size by omega)
          have HP := Lib.hid (show posTo L (byR L k) k j = if X L k * Y L q < X L q * Y L k then posTo L (byR L k) k (j - 1) else j by
            obtain ⟨i, rfl⟩ : ∃ i, j = i + 1 := ⟨j - 1, by omega⟩
            simp only [Nat.add_sub_cancel] at hq
            simp only [posTo, nd, wt, hq, Int.toNat_natCast, Nat.add_sub_cancel])
          have HK := Lib.hid (fun (s : WB wr.heap.size wr) => c_ratioCmp L A c k q Bl s.val H.out (s.cs hAr (Nat.le_refl _)) hlt hql (WB.cell (by
            cases h : wr.heap[Bl]? with
            | none => simp [World.cell?, h] at hlr
            | some o => exact (Array.getElem?_eq_some_iff.1 h).1) hlr s))
          have cs0 := WB.cell (B := wr.heap.size) (w := wr) (show G < wr.heap.size by omega) d1
          have cs1 := WB.cell (B := wr.heap.size) (w := wr) (show G < wr.heap.size by omega) d0
          have HQ := Lib.hid hq
          clear z hq hc hlr hAr
          by_cases hcnd : X L k * Y L q < X L q * Y L k
          · have hd : X L k * Y L q - X L q * Y L k < 0 := by omega
            rw [if_pos hcnd] at HP
            clear hcnd
            go_wp2_with fail
            refine wp_region_wb wr.heap.size (by kernel_rfl) (by kernel_rfl) ?_
            repeat (go_big_quiet_step (first | (go_at_call 61; exact Calls.inB (by simp) (HK.out _))))
            refine wpQuiet_nil ?_
            rintro w5 ⟨⟨_, hb5⟩, rfl⟩
            have ho5 := ho.below hb5 (Nat.le_refl _)
            have hb6 := hb.trans (hb5.mono (by omega))
            have hs5 := hb5.size
            have g1 := (hb5.cell (p := ⟨G, j, none⟩) (show G < wr.heap.size by omega)).trans d1
            have g0 := (hb5.cell (p := ⟨G, j - 1, none⟩) (show G < wr.heap.size by omega)).trans d0
            have hc5 := ho5.cells
            have f5 := hc5.2.2 j
            have hst := (ho5.store j (q : Int)).cells
            rw [List.length_set, rowI_len] at hst
            have g2 := hst.2.1 (j - 1) (by omega)
            rw [Z_set (by rw [rowI_len]; omega), if_neg (by omega), rowI_Z L (show j - 1 < L.length by omega), if_pos (by omega), HQ.out] at g2
            have f6 := hst.2.2 (j - 1)
            have HO : Hid (IO ((w5.setCell ⟨G, j, none⟩ (.int .i64 (q : Int))).setCell ⟨G, j - 1, none⟩ (.int .i64 (k : Int))) base (.slice (some ⟨G, 0, none⟩) L.length g) (rowI L L.length k (j - 1))) := by
              have h1 := (ho5.store j (q : Int)).store (j - 1) (k : Int)
              have e : ((rowI L L.length k j).set j (q : Int)).set (j - 1) (k : Int) = rowI L L.length k (j - 1) := by
                rw [← rowI_swap L h0 hj hlt]
                unfold exL
                rw [rowI_Z L (show j - 1 < L.length by omega), if_pos (by omega), HQ.out, rowI_Z L (show j < L.length by omega), if_neg (by omega), if_pos rfl]
              rw [e] at h1
              exact h1
            have HB7 := Lib.hid ((hb6.setCell (p := ⟨G, j, none⟩) hGb (.int .i64 (q : Int))).setCell (p := ⟨G, j - 1, none⟩) hGb (.int .i64 (k : Int)))
            have HS7 := Lib.hid HB7.out.size
            clear hc5 hst ho5 hb6 hb5 ho hb HK cs0 cs1 d0 d1 f0 f1
            go_wp2_with fail
            go_region
            go_wp2_with fail
            go_roundw
            case rel => exact ⟨j - 1, by omega, by go_num, HO.out, by (repeat (first | exact HB7.out | exact Below.refl _ _ | (with_reducible refine Below.drew ?_) | (with_reducible refine Below.drewN ?_ _) | (with_reducible refine Below.alloc ?_ ?_ _) | (with_reducible refine Below.setCell ?_ ?_ _) | (show _ ≤ _; focus (first | omega | (simp; done) | (simp; omega))))), HS7.out, Lib.hid (HP.out.symm.trans hpos.out)⟩
            case measure => simp [intOf]; omega
          · have hd : ¬ X L k * Y L q - X L q * Y L k < 0 := by omega
            rw [if_neg hcnd] at HP
            have HN := Lib.hid (rowI_next L hlt (hpos.out.symm.trans HP.out))
            clear hcnd
            go_wp2_with fail
            refine wp_region_wb wr.heap.size (by kernel_rfl) (by kernel_rfl) ?_
            repeat (go_big_quiet_step (first | (go_at_call 61; exact Calls.inB (by simp) (HK.out _))))
            refine wpQuiet_nil ?_
            rintro w5 ⟨⟨_, hb5⟩, rfl⟩
            have ho5 := ho.below hb5 (Nat.le_refl _)
            rw [HN.out] at ho5
            have hs5 := hb5.size
            clear cs0 cs1 d0 d1 f0 f1
            go_wp2_with fail
            go_roundw
            case rel => exact ⟨k + 1, by omega, by omega, by go_num, ho5, hb.trans (hb5.mono (by omega)), by omega⟩
            case measure => simp [intOf]; omega
        · obtain rfl : j = 0 := by omega
          have HN := Lib.hid (rowI_next L hlt (show posTo L (byR L k) k k = 0 from hpos.out.symm))
          rw [HN.out] at ho
          have p0 : ¬ (0 : Int) < ((0 : Nat) : Int) := by omega
          go_wp2_with fail
          refine wp_region_wb wr.heap.size (by kernel_rfl) (by kernel_rfl) ?_
          repeat (go_big_quiet_step (fail))
          refine wpQuiet_nil ?_
          rintro w5 ⟨⟨_, hb5⟩, rfl⟩
          have ho5 := ho.below hb5 (Nat.le_refl _)
          have hs5 := hb5.size
          go_wp2_with fail
          go_roundw
          case rel => exact ⟨k + 1, by omega, by omega, by go_num, ho5, hb.trans (hb5.mono (by omega)), by omega⟩
          case measure => simp [intOf]; omega
    · obtain rfl : k = L.length := by omega
      have p2 : ¬ (L.length : Int) < (L.length : Int) := by omega
      rw [rowI_last] at ho
      go_wp2_with fail
      go_end0
      exact ⟨⟨_, rfl⟩, ho, hb⟩

set_option maxRecDepth 4000 in
set_option maxHeartbeats 4000000 in
theorem c_sortStable (L : List (Int × Int)) (A : Option Addr) (c B Bl G g base : Nat) (w : World) (ht : tOk L = true) (hA : Cs w B A L) (hB : B ≤ base) (hl : w.cell? ⟨Bl, 0, none⟩ = some (.slice A L.length c)) (hlb : Bl < base)
    (hown : IO w base (.slice (some ⟨G, 0, none⟩) L.length g) (upto L.length)) :
    Calls Try.prog 60 #[.slice (some ⟨G, 0, none⟩) L.length g, .func (.func 61) #[] #[.pointer (some ⟨Bl, 0, none⟩)]] w fun e w' => (∃ r, e = .returned r) ∧ IO w' base (.slice (some ⟨G, 0, none⟩) L.length g) (byR L L.length) ∧ Below base w w' := by
  have hl6 := (tOk_parts ht).2
  have HI := Lib.hid (c_insertSort L A c B Bl G g base w ht hA hB hl hlb hown)
  have HC : Hid (Calls Try.prog 71 #[.slice (some ⟨G, 0, none⟩) L.length g, .int .i64 (L.length : Int), .func (.func 61) #[] #[.pointer (some ⟨Bl, 0, none⟩)]] w fun e w' => (∃ r, e = .returned r) ∧ IO w' base (.slice (some ⟨G, 0, none⟩) L.length g) (byR L L.length) ∧ Below base w w') := by
    have p1 : ¬ (20 : Int) ≤ (L.length : Int) := by omega
    have p2 : ¬ (20 : Int) < (L.length : Int) := by omega
    clear ht hown
    go_enter Try.func71, Try.ntmps71
    go_wp2_with fail
    go_loopw [7, 8] (fun a b wr => a = .int .i64 0 ∧ b = .int .i64 20 ∧ wr = w) (fun _ _ _ => 0)
    case atStart => exact ⟨rfl, rfl, rfl⟩
    case round =>
      obtain ⟨rfl, rfl, rfl⟩ := hrel
      go_wp2_with fail
      refine HI.out.mono ?_
      rintro e w1 ⟨⟨r, rfl⟩, ho1, hb1⟩
      go_wp2_with fail
      go_loopw [6] (fun a wr => a = .int .i64 20 ∧ wr = w1) (fun _ _ => 0)
      case atStart => exact ⟨rfl, rfl⟩
      case round =>
        obtain ⟨rfl, rfl⟩ := hrel
        go_wp2_with fail
        go_end0
        exact ⟨⟨_, rfl⟩, ho1, hb1⟩
  clear ht hown HI
  go_enter Try.func60, Try.ntmps60
  go_wp2_with fail
  refine HC.out.mono ?_
  rintro e w1 ⟨⟨r, rfl⟩, ho1, hb1⟩
  go_wp2_with fail
  go_end0
  exact ⟨⟨_, rfl⟩, ho1, hb1⟩

set_option maxRecDepth 4000 in
set_option maxHeartbeats 2000000 in
theorem c_iByRatio (L : List (Int × Int)) (A : Option Addr) (c : Nat) (w : World) (hA : Cs w w.heap.size A L) (hn : L.length ≤ 140737488351232) :
    Calls Try.prog 29 #[.slice A L.length c] w fun e w' => ∃ v, e = .returned v ∧ IO w' w.heap.size v (ratioV L) ∧ Below w.heap.size w w' := by
  have hb0 : Below w.heap.size w (w.alloc (.cells #[.slice A L.length c] 23)) := by (repeat (first | exact rfl | exact Below.refl _ _ | (with_reducible refine Below.drew ?_) | (with_reducible refine Below.drewN ?_ _) | (with_reducible refine Below.alloc ?_ ?_ _) | (with_reducible refine Below.setCell ?_ ?_ _) | (show _ ≤ _; focus (first | omega | (simp; done) | (simp; omega)))))
  have hl0 : (w.alloc (.cells #[.slice A L.length c] 23)).cell? ⟨w.heap.size, 0, none⟩ = some (.slice A L.length c) := by have := heap_alloc_new w (.cells #[.slice A L.length c] 23); simp only [World.cell?, this]; rfl
  have hz0 : (w.alloc (.cells #[.slice A L.length c] 23)).heap.size = w.heap.size + 1 := by simp
  have HT := Lib.hid (c_iTasksOk L A c _ ((hA.below hb0).more hb0.size) hn)
  by_cases ht : tOk L = true
  · have H := Lib.hid ht
    have HV := Lib.hid (ratioV_yes ht)
    have hl6 := (tOk_parts ht).2
    have hne := Lib.hid (fun (w' : World) (hb : Below (w.heap.size + 1) (w.alloc (.cells #[.slice A L.length c] 23)) w') => show w'.cell? ⟨w.heap.size, 0, none⟩ = some (.slice A L.length c) from (hb.cell (p := ⟨w.heap.size, 0, none⟩) (by simp)).trans hl0)
    clear ht
    go_enter Try.func29, Try.ntmps29
    go_wp2_with fail
    refine HT.out.mono ?_
    rintro e w1 ⟨rfl, hb1⟩
    rw [H.out]
    rw [hz0] at hb1
    have hx1 := hb0.trans (hb1.mono (by omega))
    have hl1 := hne.out _ hb1
    have hs1 := hb1.size
    rw [hz0] at hs1
    clear hb1 hne HT hl0 hb0
    go_wp2_with fail
    refine (c_asListed L.length w1 (by omega)).mono ?_
    rintro e w2 ⟨v, rfl, ho2, hb2⟩
    have hs2 := hb2.size
    have hx2 := hx1.trans (hb2.mono (by omega))
    have hl2 := (hb2.cell (p := ⟨w.heap.size, 0, none⟩) (show w.heap.size < w1.heap.size by omega)).trans hl1
    obtain ⟨G', g, rfl, -, hG⟩ := ho2.formG
    obtain ⟨G, rfl, -, -, -⟩ := hG (by rw [upto_len]; omega)
    rw [upto_len] at ho2 ⊢
    have HS := Lib.hid (c_sortStable L A c w.heap.size w.heap.size G g w1.heap.size w2 H.out (hA.below hx2) (by omega) hl2 (by omega) ho2)
    clear ho2 hb2 hl1 hl2 hG
    go_wp2_with fail
    refine HS.out.mono ?_
    rintro e w3 ⟨⟨r, rfl⟩, ho3, hb3⟩
    go_wp2_with fail
    go_ret
    exact ⟨_, rfl, by rw [HV.out]; exact ho3.mono (by omega), hx2.trans (hb3.mono (by omega))⟩
  · have hno : tOk L = false := by simpa using ht
    have H := Lib.hid hno
    have HV := Lib.hid (ratioV_no hno)
    clear ht hno
    go_enter Try.func29, Try.ntmps29
    go_wp2_with fail
    refine HT.out.mono ?_
    rintro e w1 ⟨rfl, hb1⟩
    rw [H.out]
    rw [hz0] at hb1
    go_wp2_with fail
    go_ret
    exact ⟨_, rfl, by rw [HV.out]; exact IO.nil _ _, hb0.trans (hb1.mono (by omega))⟩

end Go.Proofs.Ytckebkaaokfonaa

