/- Helpers of the exact laws: sz, to, eq, mark, held -/
import Derived.Test.YtpbmehodcllncaaO
import Derived.Test.YtpbmehodcllncaaG2
import Derived.Test.YtpbmehodcllncaaM
namespace Go.Proofs.Ytpbmehodcllncaa
set_option linter.unusedVariables false
open Go.RowKit
attribute [local go_sem ↓] Go.wp_at_zero Go.wp_at_succ

set_option maxHeartbeats 400000 in
theorem c_sz_yes (A : Option Addr) (n c : Nat) (l : Int) (w : World) (h : (n : Int) ≤ l) (hl : l ≤ 1048576) (hn : n ≤ 9223372036854775807) :
    Calls Try.prog 32 #[.slice A n c, .int .i64 l] w fun e w' => e = .returned (.int .i64 (l - n)) ∧ w = w' := by
  go_enter Try.func32, Try.ntmps32
  go_wp2
  go_ret
  exact ⟨rfl, rfl⟩
set_option maxHeartbeats 400000 in
theorem c_sz_no (A : Option Addr) (n c : Nat) (l : Int) (w : World) (h : l < (n : Int)) (h0 : 0 ≤ l) (hl : l ≤ 1048576) (hn : n ≤ 9223372036854775807) :
    Calls Try.prog 32 #[.slice A n c, .int .i64 l] w fun e w' => e = .returned (.int .i64 (-1)) ∧ w = w' := by
  go_enter Try.func32, Try.ntmps32
  go_wp2
  go_ret
  exact ⟨rfl, rfl⟩

set_option maxHeartbeats 1000000 in
theorem c_toCustomer (x y : Int) (w : World) :
    Calls Try.prog 63 #[.agg #[.int .i64 x, .int .i64 y]] w fun e w' => e = .returned (.agg #[.int .i64 x, .int .i64 y]) ∧ Below w.heap.size w w' := by
  go_enter Try.func63, Try.ntmps63
  go_wp2
  exact bodyPost_ret (v := .agg #[.int .i64 x, .int .i64 y]) (by simp [results, Try.results63, go_sem]) rfl ⟨rfl, by (repeat (first | exact rfl | exact Below.refl _ _ | (with_reducible refine Below.drew ?_) | (with_reducible refine Below.drewN ?_ _) | (with_reducible refine Below.alloc ?_ ?_ _) | (with_reducible refine Below.setCell ?_ ?_ _) | (show _ ≤ _; focus (first | omega | (simp; done) | (simp; omega)))))⟩

/-- the first k of L, nothing behind -/
def fillTo (L : List (Int × Int)) (k : Nat) : List (Int × Int) := L.take k ++ List.replicate (L.length - k) (0, 0)
theorem fillTo_len {L : List (Int × Int)} {k : Nat} (h : k ≤ L.length) : (fillTo L k).length = L.length := by simp [fillTo]; omega
theorem fillTo_all (L : List (Int × Int)) : fillTo L L.length = L := by simp [fillTo]
theorem fillTo_succ {L : List (Int × Int)} {k : Nat} (h : k < L.length) : (fillTo L k).set k (X L k, Y L k) = fillTo L (k + 1) := by
  apply List.ext_getElem (by simp [fillTo]; omega)
  intro i h1 h2
  simp only [fillTo, List.length_set, List.length_append, List.length_take, List.length_replicate] at h1 h2
  rw [List.getElem_set]
  by_cases e : k = i
  · subst e
    simp only [if_true, fillTo]
    rw [List.getElem_append_left (by simp; omega), List.getElem_take, XY_eta L k h]
  · rw [if_neg e]
    simp only [fillTo]
    by_cases hi : i < k
    · rw [List.getElem_append_left (by simp; omega), List.getElem_append_left (by simp; omega), List.getElem_take, List.getElem_take]
    · rw [List.getElem_append_right (by simp; omega), List.getElem_append_right (by simp; omega), List.getElem_replicate, List.getElem_replicate]
theorem flatC_set (x y : Int) : ∀ (L : List (Int × Int)) (k : Nat), flatC (L.set k (x, y)) = ((flatC L).set (k * 2) (.int .i64 x)).set (k * 2 + 1) (.int .i64 y)
  | [], k => by simp [flatC]
  | c :: L, 0 => by simp [flatC]
  | c :: L, k + 1 => by
    have ih := flatC_set x y L k
    have e1 : (k + 1) * 2 = k * 2 + 1 + 1 := by omega
    simp only [List.set_cons_succ, e1]
    simp only [flatC, List.flatMap_cons, List.cons_append, List.nil_append, List.set_cons_succ] at ih ⊢
    rw [ih]
theorem CO.store {w : World} {base g n c : Nat} {M : List (Int × Int)} (h : CO w base (.slice (some ⟨g, 0, none⟩) n c) M) (k : Nat) (x y : Int) :
    CO ((w.setCell ⟨g, k * 2, none⟩ (.int .i64 x)).setCell ⟨g, k * 2 + 1, none⟩ (.int .i64 y)) base (.slice (some ⟨g, 0, none⟩) n c) (M.set k (x, y)) := by
  have hn : n = M.length := by
    rcases h.2 with ⟨h2, _⟩ | ⟨g', cap, cur, h2, _⟩
    · cases h2
    · injection h2
  subst hn
  have h1 := (World.ownsRow.stored (g := g) (cap := c) h (k * 2) (.int .i64 x)).1
  have h2 := (World.ownsRow.stored (g := g) (cap := c) h1 (k * 2 + 1) (.int .i64 y)).1
  unfold CO
  rw [flatC_set, List.length_set]
  exact h2
theorem madeAt (z : Array Value) (n j : Nat) (h : j < n) : (madeCells z n).toList[j]? = some (z[j % z.size]!) := by
  simp [madeCells, h]
theorem flatC_zeros (n : Nat) : (madeCells (Value.agg #[.int .i64 0, .int .i64 0]).cells (n * 2)).toList = flatC (List.replicate n (0, 0)) := by
  have hz : (Value.agg #[.int .i64 0, .int .i64 0]).cells = #[.int .i64 0, .int .i64 0] := rfl
  have hl : (flatC (List.replicate n (0, 0))).length = n * 2 := by rw [flatC_len]; simp
  apply List.ext_getElem?
  intro j
  by_cases h : j < n * 2
  · rw [hz, madeAt _ _ _ h]
    have h2 := flatC_at (List.replicate n (0, 0)) (j / 2) (by simp; omega)
    have e1 : X (List.replicate n (0, 0)) (j / 2) = 0 := by simp [X, show j / 2 < n by omega]
    have e2 : Y (List.replicate n (0, 0)) (j / 2) = 0 := by simp [Y, show j / 2 < n by omega]
    rw [e1, e2] at h2
    rcases Nat.mod_two_eq_zero_or_one j with h3 | h3
    · have e3 : j / 2 * 2 = j := by omega
      rw [e3] at h2
      rw [h2.1]; simp [h3]
    · have e3 : j / 2 * 2 + 1 = j := by omega
      rw [e3] at h2
      rw [h2.2]; simp [h3]
  · rw [List.getElem?_eq_none (by simp [madeCells]; omega), List.getElem?_eq_none (by omega)]

set_option maxHeartbeats 2000000 in
theorem c_toCustomerS (L : List (Int × Int)) (A : Option Addr) (c : Nat) (w : World) (hA : Cs w w.heap.size A L) (hn : L.length ≤ 1048576) :
    Calls Try.prog 33 #[.slice A L.length c] w fun e w' => ∃ v, e = .returned v ∧ CO w' w.heap.size v L ∧ Below w.heap.size w w' := by
  obtain ⟨i0, hi, hz0, hz1, hz2⟩ := info_parts infoC
  go_enter Try.func33, Try.ntmps33
  go_wp2_with (at_make; refine wpList_make_full w rfl _ _ _ rfl w.heap.size 30 i0 _ 2 Try.underlying23 hi hz0 hz1 .i64 .i64 _ _ L.length rfl rfl rfl rfl (by rw [hz2]; omega) (by simp only [maxLen]; omega) (Nat.le_refl _) ?_; intro w1 hown1 hgr1)
  have hb1 : Below w.heap.size w w1 := (Below.refl _ _).grown hgr1 (Nat.le_refl _) (by simp)
  have o1 : CO w1 w.heap.size (.slice (some ⟨w.heap.size, 0, none⟩) L.length L.length) (fillTo L 0) := by
    unfold CO
    rw [fillTo_len (by omega), show fillTo L 0 = List.replicate L.length (0, 0) by simp [fillTo], ← flatC_zeros]
    exact hown1
  clear hown1 hgr1
  go_loopw [4] (fun i wr => ∃ k : Nat, k ≤ L.length ∧ i = .int .i64 k ∧ CO wr w.heap.size (.slice (some ⟨w.heap.size, 0, none⟩) L.length L.length) (fillTo L k) ∧ Below w.heap.size w wr)
    (fun i _ => L.length - (intOf i).toNat)
  case atStart => exact ⟨0, by omega, rfl, o1, hb1⟩
  case round =>
    obtain ⟨k, hk, rfl, hown, hb⟩ := hrel
    by_cases hlt : k < L.length
    · obtain ⟨b, off, rfl, hlb, hc⟩ := hA (by omega)
      have c1 := (hb.cell (p := ⟨b, off + k * 2, none⟩) hlb).trans (hc k hlt).1
      have c2 := (hb.cell (p := ⟨b, off + k * 2 + 1, none⟩) hlb).trans (hc k hlt).2
      clear hc
      have hsz := hb.size
      clear hb1 hA o1
      go_wp2_with fail
      refine (c_toCustomer _ _ _).mono ?_
      rintro e w5 ⟨rfl, hb5⟩
      have o5 := hown.below hb5 (Nat.le_refl _)
      have hb7 := hb.trans (hb5.mono hsz)
      obtain ⟨-, hcl, hfr⟩ := o5.cells
      obtain ⟨d1, d2⟩ := hcl k hlt
      have f1 := hfr (k * 2)
      have f2 := hfr (k * 2 + 1)
      clear hcl hfr
      go_wp2_with fail
      go_roundw
      case rel =>
        refine ⟨k + 1, by omega, by go_num, ?_, by (repeat (first | exact hb7 | exact Below.refl _ _ | (with_reducible refine Below.drew ?_) | (with_reducible refine Below.drewN ?_ _) | (with_reducible refine Below.alloc ?_ ?_ _) | (with_reducible refine Below.setCell ?_ ?_ _) | (show _ ≤ _; focus (first | omega | (simp; done) | (simp; omega)))))⟩
        rw [← fillTo_succ hlt]
        exact o5.store k _ _
      case measure => simp [intOf]; omega
    · go_wp2_with fail
      go_ret
      obtain rfl : k = L.length := by omega
      rw [fillTo_all] at hown
      exact ⟨_, rfl, hown, hb⟩

set_option maxHeartbeats 1000000 in
theorem c_eqCustomer (x y : Int) (w : World) :
    Calls Try.prog 64 #[.agg #[.int .i64 x, .int .i64 y], .agg #[.int .i64 x, .int .i64 y]] w fun e w' => e = .returned (.bool true) ∧ Below w.heap.size w w' := by
  go_enter Try.func64, Try.ntmps64
  go_wp2
  go_ret
  exact ⟨rfl, by (repeat (first | exact rfl | exact Below.refl _ _ | (with_reducible refine Below.drew ?_) | (with_reducible refine Below.drewN ?_ _) | (with_reducible refine Below.alloc ?_ ?_ _) | (with_reducible refine Below.setCell ?_ ?_ _) | (show _ ≤ _; focus (first | omega | (simp; done) | (simp; omega)))))⟩

set_option maxHeartbeats 2000000 in
theorem c_eqCustomerS (L : List (Int × Int)) (A B : Option Addr) (c d : Nat) (w : World) (hA : Cs w w.heap.size A L) (hB : Cs w w.heap.size B L) (hn : L.length ≤ 1048576) :
    Calls Try.prog 34 #[.slice A L.length c, .slice B L.length d] w fun e w' => e = .returned (.bool true) ∧ Below w.heap.size w w' := by
  go_enter Try.func34, Try.ntmps34
  go_wp2_with fail
  go_loopw [5] (fun i wr => ∃ k : Nat, k ≤ L.length ∧ i = .int .i64 k ∧ Below w.heap.size w wr) (fun i _ => L.length - (intOf i).toNat)
  case atStart => exact ⟨0, Nat.zero_le _, rfl, Below.refl _ _⟩
  case round =>
    obtain ⟨k, hk, rfl, hb⟩ := hrel
    by_cases hlt : k < L.length
    · obtain ⟨b, off, rfl, hlb, hc⟩ := hA (by omega)
      obtain ⟨b2, off2, rfl, hlb2, hc2⟩ := hB (by omega)
      have c1 := (hb.cell (p := ⟨b, off + k * 2, none⟩) hlb).trans (hc k hlt).1
      have c2 := (hb.cell (p := ⟨b, off + k * 2 + 1, none⟩) hlb).trans (hc k hlt).2
      have c3 := (hb.cell (p := ⟨b2, off2 + k * 2, none⟩) hlb2).trans (hc2 k hlt).1
      have c4 := (hb.cell (p := ⟨b2, off2 + k * 2 + 1, none⟩) hlb2).trans (hc2 k hlt).2
      clear hc hc2 hA hB
      have hsz := hb.size
      have hlw : b < wr.heap.size := by omega
      have hlw2 : b2 < wr.heap.size := by omega
      go_wp2_with fail
      go_region_held3 (fun w' => w'.cell? ⟨b, off + k * 2, none⟩ = some (.int .i64 (X L k)) ∧ w'.cell? ⟨b, off + k * 2 + 1, none⟩ = some (.int .i64 (Y L k)) ∧ w'.cell? ⟨b2, off2 + k * 2, none⟩ = some (.int .i64 (X L k)) ∧ w'.cell? ⟨b2, off2 + k * 2 + 1, none⟩ = some (.int .i64 (Y L k)))
        (first
          | go_keep
          | exact ⟨(hb5.cell (p := ⟨b, _, none⟩) hlw).trans c1, (hb5.cell (p := ⟨b, _, none⟩) hlw).trans c2, (hb5.cell (p := ⟨b2, _, none⟩) hlw2).trans c3, (hb5.cell (p := ⟨b2, _, none⟩) hlw2).trans c4⟩)
        ((go_at_call 64; refine (c_eqCustomer _ _ _).mono ?_; rintro e w5 ⟨rfl, hb5⟩))
      go_wp2_with fail
      go_roundw
      case rel => exact ⟨k + 1, by omega, by go_num, hb.drew.trans (hb5.mono hsz)⟩
      case measure => simp [intOf]; omega
    · go_wp2_with fail
      go_ret
      exact ⟨rfl, hb⟩

/-- what markCustomerS writes -/
def marks (n : Nat) (k : Int) : List (Int × Int) := (List.range n).map fun (i : Nat) => (k + 2 * (i : Int), k + 2 * (i : Int) + 1)
theorem marks_len (n : Nat) (k : Int) : (marks n k).length = n := by simp [marks]
theorem marks_X {n i : Nat} {k : Int} (h : i < n) : X (marks n k) i = k + 2 * i := by simp [X, marks, h]
theorem marks_Y {n i : Nat} {k : Int} (h : i < n) : Y (marks n k) i = k + 2 * i + 1 := by simp [Y, marks, h]
/-- the first i of L are marked -/
def markTo (L : List (Int × Int)) (k : Int) (i : Nat) : List (Int × Int) := (marks L.length k).take i ++ L.drop i
theorem markTo_len {L : List (Int × Int)} {k : Int} {i : Nat} (h : i ≤ L.length) : (markTo L k i).length = L.length := by simp [markTo, marks_len]; omega
theorem markTo_all (L : List (Int × Int)) (k : Int) : markTo L k L.length = marks L.length k := by
  have h := marks_len L.length k
  simp [markTo, List.take_of_length_le (show (marks L.length k).length ≤ L.length by omega)]
theorem markTo_succ {L : List (Int × Int)} {k : Int} {i : Nat} (h : i < L.length) : (markTo L k i).set i (k + 2 * (i : Int), k + 2 * (i : Int) + 1) = markTo L k (i + 1) := by
  have hm := marks_len L.length k
  apply List.ext_getElem (by simp [markTo, hm]; omega)
  intro j h1 h2
  simp only [markTo, List.length_set, List.length_append, List.length_take, List.length_drop, hm] at h1 h2
  rw [List.getElem_set]
  by_cases e : i = j
  · subst e
    simp only [if_true, markTo]
    rw [List.getElem_append_left (by simp [hm]; omega), List.getElem_take]
    simp [marks]
  · rw [if_neg e]
    simp only [markTo]
    by_cases hi : j < i
    · rw [List.getElem_append_left (by simp [hm]; omega), List.getElem_append_left (by simp [hm]; omega), List.getElem_take, List.getElem_take]
    · rw [List.getElem_append_right (by simp [hm]; omega), List.getElem_append_right (by simp [hm]; omega), List.getElem_drop, List.getElem_drop]
      congr 1
      simp [hm]; omega

set_option maxHeartbeats 2000000 in
theorem c_heldCustomerS (n : Nat) (k0 : Int) (A : Option Addr) (c B : Nat) (w : World) (hA : Cs w B A (marks n k0)) (hn : n ≤ 1048576) (hk0 : 0 ≤ k0) (hk1 : k0 ≤ 1000000000) :
    Calls Try.prog 66 #[.slice A n c, .int .i64 k0] w fun e w' => e = .returned (.int .i64 (k0 + 2 * n)) ∧ w = w' := by
  go_enter Try.func66, Try.ntmps66
  go_wp2_with fail
  go_loop [1, 5] (fun kk i => ∃ k : Nat, k ≤ n ∧ i = .int .i64 k ∧ kk = .int .i64 (k0 + 2 * (k : Int))) (fun _ i => n - (intOf i).toNat)
  case atStart => exact ⟨0, by omega, rfl, by simp⟩
  case round =>
    obtain ⟨k, hk, rfl, rfl⟩ := hrel
    by_cases hlt : k < n
    · obtain ⟨b, off, rfl, hlb, hc⟩ := hA (by rw [marks_len]; omega)
      obtain ⟨c1, c2⟩ := hc k (by rw [marks_len]; omega)
      rw [marks_X hlt] at c1
      rw [marks_Y hlt] at c2
      clear hc
      go_wp2_with fail
      go_round
      case rel => exact ⟨k + 1, by omega, by go_num, by go_num⟩
      case measure => simp [intOf]; omega
    · go_wp2_with fail
      go_ret
      obtain rfl : k = n := by omega
      exact ⟨rfl, rfl⟩

set_option maxHeartbeats 2000000 in
theorem c_markCustomerS (L : List (Int × Int)) (k0 : Int) (v : Value) (base : Nat) (w : World) (hv : CO w base v L) (hn : L.length ≤ 1048576) (hk0 : 0 ≤ k0) (hk1 : k0 ≤ 1000000000) :
    Calls Try.prog 35 #[v, .int .i64 k0] w fun e w' => e = .returned (.int .i64 (k0 + 2 * L.length)) ∧ CO w' base v (marks L.length k0) ∧ w.grownBy w' v.ownBlock := by
  rcases hv.2 with ⟨rfl, h0⟩ | ⟨g, cap, cur, rfl, -⟩
  · have e : marks L.length k0 = [] := by rw [h0]; rfl
    rw [e, h0]
    go_enter Try.func35, Try.ntmps35
    go_wp2_with fail
    refine wp_loop_rounds 1 ?_
    rw [rounds_succ]
    go_wp2_with fail
    go_ret
    exact ⟨by simp, CO.nil _ _, World.grownBy.refl _ _⟩
  · go_enter Try.func35, Try.ntmps35
    go_wp2_with fail
    go_loopw [1, 5] (fun kk i wr => ∃ k : Nat, k ≤ L.length ∧ i = .int .i64 k ∧ kk = .int .i64 (k0 + 2 * (k : Int)) ∧ CO wr base (.slice (some ⟨g, 0, none⟩) L.length cap) (markTo L k0 k) ∧ w.grownBy wr (some g))
      (fun _ i _ => L.length - (intOf i).toNat)
    case atStart => exact ⟨0, by omega, rfl, by simp, by simpa [markTo] using hv, World.grownBy.refl _ _⟩
    case round =>
      obtain ⟨k, hk, rfl, rfl, hown, hgr⟩ := hrel
      by_cases hlt : k < L.length
      · obtain ⟨-, hcl, hfr⟩ := hown.cells
        obtain ⟨d1, d2⟩ := hcl k hlt
        have f1 := hfr (k * 2)
        have f2 := hfr (k * 2 + 1)
        clear hcl hfr
        go_wp2_with fail
        go_roundw
        case rel =>
          refine ⟨k + 1, by omega, by go_num, by go_num, ?_, ?_⟩
          · rw [← markTo_succ hlt]
            exact hown.store k _ _
          · exact (hgr.trans (grown_set _ _ _ _)).trans (grown_set _ _ _ _)
        case measure => simp [intOf]; omega
      · go_wp2_with fail
        go_ret
        obtain rfl : k = L.length := by omega
        rw [markTo_all] at hown
        exact ⟨rfl, hown, hgr⟩


end Go.Proofs.Ytpbmehodcllncaa

