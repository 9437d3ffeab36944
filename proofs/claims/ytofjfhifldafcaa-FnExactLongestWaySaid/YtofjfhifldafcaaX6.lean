/- Helpers of the exact laws for customers of two counters (made by gen/both.py out of those for customers) -/
import Derived.Test.YtofjfhifldafcaaX
import Derived.Test.YtofjfhifldafcaaO5
namespace Go.Proofs.Ytofjfhifldafcaa
set_option linter.unusedVariables false
open Go.RowKit
attribute [local go_sem ↓] Go.wp_at_zero Go.wp_at_succ

theorem BO.store {w : World} {base g n c : Nat} {M : List (Int × Int)} (h : BO w base (.slice (some ⟨g, 0, none⟩) n c) M) (k : Nat) (x y : Int) :
    BO ((w.setCell ⟨g, k * 2, none⟩ (.int .i64 x)).setCell ⟨g, k * 2 + 1, none⟩ (.int .i64 y)) base (.slice (some ⟨g, 0, none⟩) n c) (M.set k (x, y)) := by
  have hn : n = M.length := by
    rcases h.2 with ⟨h2, _⟩ | ⟨g', cap, cur, h2, _⟩
    · cases h2
    · injection h2
  subst hn
  have h1 := (World.ownsRow.stored (g := g) (cap := c) h (k * 2) (.int .i64 x)).1
  have h2 := (World.ownsRow.stored (g := g) (cap := c) h1 (k * 2 + 1) (.int .i64 y)).1
  unfold BO
  rw [flatC_set, List.length_set]
  exact h2

set_option maxHeartbeats 400000 in
theorem c_szB_yes (A : Option Addr) (n c : Nat) (l : Int) (w : World) (h : (n : Int) ≤ l) (hl : l ≤ 1048576) (hn : n ≤ 9223372036854775807) :
    Calls Try.prog 42 #[.slice A n c, .int .i64 l] w fun e w' => e = .returned (.int .i64 (l - n)) ∧ w = w' := by
  go_enter Try.func42, Try.ntmps42
  go_wp2
  go_ret
  exact ⟨rfl, rfl⟩
set_option maxHeartbeats 400000 in
theorem c_szB_no (A : Option Addr) (n c : Nat) (l : Int) (w : World) (h : l < (n : Int)) (h0 : 0 ≤ l) (hl : l ≤ 1048576) (hn : n ≤ 9223372036854775807) :
    Calls Try.prog 42 #[.slice A n c, .int .i64 l] w fun e w' => e = .returned (.int .i64 (-1)) ∧ w = w' := by
  go_enter Try.func42, Try.ntmps42
  go_wp2
  go_ret
  exact ⟨rfl, rfl⟩

set_option maxHeartbeats 1000000 in
theorem c_toBoth (x y : Int) (w : World) :
    Calls Try.prog 73 #[.agg #[.int .i64 x, .int .i64 y]] w fun e w' => e = .returned (.agg #[.int .i64 x, .int .i64 y]) ∧ Below w.heap.size w w' := by
  go_enter Try.func73, Try.ntmps73
  go_wp2
  exact bodyPost_ret (v := .agg #[.int .i64 x, .int .i64 y]) (by simp [results, Try.results73, go_sem]) rfl ⟨rfl, by (repeat (first | exact rfl | exact Below.refl _ _ | (with_reducible refine Below.drew ?_) | (with_reducible refine Below.drewN ?_ _) | (with_reducible refine Below.alloc ?_ ?_ _) | (with_reducible refine Below.setCell ?_ ?_ _) | (show _ ≤ _; focus (first | omega | (simp; done) | (simp; omega)))))⟩

set_option maxHeartbeats 2000000 in
theorem c_toBothS (L : List (Int × Int)) (A : Option Addr) (c : Nat) (w : World) (hA : Cs w w.heap.size A L) (hn : L.length ≤ 1048576) :
    Calls Try.prog 43 #[.slice A L.length c] w fun e w' => ∃ v, e = .returned v ∧ BO w' w.heap.size v L ∧ Below w.heap.size w w' := by
  obtain ⟨i0, hi, hz0, hz1, hz2⟩ := info_parts infoBo
  go_enter Try.func43, Try.ntmps43
  go_wp2_with (at_make; refine wpList_make_full w rfl _ _ _ rfl w.heap.size 27 i0 _ 2 Try.underlying23 hi hz0 hz1 .i64 .i64 _ _ L.length rfl rfl rfl rfl (by rw [hz2]; omega) (by simp only [maxLen]; omega) (Nat.le_refl _) ?_; intro w1 hown1 hgr1)
  have hb1 : Below w.heap.size w w1 := (Below.refl _ _).grown hgr1 (Nat.le_refl _) (by simp)
  have o1 : BO w1 w.heap.size (.slice (some ⟨w.heap.size, 0, none⟩) L.length L.length) (fillTo L 0) := by
    unfold BO
    rw [fillTo_len (by omega), show fillTo L 0 = List.replicate L.length (0, 0) by simp [fillTo], ← flatC_zeros]
    exact hown1
  clear hown1 hgr1
  go_loopw [4] (fun i wr => ∃ k : Nat, k ≤ L.length ∧ i = .int .i64 k ∧ BO wr w.heap.size (.slice (some ⟨w.heap.size, 0, none⟩) L.length L.length) (fillTo L k) ∧ Below w.heap.size w wr)
    (fun i _ => L.length - (intOf i).toNat)
  case atStart => exact ⟨0, by omega, rfl, o1, hb1⟩
  case round =>
    obtain ⟨k, hk, rfl, hown, hb⟩ := hrel
    by_cases hlt : k < L.length
    · obtain ⟨b, off, rfl, hlb, hc⟩ := hA (by omega)
      have c1 := (hb.cell (p := ⟨b, off + k * 2, none⟩) hlb).trans (hc k hlt).1
      have c2 := (hb.cell (p := ⟨b, off + k * 2 + 1, none⟩) hlb).trans (hc k hlt).2
      clear hc
      have hsz := hb.size
      clear hb1 hA o1
      go_wp2_with fail
      refine (c_toBoth _ _ _).mono ?_
      rintro e w5 ⟨rfl, hb5⟩
      have o5 := hown.below hb5 (Nat.le_refl _)
      have hb7 := hb.trans (hb5.mono hsz)
      obtain ⟨-, hcl, hfr⟩ := o5.cells
      obtain ⟨d1, d2⟩ := hcl k hlt
      have f1 := hfr (k * 2)
      have f2 := hfr (k * 2 + 1)
      clear hcl hfr
      go_wp2_with fail
      go_roundw
      case rel =>
        refine ⟨k + 1, by omega, by go_num, ?_, by (repeat (first | exact hb7 | exact Below.refl _ _ | (with_reducible refine Below.drew ?_) | (with_reducible refine Below.drewN ?_ _) | (with_reducible refine Below.alloc ?_ ?_ _) | (with_reducible refine Below.setCell ?_ ?_ _) | (show _ ≤ _; focus (first | omega | (simp; done) | (simp; omega)))))⟩
        rw [← fillTo_succ hlt]
        exact o5.store k _ _
      case measure => simp [intOf]; omega
    · go_wp2_with fail
      go_ret
      obtain rfl : k = L.length := by omega
      rw [fillTo_all] at hown
      exact ⟨_, rfl, hown, hb⟩

set_option maxHeartbeats 1000000 in
theorem c_eqBoth (x y : Int) (w : World) :
    Calls Try.prog 74 #[.agg #[.int .i64 x, .int .i64 y], .agg #[.int .i64 x, .int .i64 y]] w fun e w' => e = .returned (.bool true) ∧ Below w.heap.size w w' := by
  go_enter Try.func74, Try.ntmps74
  go_wp2
  go_ret
  exact ⟨rfl, by (repeat (first | exact rfl | exact Below.refl _ _ | (with_reducible refine Below.drew ?_) | (with_reducible refine Below.drewN ?_ _) | (with_reducible refine Below.alloc ?_ ?_ _) | (with_reducible refine Below.setCell ?_ ?_ _) | (show _ ≤ _; focus (first | omega | (simp; done) | (simp; omega)))))⟩

set_option maxHeartbeats 2000000 in
theorem c_eqBothS (L : List (Int × Int)) (A B : Option Addr) (c d : Nat) (w : World) (hA : Cs w w.heap.size A L) (hB : Cs w w.heap.size B L) (hn : L.length ≤ 1048576) :
    Calls Try.prog 44 #[.slice A L.length c, .slice B L.length d] w fun e w' => e = .returned (.bool true) ∧ Below w.heap.size w w' := by
  go_enter Try.func44, Try.ntmps44
  go_wp2_with fail
  go_loopw [5] (fun i wr => ∃ k : Nat, k ≤ L.length ∧ i = .int .i64 k ∧ Below w.heap.size w wr) (fun i _ => L.length - (intOf i).toNat)
  case atStart => exact ⟨0, Nat.zero_le _, rfl, Below.refl _ _⟩
  case round =>
    obtain ⟨k, hk, rfl, hb⟩ := hrel
    by_cases hlt : k < L.length
    · obtain ⟨b, off, rfl, hlb, hc⟩ := hA (by omega)
      obtain ⟨b2, off2, rfl, hlb2, hc2⟩ := hB (by omega)
      have c1 := (hb.cell (p := ⟨b, off + k * 2, none⟩) hlb).trans (hc k hlt).1
      have c2 := (hb.cell (p := ⟨b, off + k * 2 + 1, none⟩) hlb).trans (hc k hlt).2
      have c3 := (hb.cell (p := ⟨b2, off2 + k * 2, none⟩) hlb2).trans (hc2 k hlt).1
      have c4 := (hb.cell (p := ⟨b2, off2 + k * 2 + 1, none⟩) hlb2).trans (hc2 k hlt).2
      clear hc hc2 hA hB
      have hsz := hb.size
      have hlw : b < wr.heap.size := by omega
      have hlw2 : b2 < wr.heap.size := by omega
      go_wp2_with fail
      go_region_held3 (fun w' => w'.cell? ⟨b, off + k * 2, none⟩ = some (.int .i64 (X L k)) ∧ w'.cell? ⟨b, off + k * 2 + 1, none⟩ = some (.int .i64 (Y L k)) ∧ w'.cell? ⟨b2, off2 + k * 2, none⟩ = some (.int .i64 (X L k)) ∧ w'.cell? ⟨b2, off2 + k * 2 + 1, none⟩ = some (.int .i64 (Y L k)))
        (first
          | go_keep
          | exact ⟨(hb5.cell (p := ⟨b, _, none⟩) hlw).trans c1, (hb5.cell (p := ⟨b, _, none⟩) hlw).trans c2, (hb5.cell (p := ⟨b2, _, none⟩) hlw2).trans c3, (hb5.cell (p := ⟨b2, _, none⟩) hlw2).trans c4⟩)
        ((go_at_call 74; refine (c_eqBoth _ _ _).mono ?_; rintro e w5 ⟨rfl, hb5⟩))
      go_wp2_with fail
      go_roundw
      case rel => exact ⟨k + 1, by omega, by go_num, hb.drew.trans (hb5.mono hsz)⟩
      case measure => simp [intOf]; omega
    · go_wp2_with fail
      go_ret
      exact ⟨rfl, hb⟩

set_option maxHeartbeats 2000000 in
theorem c_heldBothS (n : Nat) (k0 : Int) (A : Option Addr) (c B : Nat) (w : World) (hA : Cs w B A (marks n k0)) (hn : n ≤ 1048576) (hk0 : 0 ≤ k0) (hk1 : k0 ≤ 1000000000) :
    Calls Try.prog 49 #[.slice A n c, .int .i64 k0] w fun e w' => e = .returned (.int .i64 (k0 + 2 * n)) ∧ w = w' := by
  go_enter Try.func49, Try.ntmps49
  go_wp2_with fail
  go_loop [1, 5] (fun kk i => ∃ k : Nat, k ≤ n ∧ i = .int .i64 k ∧ kk = .int .i64 (k0 + 2 * (k : Int))) (fun _ i => n - (intOf i).toNat)
  case atStart => exact ⟨0, by omega, rfl, by simp⟩
  case round =>
    obtain ⟨k, hk, rfl, rfl⟩ := hrel
    by_cases hlt : k < n
    · obtain ⟨b, off, rfl, hlb, hc⟩ := hA (by rw [marks_len]; omega)
      obtain ⟨c1, c2⟩ := hc k (by rw [marks_len]; omega)
      rw [marks_X hlt] at c1
      rw [marks_Y hlt] at c2
      clear hc
      go_wp2_with fail
      go_round
      case rel => exact ⟨k + 1, by omega, by go_num, by go_num⟩
      case measure => simp [intOf]; omega
    · go_wp2_with fail
      go_ret
      obtain rfl : k = n := by omega
      exact ⟨rfl, rfl⟩

set_option maxHeartbeats 2000000 in
theorem c_markBothS (L : List (Int × Int)) (k0 : Int) (v : Value) (base : Nat) (w : World) (hv : BO w base v L) (hn : L.length ≤ 1048576) (hk0 : 0 ≤ k0) (hk1 : k0 ≤ 1000000000) :
    Calls Try.prog 46 #[v, .int .i64 k0] w fun e w' => e = .returned (.int .i64 (k0 + 2 * L.length)) ∧ BO w' base v (marks L.length k0) ∧ w.grownBy w' v.ownBlock := by
  rcases hv.2 with ⟨rfl, h0⟩ | ⟨g, cap, cur, rfl, -⟩
  · have e : marks L.length k0 = [] := by rw [h0]; rfl
    rw [e, h0]
    go_enter Try.func46, Try.ntmps46
    go_wp2_with fail
    refine wp_loop_rounds 1 ?_
    rw [rounds_succ]
    go_wp2_with fail
    go_ret
    exact ⟨by simp, BO.nil _ _, World.grownBy.refl _ _⟩
  · go_enter Try.func46, Try.ntmps46
    go_wp2_with fail
    go_loopw [1, 5] (fun kk i wr => ∃ k : Nat, k ≤ L.length ∧ i = .int .i64 k ∧ kk = .int .i64 (k0 + 2 * (k : Int)) ∧ BO wr base (.slice (some ⟨g, 0, none⟩) L.length cap) (markTo L k0 k) ∧ w.grownBy wr (some g))
      (fun _ i _ => L.length - (intOf i).toNat)
    case atStart => exact ⟨0, by omega, rfl, by simp, by simpa [markTo] using hv, World.grownBy.refl _ _⟩
    case round =>
      obtain ⟨k, hk, rfl, rfl, hown, hgr⟩ := hrel
      by_cases hlt : k < L.length
      · obtain ⟨-, hcl, hfr⟩ := hown.cells
        obtain ⟨d1, d2⟩ := hcl k hlt
        have f1 := hfr (k * 2)
        have f2 := hfr (k * 2 + 1)
        clear hcl hfr
        go_wp2_with fail
        go_roundw
        case rel =>
          refine ⟨k + 1, by omega, by go_num, by go_num, ?_, ?_⟩
          · rw [← markTo_succ hlt]
            exact hown.store k _ _
          · exact (hgr.trans (grown_set _ _ _ _)).trans (grown_set _ _ _ _)
        case measure => simp [intOf]; omega
      · go_wp2_with fail
        go_ret
        obtain rfl : k = L.length := by omega
        rw [markTo_all] at hown
        exact ⟨rfl, hown, hgr⟩


end Go.Proofs.Ytofjfhifldafcaa

