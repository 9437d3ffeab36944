/- impl.LeavesOf, spec.LeavesOf -/
import Derived.Test.YtndkeaikafmhcaaS2
namespace Go.Proofs.Ytndkeaikafmhcaa
set_option linter.unusedVariables false
open Go.RowKit
attribute [local go_sem ↓] Go.wp_at_zero Go.wp_at_succ

set_option maxHeartbeats 400000 in
theorem c_leaveAfter (x y t : Int) (w : World) (h1 : -1000 ≤ x) (h2 : x ≤ 1000) (h3 : -1000 ≤ t) (h4 : t ≤ 1000) (h5 : -1000 ≤ y) (h6 : y ≤ 1000) :
    Calls Try.prog 61 #[.agg #[.int .i64 x, .int .i64 y], .int .i64 t] w fun e w' => e = .returned (.int .i64 (x + t + y)) ∧ Below w.heap.size w w' := by
  go_enter Try.func61, Try.ntmps61
  go_wp2
  go_ret
  exact ⟨rfl, by (repeat (first | exact rfl | exact Below.refl _ _ | (with_reducible refine Below.drew ?_) | (with_reducible refine Below.drewN ?_ _) | (with_reducible refine Below.alloc ?_ ?_ _) | (with_reducible refine Below.setCell ?_ ?_ _) | (show _ ≤ _; focus (first | omega | (simp; done) | (simp; omega)))))⟩

theorem leaves_waits (L : List (Int × Int)) : (leaves L).length = (waits L).length := by
  by_cases h : cOk L = true
  · rw [leaves_yes h, waits_yes h, leavesTo_len, waitsTo_len]
  · rw [leaves_no (by simpa using h), waits_no (by simpa using h)]

set_option maxHeartbeats 2000000 in
theorem c_iLeavesOf (L : List (Int × Int)) (A : Option Addr) (c : Nat) (w : World) (hA : Cs w w.heap.size A L) (hn : L.length ≤ 140737488351232) :
    Calls Try.prog 27 #[.slice A L.length c] w fun e w' => ∃ v, e = .returned v ∧ IO w' w.heap.size v (leaves L) ∧ Below w.heap.size w w' := by
  by_cases h : cOk L = true
  · have Hg := Lib.hid (leaves_yes h)
    have Hgg := Lib.hid (waits_yes h)
    have Hbd := Lib.hid (fun k => @cOk_bd L k h)
    have Hwb := Lib.hid (waitAt_bd h)
    have hlen := cOk_len h
    clear h
    go_enter Try.func27, Try.ntmps27
    go_wp2_with fail
    refine (c_iWaitsOf L A c _ hA hn).mono ?_
    rintro e w1 ⟨v1, rfl, o1, hb1⟩
    rw [Hgg.out] at o1
    obtain ⟨G, g, rfl, -, -, hG⟩ := o1.form
    have hs1 := hb1.size
    rw [waitsTo_len] at *
    have HG := Lib.hid hG
    clear hG o1
    go_wp2_with fail
    go_loopw [3, 9] (fun o i wr => ∃ k : Nat, k ≤ L.length ∧ i = .int .i64 k ∧ IO wr w1.heap.size o (leavesTo L k) ∧ Below w1.heap.size w1 wr)
      (fun _ i _ => L.length - (intOf i).toNat)
    case atStart => exact ⟨0, by omega, rfl, IO.nil _ _, Below.refl _ _⟩
    case round =>
      obtain ⟨k, hk, rfl, hown, hb⟩ := hrel
      have hsz := hb.size
      by_cases hlt : k < L.length
      · obtain ⟨b, off, rfl, hlb, hc⟩ := hA (by omega)
        have hB := hb1.trans (hb.mono hs1)
        have c1 := (hB.cell (p := ⟨b, off + k * 2, none⟩) hlb).trans (hc k hlt).1
        have c2 := (hB.cell (p := ⟨b, off + k * 2 + 1, none⟩) hlb).trans (hc k hlt).2
        clear hc
        obtain ⟨gb, go, rfl, hgb, hgc⟩ := HG.out (by rw [waitsTo_len]; omega)
        have c3 := (hb.cell (p := ⟨gb, go + k, none⟩) hgb).trans (hgc k (by rw [waitsTo_len]; omega))
        rw [Z_waitsTo hlt] at c3
        clear hgc
        have bd1 := Hbd.out k hlt
        have bw := Hwb.out k hlt
        go_wp2_with fail
        refine (c_leaveAfter (X L k) (Y L k) (waitAt L k) _ (by omega) (by omega) (by omega) (by omega) (by omega) (by omega)).mono ?_
        rintro e w5 ⟨rfl, hb5⟩
        have o5 := hown.below hb5 (Nat.le_refl _)
        have hs5 := hb5.size
        have hz5 := hb.trans (hb5.mono hsz)
        have q5 : (leavesTo L k).length ≤ 1000000000000 := by rw [leavesTo_len]; omega
        have hq : w1.heap.size ≤ w5.heap.size := by omega
        clear hb5 hown bd1 bw
        go_wp2_with (refine app_I ?_ (.tmp 14) (.tmp 21) ?_ w1.heap.size u3 (leavesTo L k) (X L k + waitAt L k + Y L k) w5.heap.size ?_ ?_ ?_ ?_ ?_ ?_ ?_; rfl; rfl; rfl; exact (o5.alloc _); rfl; exact (heap_alloc_new _ _); exact q5; exact (Nat.le_trans hq (by simp)); intro g7 cap w7 hown7 hgr7 hb7)
        go_roundw
        case rel =>
          refine ⟨k + 1, by omega, by go_num, by rw [leavesTo_succ]; exact hown7, ?_⟩
          refine Below.trans ?_ hb7
          (repeat (first | exact hz5 | exact Below.refl _ _ | (with_reducible refine Below.drew ?_) | (with_reducible refine Below.drewN ?_ _) | (with_reducible refine Below.alloc ?_ ?_ _) | (with_reducible refine Below.setCell ?_ ?_ _) | (show _ ≤ _; focus (first | omega | (simp; done) | (simp; omega)))))
        case measure => simp [intOf]; omega
      · go_wp2_with fail
        go_ret
        refine ⟨_, rfl, ?_, hb1.trans (hb.mono hs1)⟩
        rw [Hg.out, show L.length = k by omega]
        exact hown.mono hs1
  · have hno : cOk L = false := by simpa using h
    have Hg := Lib.hid (leaves_no hno)
    have Hgg := Lib.hid (waits_no hno)
    clear h hno
    go_enter Try.func27, Try.ntmps27
    go_wp2_with fail
    refine (c_iWaitsOf L A c _ hA hn).mono ?_
    rintro e w1 ⟨v1, rfl, o1, hb1⟩
    rw [Hgg.out] at o1
    obtain ⟨G, g, rfl, -, -, -⟩ := o1.form
    go_wp2_with fail
    refine wp_loop_rounds 1 ?_
    rw [rounds_succ]
    go_wp2_with fail
    go_ret
    exact ⟨_, rfl, by rw [Hg.out]; exact IO.nil _ _, hb1⟩

end Go.Proofs.Ytndkeaikafmhcaa

