/- walks of the laws of chapter 7, fifth part: FnWeightedSum -/
import Derived.Test.YtckebkaaokfonaaKN
import Derived.Test.YtckebkaaokfonaaI6
import Derived.Test.YtckebkaaokfonaaH
namespace Go.Proofs.Ytckebkaaokfonaa
set_option linter.unusedVariables false
open Go.RowKit
attribute [local go_sem ↓] Go.wp_at_zero Go.wp_at_succ

theorem heap_newT (w : World) (o p : Obj) : ((w.alloc o).alloc p).heap[w.heap.size + 1]? = some p := by
  have h := heap_alloc_new (w.alloc o) p
  rwa [show (w.alloc o).heap.size = w.heap.size + 1 by simp] at h

set_option maxRecDepth 4000 in
set_option maxHeartbeats 8000000 in
theorem w_FnWeightedSum (A : Option Addr) (n c : Nat) (w : World) (h : Bs w w.heap.size A n) (hc : n ≤ c) :
    Calls Try.prog 5 #[.slice A n c] w fun e w' => e = .returned (.bool true) ∧ Below w.heap.size w w' := by
  by_cases hn : n ≤ 1048576
  · go_enter Try.func5, Try.ntmps5
    go_wp2_with fail
    refine (c_DrawWeightedSum A n c _ h hn hc).mono ?_
    rintro e w1 ⟨L, v, o, u, rfl, hv, hl, hu, ho, hb1⟩
    obtain ⟨D, d, rfl, hd1, hd2, hD⟩ := hv.form
    obtain ⟨O, od, rfl, ho1, ho2, hO⟩ := hu.form
    have hs1 := hb1.size
    clear hv h hu
    go_wp2_with fail
    refine (c_iWeightedSum L o D O d od _ hD hO (by omega) (by omega)).mono ?_
    rintro e w2 ⟨rfl, hb2⟩
    have k2 := hb1.trans (hb2.mono hs1)
    have hs2 := k2.size
    have hD2 := (hD.below hb2).more hb2.size
    have hO2 := (hO.below hb2).more hb2.size
    clear hb1 hb2 hD hO
    go_wp2_with fail
    refine (c_sWeightedSum L o D O d od _ hD2 hO2 (by omega) (by omega)).mono ?_
    rintro e w3 ⟨rfl, hb3⟩
    have k3 := k2.trans (hb3.mono hs2)
    have hs3 := k3.size
    have hD3 := (hD2.below hb3).more hb3.size
    have hO3 := (hO2.below hb3).more hb3.size
    have hne : (wsumV L o != wsumV L o) = false := by simp
    clear k2 hb3 hD2 hO2
    by_cases hok : tOk L = true ∧ eachV o L.length = true
    · obtain ⟨ht, he⟩ := hok
      have hol : o.length = L.length := by have := (each_iff.1 he).2.1; omega
      have hb := wsW_bd ht he o.length (Nat.le_refl _)
      have hnb : 0 ≤ wsumV L o ∧ wsumV L o ≤ 4000 := by rw [wsumV_yes ht he]; omega
      have HSW := Lib.hid (fun k (hk : k + 1 < o.length) => swap_sum ht he hk)
      have HOK := Lib.hid (fun k (hk : k + 1 < o.length) => show swapOk o (k : Int) = true ∧ swapR o (k : Int) = swapL o k from by
        have e1 : swapOk o (k : Int) = true := by
          rw [← hol] at he
          simp only [swapOk, he]; simp; omega
        exact ⟨e1, by rw [swapR_yes e1]; simp⟩)
      have HZ := Lib.hid (fun k (hk : k < o.length) => each_Z he hk)
      have HN := Lib.hid (fun i (hi : i < L.length) => (tOk_parts ht).1 i hi)
      have HL := Lib.hid (leastW_le ht he)
      have HOL := Lib.hid hol
      clear ht he hb hol
      generalize wsumV L o = nn at *
      go_wp2_with fail
      go_loopw [6] (fun i wr => ∃ k : Nat, i = .int .i64 k ∧ (k : Int) ≤ max ((o.length : Int) - 1) 0 ∧ Below w3.heap.size w3 wr) (fun i _ => o.length - (intOf i).toNat)
      case atStart => exact ⟨0, rfl, by omega, Below.refl _ _⟩
      case round =>
        obtain ⟨k, rfl, hk, hb⟩ := hrel
        have hsz := hb.size
        by_cases hlt : k + 1 < o.length
        · have hlt' : (k : Int) + 1 < (o.length : Int) := by omega
          obtain ⟨hw1, hw2⟩ := HOK.out k hlt
          have HSA := Lib.hid (show Calls Try.prog 26 #[.slice O o.length od, .int .i64 (k : Int)] wr fun e w' => ∃ v, e = .returned (swapV v true) ∧ IO w' wr.heap.size v (swapL o k) ∧ Below wr.heap.size wr w' from by
            have K := c_iSwappedAt o O od (k : Int) wr ((hO3.below hb).more hsz) (by omega)
            rw [hw1, hw2] at K
            exact K)
          clear hw1 hw2
          go_wp2_with fail
          refine HSA.out.mono ?_
          rintro e w5 ⟨v5, rfl, o5, hb5⟩
          obtain ⟨G, g, rfl, hg1, hg2, hG⟩ := o5.form
          rw [swapL_len] at hg1 ⊢
          simp only [swapV]
          have hx5 := hb.trans (hb5.mono hsz)
          have hs5 := hx5.size
          have hD5 := (hD3.below hx5).more hs5
          have hO5 := (hO3.below hx5).more hs5
          obtain ⟨z1, z2⟩ := HZ.out k (by omega)
          obtain ⟨b, off, rfl, hlb, hcc⟩ := hD5 (by omega)
          obtain ⟨ob, oo, rfl, hob, hoc⟩ := hO5 (by omega)
          obtain ⟨y1, y2⟩ := HZ.out (k + 1) hlt
          have c0 := hoc k (by omega)
          have c1 := hoc (k + 1) hlt
          have c2 := (hcc (Z o k).toNat (by omega)).1
          have c3 := (hcc (Z o k).toNat (by omega)).2
          have c4 := (hcc (Z o (k + 1)).toNat (by omega)).1
          have c5 := (hcc (Z o (k + 1)).toNat (by omega)).2
          have p0 : (0 : Int) ≤ (k : Int) := by omega
          have p1 : (k : Int) < (o.length : Int) := by omega
          have p2 : (0 : Int) ≤ (k : Int) + 1 := by omega
          have p3 : ((k : Int) + 1).toNat = k + 1 := by omega
          have z3 : Z o k < (L.length : Int) := by omega
          have y3 : Z o (k + 1) < (L.length : Int) := by omega
          have hsw := HSW.out k hlt
          simp only [wt, nd] at hsw
          obtain ⟨⟨n1, n2⟩, n3, n4⟩ := HN.out (Z o k).toNat (by omega)
          obtain ⟨⟨v1, v2⟩, v3, v4⟩ := HN.out (Z o (k + 1)).toNat (by omega)
          obtain ⟨w6, hw6⟩ : ∃ w6, (w5.alloc (.cells #[.int .i64 (X L (Z o k).toNat), .int .i64 (Y L (Z o k).toNat)] 27)).alloc (.cells #[.int .i64 (X L (Z o (k + 1)).toNat), .int .i64 (Y L (Z o (k + 1)).toNat)] 27) = w6 := ⟨_, rfl⟩
          have hq1 := (Below.heap_alloc (w5.alloc (.cells #[.int .i64 (X L (Z o k).toNat), .int .i64 (Y L (Z o k).toNat)] 27)) (.cells #[.int .i64 (X L (Z o (k + 1)).toNat), .int .i64 (Y L (Z o (k + 1)).toNat)] 27) w5.heap.size (by simp)).trans (heap_alloc_new w5 _)
          have hq2 := heap_newT w5 (.cells #[.int .i64 (X L (Z o k).toNat), .int .i64 (Y L (Z o k).toNat)] 27) (.cells #[.int .i64 (X L (Z o (k + 1)).toNat), .int .i64 (Y L (Z o (k + 1)).toNat)] 27)
          have hs6 : ((w5.alloc (.cells #[.int .i64 (X L (Z o k).toNat), .int .i64 (Y L (Z o k).toNat)] 27)).alloc (.cells #[.int .i64 (X L (Z o (k + 1)).toNat), .int .i64 (Y L (Z o (k + 1)).toNat)] 27)).heap.size = w5.heap.size + 2 := by simp
          have hb6 : Below w5.heap.size w5 ((w5.alloc (.cells #[.int .i64 (X L (Z o k).toNat), .int .i64 (Y L (Z o k).toNat)] 27)).alloc (.cells #[.int .i64 (X L (Z o (k + 1)).toNat), .int .i64 (Y L (Z o (k + 1)).toNat)] 27)) := by (repeat (first | exact rfl | exact Below.refl _ _ | (with_reducible refine Below.drew ?_) | (with_reducible refine Below.drewN ?_ _) | (with_reducible refine Below.alloc ?_ ?_ _) | (with_reducible refine Below.setCell ?_ ?_ _) | (show _ ≤ _; focus (first | omega | (simp; done) | (simp; omega)))))
          rw [hw6] at hq1 hq2 hs6 hb6
          have hD6 := (hD5.below hb6).more hb6.size
          have hG6 := (hG.below hb6).more hb6.size
          have HKW := Lib.hid (fun s : WB w6.heap.size w6 => show Calls Try.prog 24 #[.slice (some ⟨b, off, none⟩) L.length d, .slice G o.length g] s.val fun e w' => e = .returned (.int .i64 (nn + Y L (Z o k).toNat * X L (Z o (k + 1)).toNat - Y L (Z o (k + 1)).toNat * X L (Z o k).toNat)) ∧ Below s.val.heap.size s.val w' from by
            have K := c_iWeightedSum L (swapL o k) (some ⟨b, off, none⟩) G d g s.val (s.cs hD6 (Nat.le_refl _)) (s.is hG6 (Nat.le_refl _)) (by omega) (by rw [swapL_len]; omega)
            rw [swapL_len, hsw] at K
            exact K)
          generalize X L (Z o k).toNat = xa at *
          generalize Y L (Z o k).toNat = ya at *
          generalize X L (Z o (k + 1)).toNat = xb at *
          generalize Y L (Z o (k + 1)).toNat = yb at *
          have m1 : 0 ≤ ya * xb ∧ ya * xb ≤ 81 := ⟨Int.mul_nonneg n3 (by omega), Int.mul_le_mul n4 v2 (by omega) (by omega)⟩
          have m2 : 0 ≤ yb * xa ∧ yb * xa ≤ 81 := ⟨Int.mul_nonneg v3 (by omega), Int.mul_le_mul v4 n2 (by omega) (by omega)⟩
          have q1 : IntKind.i64.wrap (ya * xb) = ya * xb := IntWalk.i64_in _ (by omega)
          have q2 : IntKind.i64.wrap (yb * xa) = yb * xa := IntWalk.i64_in _ (by omega)
          have q3 : IntKind.i64.wrap (nn + ya * xb) = nn + ya * xb := IntWalk.i64_in _ (by omega)
          have q4 : IntKind.i64.wrap (nn + ya * xb - yb * xa) = nn + ya * xb - yb * xa := IntWalk.i64_in _ (by omega)
          have e1 := fun o' v h => WB.cell (B := w6.heap.size) (w := w6) (b := w5.heap.size) (o := o') (v := v) (by omega) (cell_of_row _ w5.heap.size o' _ _ _ hq1 |>.trans h)
          have f1 := WB.cell (w := w6) (B := w6.heap.size) (b := w5.heap.size) (o := 0) (v := .int .i64 xa) (by omega) (cell_of_row _ w5.heap.size 0 _ _ _ hq1)
          have f2 := WB.cell (w := w6) (B := w6.heap.size) (b := w5.heap.size) (o := 1) (v := .int .i64 ya) (by omega) (cell_of_row _ w5.heap.size 1 _ _ _ hq1)
          have f3 := WB.cell (w := w6) (B := w6.heap.size) (b := w5.heap.size + 1) (o := 0) (v := .int .i64 xb) (by omega) (cell_of_row _ (w5.heap.size + 1) 0 _ _ _ hq2)
          have f4 := WB.cell (w := w6) (B := w6.heap.size) (b := w5.heap.size + 1) (o := 1) (v := .int .i64 yb) (by omega) (cell_of_row _ (w5.heap.size + 1) 1 _ _ _ hq2)
          clear e1 hcc hoc n1 n2 n3 n4 v1 v2 v3 v4 m1 m2 hsw hD6 hG6 hG o5 hD5 hO5 hq1 hq2
          go_wp2_with fail
          refine wp_region_wb w6.heap.size (by kernel_rfl) (by kernel_rfl) ?_
          repeat (go_big_quiet_step ((go_at_call 24; exact Calls.inB (Nat.le_refl _) (HKW.out _))))
          refine wpQuiet_nil ?_
          rintro w7 ⟨⟨_, hb7⟩, rfl⟩
          clear f1 f2 f3 f4 q1 q2 q3 q4 c0 c1 c2 c3 c4 c5
          go_wp2_with fail
          go_roundw
          case rel => exact ⟨k + 1, by go_num, by omega, (hx5.trans (hb6.mono hs5)).trans (hb7.mono (by omega))⟩
          case measure => simp [intOf]; omega
        · have hlf : ¬ ((k : Int) + 1 < (o.length : Int)) := by omega
          have kr := k3.trans (hb.mono hs3)
          have hsr := kr.size
          have d1 : decide (leastW L ≤ nn) = true := decide_eq_true HL.out
          have HKL := Lib.hid (c_iLeastWeighted L D d wr ((hD3.below hb).more hsz) (by omega))
          generalize leastW L = lw at *
          go_wp2_with fail
          refine HKL.out.mono ?_
          rintro e w5 ⟨rfl, hb5⟩
          go_wp2_with fail
          refine (c_alive _).mono ?_
          rintro e w6 ⟨rfl, hb6⟩
          go_wp2_with fail
          go_ret
          exact ⟨rfl, (kr.trans (hb5.mono hsr)).trans (hb6.mono (Nat.le_trans hsr hb5.size))⟩
    · have hlw := wsumV_no hok
      rw [hlw]
      clear hok hne hlw
      go_wp2_with fail
      refine (c_alive _).mono ?_
      rintro e w5 ⟨rfl, hb5⟩
      go_wp2_with fail
      go_ret
      exact ⟨rfl, k3.trans (hb5.mono hs3)⟩
  · go_enter Try.func5, Try.ntmps5
    go_wp2_with fail
    go_ret
    exact ⟨rfl, Below.refl _ _⟩

end Go.Proofs.Ytckebkaaokfonaa

