/- walks of the laws of chapter 9, first part: FnBothOk, FnLeavesBoth -/
import Derived.Test.YtofjfhifldafcaaKR
import Derived.Test.YtofjfhifldafcaaI8
import Derived.Test.YtofjfhifldafcaaH
import Derived.Test.YtofjfhifldafcaaK20
namespace Go.Proofs.Ytofjfhifldafcaa
set_option linter.unusedVariables false
open Go.RowKit
attribute [local go_sem ↓] Go.wp_at_zero Go.wp_at_succ

theorem cellsB1 (w : World) (x y : Int) : Cs (w.alloc (.cells #[.int .i64 x, .int .i64 y] 27)) (w.alloc (.cells #[.int .i64 x, .int .i64 y] 27)).heap.size (some ⟨w.heap.size, 0, none⟩) [(x, y)] := by
  intro _
  refine ⟨w.heap.size, 0, rfl, by simp, fun k hk => ?_⟩
  obtain rfl : k = 0 := by simpa using hk
  have hz := heap_alloc_new w (.cells #[.int .i64 x, .int .i64 y] 27)
  have hq := fun o => cell_of_row _ w.heap.size o _ _ _ hz
  exact ⟨hq 0, hq 1⟩
theorem Cs.takeB {w : World} {B : Nat} {A : Option Addr} {L : List (Int × Int)} (h : Cs w B A L) (k : Nat) : Cs w B A (L.take k) := by
  intro hp
  rw [List.length_take] at hp
  obtain ⟨b, off, e, hlt, hc⟩ := h (by omega)
  refine ⟨b, off, e, hlt, fun j hj => ?_⟩
  rw [List.length_take] at hj
  have := hc j (by omega)
  simpa [X, Y, show j < k by omega] using this

set_option maxHeartbeats 4000000 in
theorem w_FnBothOk (A : Option Addr) (n c : Nat) (w : World) (h : Bs w w.heap.size A n) (hc : n ≤ c) :
    Calls Try.prog 3 #[.slice A n c] w fun e w' => e = .returned (.bool true) ∧ Below w.heap.size w w' := by
  by_cases hn : n ≤ 1048576
  · go_enter Try.func3, Try.ntmps3
    have k0 := Below.refl w.heap.size w
    have hs0 := k0.size
    go_wp2_with fail
    refine (c_DrawBothOk A n c _ h hn hc).mono ?_
    rintro e w1 ⟨L, v, rfl, hv, hl, hb1⟩
    obtain ⟨D, d, rfl, hd1, hd2, hD1⟩ := hv.form
    clear hv h
    have k1 := k0.trans (hb1.mono hs0)
    have hs1 := k1.size
    clear k0 hb1
    go_wp2_with fail
    refine (c_iBothOk L D d _ hD1 (by omega)).mono ?_
    rintro e w2 ⟨rfl, hb2⟩
    have k2 := k1.trans (hb2.mono hs1)
    have hs2 := k2.size
    have hD2 := (hD1.below hb2).more hb2.size
    clear k1 hb2 hD1
    go_wp2_with fail
    refine (c_sBothOk L D d _ hD2 (by omega)).mono ?_
    rintro e w3 ⟨rfl, hb3⟩
    have k3 := k2.trans (hb3.mono hs2)
    have hs3 := k3.size
    have hD3 := (hD2.below hb3).more hb3.size
    clear k2 hb3 hD2
    have hne : (bOk L != bOk L) = false := by simp
    have HB := Lib.hid (bOk_swap L)
    have hb0 : Below w3.heap.size w3 (w3.alloc (.cells #[] 27)) := by (repeat (first | exact rfl | exact Below.refl _ _ | (with_reducible refine Below.drew ?_) | (with_reducible refine Below.drewN ?_ _) | (with_reducible refine Below.alloc ?_ ?_ _) | (with_reducible refine Below.setCell ?_ ?_ _) | (show _ ≤ _; focus (first | omega | (simp; done) | (simp; omega)))))
    go_wp2_with fail
    go_loopw [5, 6] (fun lv kv wr => ∃ i : Nat, i ≤ L.length ∧ kv = .int .i64 (i : Int) ∧ BO wr w3.heap.size lv ((swapB L).take i) ∧ Below w3.heap.size w3 wr) (fun _ kv _ => L.length - (intOf kv).toNat)
    case atStart => exact ⟨0, by omega, rfl, BO.empty w3 (Nat.le_refl _), hb0⟩
    case round =>
      obtain ⟨i, hi, rfl, hown, hb⟩ := hrel
      have hsz := hb.size
      by_cases hlt : i < L.length
      · obtain ⟨b, off, rfl, hlb, hcc⟩ := hD3 (by omega)
        have c1 := (hb.cell (p := ⟨b, off + i * 2, none⟩) hlb).trans (hcc _ hlt).1
        have c2 := (hb.cell (p := ⟨b, off + i * 2 + 1, none⟩) hlb).trans (hcc _ hlt).2
        have p0 : (0 : Int) ≤ (i : Int) := by omega
        have p1 : (i : Int) < (L.length : Int) := by omega
        have ql : ((swapB L).take i).length = i := by rw [List.length_take, swapB_len]; omega
        have q5 : ((swapB L).take i).length ≤ 1000000000000 := by omega
        have QL := Lib.hid ql
        have HE := Lib.hid (show (swapB L).take (i + 1) = (swapB L).take i ++ [(Y L i, X L i)] by rw [take_snoc (by rw [swapB_len]; exact hlt), (swapB_XY hlt).1, (swapB_XY hlt).2])
        have hlw : b < wr.heap.size := by omega
        clear hcc ql
        go_wp2_with fail
        go_region_held3 (fun w' => w'.cell? ⟨b, off + i * 2, none⟩ = some (.int .i64 (X L i)) ∧ w'.cell? ⟨b, off + i * 2 + 1, none⟩ = some (.int .i64 (Y L i)))
          (first
            | go_keep
            | exact ⟨(hb6.cell (p := ⟨b, _, none⟩) hlb).trans ((((Below.refl _ _).alloc (Nat.le_refl _) _).cell (p := ⟨b, _, none⟩) hlw).trans c1), (hb6.cell (p := ⟨b, _, none⟩) hlb).trans ((((Below.refl _ _).alloc (Nat.le_refl _) _).cell (p := ⟨b, _, none⟩) hlw).trans c2)⟩)
          ((refine step_B (by rfl) (.tmp 25) (.tmp 37) (by rfl) w3.heap.size u5 ((swapB L).take i) (Y L i) (X L i) wr.heap.size (by rfl) ((hown.alloc _).drew) (by rfl) (heap_alloc_new _ _) q5 ?_ ?_; (simp; omega); intro g cap w6 hown6 hgr hb6))
        go_wp2_with fail
        go_roundw
        case rel =>
          refine ⟨i + 1, by omega, by go_num, by rw [HE.out, swapB_len, Nat.min_eq_left hi]; rw [QL.out] at hown6; exact hown6, ?_⟩
          refine Below.trans ?_ hb6
          (repeat (first | exact hb | exact Below.refl _ _ | (with_reducible refine Below.drew ?_) | (with_reducible refine Below.drewN ?_ _) | (with_reducible refine Below.alloc ?_ ?_ _) | (with_reducible refine Below.setCell ?_ ?_ _) | (show _ ≤ _; focus (first | omega | (simp; done) | (simp; omega)))))
        case measure => simp [intOf]; omega
      · obtain rfl : i = L.length := by omega
        have hlf : ¬ ((L.length : Int) < (L.length : Int)) := by omega
        rw [List.take_of_length_le (by rw [swapB_len]; omega)] at hown
        obtain ⟨G, g, rfl, hg1, hg2, hG⟩ := hown.form
        have kr := k3.trans (hb.mono hs3)
        have hb5 : Below wr.heap.size wr (wr.alloc (.cells #[.int .i64 1, .int .i64 1] 27)) := by (repeat (first | exact rfl | exact Below.refl _ _ | (with_reducible refine Below.drew ?_) | (with_reducible refine Below.drewN ?_ _) | (with_reducible refine Below.alloc ?_ ?_ _) | (with_reducible refine Below.setCell ?_ ?_ _) | (show _ ≤ _; focus (first | omega | (simp; done) | (simp; omega)))))
        have e1 : bOk [(1, 1)] = true := by decide
        have HT := Lib.hid (c_iBothOk [(1, 1)] _ 1 _ (cellsB1 wr 1 1) (by simp))
        have HG := Lib.hid (fun (W : World) (hW : Below wr.heap.size wr W) => show Calls Try.prog 18 #[.slice G L.length g] W fun e w' => e = .returned (.bool (bOk L)) ∧ Below W.heap.size W w' from by
          have K := c_iBothOk (swapB L) G g W ((hG.below hW).more hW.size) (by rw [swapB_len]; omega)
          rw [HB.out, swapB_len] at K
          exact K)
        rw [swapB_len]
        clear hown
        go_wp2_with fail
        refine HT.out.mono ?_
        rintro e w5 ⟨rfl, hb6⟩
        rw [e1]
        have hx5 := hb5.trans (hb6.mono hb5.size)
        clear hb6
        go_wp2_with fail
        refine (HG.out _ hx5).mono ?_
        rintro e w6 ⟨rfl, hb7⟩
        have hx6 := hx5.trans (hb7.mono hx5.size)
        cases hok : bOk L with
        | true =>
          go_wp2_with fail
          refine (c_alive _).mono ?_
          rintro e w7 ⟨rfl, hb8⟩
          go_wp2_with fail
          go_ret
          exact ⟨rfl, (kr.trans (hx6.mono kr.size)).trans (hb8.mono (Nat.le_trans kr.size hx6.size))⟩
        | false =>
          go_wp2_with fail
          refine (c_alive _).mono ?_
          rintro e w7 ⟨rfl, hb8⟩
          go_wp2_with fail
          go_ret
          exact ⟨rfl, (kr.trans (hx6.mono kr.size)).trans (hb8.mono (Nat.le_trans kr.size hx6.size))⟩
  · go_enter Try.func3, Try.ntmps3
    go_wp2_with fail
    go_ret
    exact ⟨rfl, Below.refl _ _⟩

set_option maxHeartbeats 4000000 in
theorem w_FnLeavesBoth (A : Option Addr) (n c : Nat) (w : World) (h : Bs w w.heap.size A n) (hc : n ≤ c) :
    Calls Try.prog 4 #[.slice A n c] w fun e w' => e = .returned (.bool true) ∧ Below w.heap.size w w' := by
  by_cases hn : n ≤ 1048576
  · go_enter Try.func4, Try.ntmps4
    have k0 := Below.refl w.heap.size w
    have hs0 := k0.size
    go_wp2_with fail
    refine (c_DrawLeavesBoth A n c _ h hn hc).mono ?_
    rintro e w1 ⟨L, v, rfl, hv, hl, hb1⟩
    obtain ⟨D, d, rfl, hd1, hd2, hD1⟩ := hv.form
    clear hv h
    have k1 := k0.trans (hb1.mono hs0)
    have hs1 := k1.size
    clear k0 hb1
    have hll : (leavesB L).length ≤ 7 := by
      unfold leavesB; split <;> simp; omega
    go_wp2_with fail
    refine (c_iLeavesBoth L D d _ hD1 hd1 (by omega)).mono ?_
    rintro e w2 ⟨v2, rfl, o2, hb2⟩
    obtain ⟨G, g, rfl, hg1, hg2, hG2⟩ := o2.form
    clear o2
    have k2 := k1.trans (hb2.mono hs1)
    have hs2 := k2.size
    have hD2 := (hD1.below hb2).more hb2.size
    clear k1 hb2 hD1
    go_wp2_with fail
    refine (c_sLeavesBoth L D d _ hD2 (by omega)).mono ?_
    rintro e w3 ⟨v3, rfl, o3, hb3⟩
    obtain ⟨S, s, rfl, hg4, hg5, hS3⟩ := o3.form
    clear o3
    have k3 := k2.trans (hb3.mono hs2)
    have hs3 := k3.size
    have hD3 := (hD2.below hb3).more hb3.size
    have hG3 := (hG2.below hb3).more hb3.size
    clear k2 hb3 hD2 hG2
    go_wp2_with fail
    refine (c_sameInts (leavesB L) G S _ _ g s _ hG3 hS3 (by omega)).mono ?_
    rintro e w4 ⟨rfl, hb4⟩
    have k4 := k3.trans (hb4.mono hs3)
    have hs4 := k4.size
    have hD4 := (hD3.below hb4).more hb4.size
    have hG4 := (hG3.below hb4).more hb4.size
    have hS4 := (hS3.below hb4).more hb4.size
    clear k3 hb4 hD3 hG3 hS3
    clear hS4
    cases hok : bOk L with
    | true =>
      have hR := leavesB_yes hok
      have hp := bOk_parts hok
      have hln : (leavesB L).length = L.length := by rw [hR]; simp
      have hz : (((leavesB L).length : Int) == 0) = false := beq_eq_false_iff_ne.2 (by omega)
      have HZ := Lib.hid (fun k (hk : k < L.length) => show Z (leavesB L) k = secTo L (k + 1) by rw [hR]; simp [Z, hk])
      have HUp := Lib.hid (fun k => secTo_up (L := L) k)
      have HW := Lib.hid (fun k (hk : k < L.length) => leaves_ways hok hk)
      have HFi := Lib.hid (show secTo L 1 = X L 0 + Y L 0 by have := hp.1 0 (by omega); simp only [secTo, pF]; omega)
      have HXY := Lib.hid hp.1
      have HB := Lib.hid (fun k (hk : k < L.length) => show 0 ≤ secTo L (k + 1) ∧ secTo L (k + 1) ≤ 1000 by
        have h1 := secTo_lw (bOk_okB hok) (k + 1) (by omega)
        have h2 := lw_bd (L := L.take (k + 1)) (bOk_of ((bOk_okB hok).take _) (by rw [List.length_take]; omega) (by rw [List.length_take]; omega))
        omega)
      have hl1 : 1 ≤ L.length := hp.2.1
      rw [hln] at hz hg1 ⊢
      have HLn := Lib.hid hln
      clear hok hR hp hln hll hg4
      go_wp2_with fail
      go_loopw [5] (fun i wr => ∃ k : Nat, 1 ≤ k ∧ k ≤ L.length ∧ i = .int .i64 (k : Int) ∧ Below w4.heap.size w4 wr) (fun i _ => L.length - (intOf i).toNat)
      case atStart => exact ⟨1, by omega, hl1, rfl, Below.refl _ _⟩
      case round =>
        obtain ⟨k, hk1, hk, rfl, hb⟩ := hrel
        have hsz := hb.size
        obtain ⟨db, doff, rfl, hdb, hdc⟩ := hD4 (by omega)
        obtain ⟨gb, go, rfl, hgb, hgc⟩ := hG4 (by rw [HLn.out]; omega)
        by_cases hlt : k < L.length
        · have c1 := (hgc k (by rw [HLn.out]; omega))
          have c2 := (hgc (k - 1) (by rw [HLn.out]; omega))
          rw [HZ.out k hlt] at c1
          rw [HZ.out (k - 1) (by omega), show k - 1 + 1 = k by omega] at c2
          have c3 := (hdc k hlt).2
          have e1 := WB.cell (B := wr.heap.size) (by omega) ((hb.cell (p := ⟨gb, go + k, none⟩) hgb).trans c1)
          have e2 := WB.cell (B := wr.heap.size) (by omega) ((hb.cell (p := ⟨gb, go + (k - 1), none⟩) hgb).trans c2)
          have e3 := WB.cell (B := wr.heap.size) (by omega) ((hb.cell (p := ⟨db, doff + k * 2 + 1, none⟩) hdb).trans c3)
          have p0 : (0 : Int) ≤ (k : Int) := by omega
          have p1 : (0 : Int) ≤ (k : Int) - 1 := by omega
          have p2 : (k : Int) - 1 < (L.length : Int) := by omega
          have p3 : ((k : Int) - 1).toNat = k - 1 := by omega
          have p4 : (1 : Int) ≤ (k : Int) := by omega
          have p5 : (k : Int) < (L.length : Int) := by omega
          have p6 : (k : Int) + 1 ≤ (L.length : Int) := by omega
          have p7 : (0 : Int) ≤ (k : Int) + 1 := by omega
          have p8 : (k : Int) + 1 ≤ (d : Int) := by omega
          have p9 : ((k : Int) + 1).toNat = k + 1 := by omega
          have b1 := HB.out k hlt
          have b2 := HB.out (k - 1) (by omega)
          rw [show k - 1 + 1 = k by omega] at b2
          have b3 := HXY.out k hlt
          have hup := HUp.out k
          have hnl : decide (secTo L (k + 1) < secTo L k + Y L k) = false := decide_eq_false (by omega)
          have q1 : IntKind.i64.wrap (secTo L k + Y L k) = secTo L k + Y L k := IntWalk.i64_in _ (by omega)
          have q2 : IntKind.i64.wrap ((k : Int) - 1) = (k : Int) - 1 := IntWalk.i64_in _ (by omega)
          have q3 : IntKind.i64.wrap ((k : Int) + 1) = (k : Int) + 1 := IntWalk.i64_in _ (by omega)
          have hbn : (secTo L (k + 1) != secTo L (k + 1)) = false := by simp
          have HK := Lib.hid (fun (W : World) (hW : Below wr.heap.size wr W) => show Calls Try.prog 25 #[.slice (some ⟨db, doff, none⟩) (k + 1) d] W fun e w' => e = .returned (.int .i64 (secTo L (k + 1))) ∧ Below W.heap.size W w' from by
            have K := c_iLongestWay (L.take (k + 1)) (some ⟨db, doff, none⟩) d W ((((hD4.below hb).more hsz).takeB (k + 1)).below hW |>.more hW.size) (by rw [List.length_take]; omega) (by rw [List.length_take]; omega)
            rw [← HW.out k hlt, List.length_take, show min (k + 1) L.length = k + 1 by omega] at K
            exact K)
          clear c1 c2 c3 b1 b2 b3 hup hgc hdc
          go_wp2_with fail
          refine wp_region_wb wr.heap.size (by kernel_rfl) (by kernel_rfl) ?_
          repeat (go_big_quiet_step (first | (go_at_call 25; exact Calls.inB (Nat.le_refl _) (HK.out _ (WB.below _)))))
          refine wpQuiet_nil ?_
          rintro w5 ⟨⟨_, hb5⟩, rfl⟩
          have hbx := hb.trans (hb5.mono hsz)
          clear hb5 hb e1 e2 e3 q1 q2 q3 HK hnl hbn p0 p1 p2 p3 p4 p5 p6 p7 p8 p9
          go_wp2_with fail
          go_roundw
          case rel => exact ⟨k + 1, by omega, by omega, by go_num, hbx⟩
          case measure => simp [intOf]; omega
        · have hlf : ¬ ((k : Int) < (L.length : Int)) := by omega
          obtain rfl : k = L.length := by omega
          have c1 := (hgc 0 (by rw [HLn.out]; omega))
          have c2 := (hgc (L.length - 1) (by rw [HLn.out]; omega))
          rw [HZ.out 0 (by omega), Nat.zero_add, HFi.out, Nat.add_zero] at c1
          rw [HZ.out (L.length - 1) (by omega), show L.length - 1 + 1 = L.length by omega] at c2
          obtain ⟨c3, c4⟩ := hdc 0 (by omega)
          rw [Nat.zero_mul, Nat.add_zero] at c3 c4
          have e1 := WB.cell (B := wr.heap.size) (by omega) ((hb.cell (p := ⟨gb, go, none⟩) hgb).trans c1)
          have e2 := WB.cell (B := wr.heap.size) (by omega) ((hb.cell (p := ⟨gb, go + (L.length - 1), none⟩) hgb).trans c2)
          have e3 := WB.cell (B := wr.heap.size) (by omega) ((hb.cell (p := ⟨db, doff, none⟩) hdb).trans c3)
          have e4 := WB.cell (B := wr.heap.size) (by omega) ((hb.cell (p := ⟨db, doff + 1, none⟩) hdb).trans c4)
          have p0 : (0 : Int) < (L.length : Int) := by omega
          have p1 : (0 : Int) ≤ (L.length : Int) - 1 := by omega
          have p2 : (L.length : Int) - 1 < (L.length : Int) := by omega
          have p3 : ((L.length : Int) - 1).toNat = L.length - 1 := by omega
          have p4 : (1 : Int) ≤ (L.length : Int) := by omega
          have b3 := HXY.out 0 (by omega)
          have q1 : IntKind.i64.wrap (X L 0 + Y L 0) = X L 0 + Y L 0 := IntWalk.i64_in _ (by omega)
          have q2 : IntKind.i64.wrap ((L.length : Int) - 1) = (L.length : Int) - 1 := IntWalk.i64_in _ (by omega)
          have hbe : (X L 0 + Y L 0 == X L 0 + Y L 0) = true := by simp
          have hbe2 : (secTo L L.length == secTo L L.length) = true := by simp
          have HK := Lib.hid (fun (W : World) (hW : Below wr.heap.size wr W) => show Calls Try.prog 25 #[.slice (some ⟨db, doff, none⟩) L.length d] W fun e w' => e = .returned (.int .i64 (secTo L L.length)) ∧ Below W.heap.size W w' from by
            have K := c_iLongestWay L (some ⟨db, doff, none⟩) d W ((((hD4.below hb).more hsz)).below hW |>.more hW.size) hd1 (by omega)
            have e := HW.out (L.length - 1) (by omega)
            rw [show L.length - 1 + 1 = L.length by omega, List.take_length] at e
            rw [← e] at K
            exact K)
          clear c1 c2 c3 c4 b3 hgc hdc
          go_wp2_with fail
          refine wp_region_wb wr.heap.size (by kernel_rfl) (by kernel_rfl) ?_
          repeat (go_big_quiet_step (first | (go_at_call 25; exact Calls.inB (Nat.le_refl _) (HK.out _ (WB.below _)))))
          refine wpQuiet_nil ?_
          rintro w5 ⟨⟨_, hb5⟩, rfl⟩
          have hbx := hb.trans (hb5.mono hsz)
          go_wp2_with fail
          go_ret
          exact ⟨by first | rfl | (rw [hbe2]; rfl), k4.trans (hbx.mono hs4)⟩
    | false =>
      have hR := leavesB_no hok
      have KT := c_iBothOk L D d w4 hD4 (by omega)
      rw [hok] at KT
      have HKT := Lib.hid KT
      have hz : (leavesB L).length = 0 := by rw [hR]; rfl
      rw [hz]
      clear hok KT hR hll hg1 hg4
      go_wp2_with fail
      refine HKT.out.mono ?_
      rintro e w5 ⟨rfl, hb5⟩
      have k5 := k4.trans (hb5.mono hs4)
      go_wp2_with fail
      refine (c_alive _).mono ?_
      rintro e w6 ⟨rfl, hb6⟩
      go_wp2_with fail
      go_ret
      exact ⟨rfl, k5.trans (hb6.mono k5.size)⟩
  · go_enter Try.func4, Try.ntmps4
    go_wp2_with fail
    go_ret
    exact ⟨rfl, Below.refl _ _⟩

end Go.Proofs.Ytofjfhifldafcaa

