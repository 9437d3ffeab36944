/- walks of the laws of chapter 5, second part: FnLeastSum (over the program's contracts) -/
import Derived.Test.YtgcoemfnjdbhaaaJ7
namespace Go.Proofs.Ytgcoemfnjdbhaaa
set_option linter.unusedVariables false
open Go.RowKit
attribute [local go_sem ↓] Go.wp_at_zero Go.wp_at_succ

theorem orderR_ord5 {L : List (Int × Int)} (h : cOk L = true) {k : Nat} (hk : k < 4) : ordOk L (orderR L k) = true := by
  obtain ⟨T, hT, -⟩ := lastLeave_nat h
  rw [orderR_two h (by omega) hT]
  exact orderTo_ok h k hT

set_option maxRecDepth 4000 in
set_option maxHeartbeats 8000000 in
theorem w_FnLeastSum (A : Option Addr) (n c : Nat) (w : World) (h : Bs w w.heap.size A n) (hc : n ≤ c) :
    Calls Try.prog 6 #[.slice A n c] w fun e w' => e = .returned (.bool true) ∧ Below w.heap.size w w' := by
  by_cases hn : n ≤ 1048576
  · go_enter Try.func6, Try.ntmps6
    go_wp2_with fail
    refine (c_DrawLeastSum A n c _ h hn hc).mono ?_
    rintro e w1 ⟨L, v, rfl, hv, hl, -, hb1⟩
    obtain ⟨D, dd, rfl, hd1, hd2, hD⟩ := hv.form
    have hs1 := hb1.size
    clear hv h
    go_wp2_with fail
    refine (c_iLeastSum L D dd _ hD hd1 (by omega)).mono ?_
    rintro e w2 ⟨rfl, hb2⟩
    have k2 := hb1.trans (hb2.mono hs1)
    have hs2 := k2.size
    have hD2 := (hD.below hb2).more hb2.size
    clear hb1 hb2 hD
    go_wp2_with fail
    refine (c_sLeastSum L D dd _ hD2 (by omega)).mono ?_
    rintro e w3 ⟨rfl, hb3⟩
    have k3 := k2.trans (hb3.mono hs2)
    have hs3 := k3.size
    have hD3 := (hD2.below hb3).more hb3.size
    clear k2 hb3 hD2
    cases hok : cOk L with
    | true =>
      have HSR := Lib.hid (fun (k : Nat) (hk : k < 4) => show decide (sumV L (orderR L (k : Int)) < leastV L) = false by
        have o := orderR_ord5 hok hk
        have l := least_le o
        rw [sumV_yes o]; exact decide_eq_false (by omega))
      have hlv : 0 ≤ leastV L := by
        have := sum_facts (orderR_ord5 hok (k := 0) (by omega)); omega
      have hlb := leastV_bd L
      have HZ := Lib.hid (fun (h0 : L.length = 0) => show leastV L = 0 by rw [leastV_yes hok, h0]; rfl)
      have HD := Lib.hid (fun (h0 : 0 < L.length) => show leastV (L.take (L.length - 1)) + Y L (L.length - 1) ≤ leastV L from least_drop hok (by omega))
      have HB := Lib.hid (fun k (hk : k < L.length) => cOk_bd hok hk)
      have KO := Lib.hid (fun r W hW => c_sOrderBy L D dd r W hW (by omega))
      have HL := Lib.hid (fun r => orderR_len L r)
      have KS := Lib.hid (fun r E e W hW hE => c_iSumOf L (orderR L r) D E dd e W hW hE (by omega) (by have := HL.out r; omega))
      clear hok
      generalize leastV L = lv at *
      have hne : (lv != lv) = false := by simp
      have d0 : decide (lv < 0) = false := decide_eq_false (by omega)
      go_wp2_with fail
      go_loopw [5] (fun i wr => ∃ k : Nat, k ≤ 4 ∧ i = .int .i64 k ∧ Below w3.heap.size w3 wr) (fun i _ => 4 - (intOf i).toNat)
      case atStart => exact ⟨0, by omega, rfl, Below.refl _ _⟩
      case round =>
        obtain ⟨k, hk, rfl, hb⟩ := hrel
        have hsz := hb.size
        have hDr := (hD3.below hb).more hsz
        by_cases hlt : k < 4
        · have hlt' : (k : Int) < 4 := by omega
          have ds := HSR.out k hlt
          go_wp2_with fail
          refine (KO.out k _ hDr).mono ?_
          rintro e w5 ⟨v5, rfl, o5, hb5⟩
          have hb35 := hb.trans (hb5.mono hsz)
          have hD5 := (hDr.below hb5).more hb5.size
          obtain ⟨E5, e5, rfl, -, -, hI5⟩ := o5.form
          clear hb5 hDr o5 hb hsz
          go_wp2_with fail
          refine (KS.out k E5 e5 _ hD5 hI5).mono ?_
          rintro e w6 ⟨rfl, hb6⟩
          have hb36 := hb35.trans (hb6.mono hb35.size)
          clear hb6 hD5 hI5 hb35
          go_wp2_with fail
          go_roundw
          case rel => exact ⟨k + 1, by omega, by go_num, hb36⟩
          case measure => simp [intOf]; omega
        · have hlf : ¬ ((k : Int) < 4) := by omega
          have kr := k3.trans (hb.mono hs3)
          have hsr := kr.size
          clear hb hk hlt KO KS HSR HL
          by_cases h0 : L.length = 0
          · have hl1 : (L.length : Int) - 1 < 0 := by omega
            have dl : decide ((L.length : Int) - 1 < 0) = true := decide_eq_true hl1
            have dz : (lv == 0) = true := beq_iff_eq.2 (HZ.out h0)
            have H0 := Lib.hid h0
            clear h0
            go_wp2_with fail
            refine wp_region_wb wr.heap.size (by kernel_rfl) (by kernel_rfl) ?_
            repeat (go_big_quiet_step ((go_at_call 17; exact Calls.inB (Nat.le_refl _) (c_alive _))))
            refine wpQuiet_nil ?_
            rintro w5 ⟨⟨_, hb5⟩, rfl⟩
            clear dl dz
            go_wp2_with fail
            go_ret
            exact ⟨rfl, kr.trans (hb5.mono hsr)⟩
          · have h1 : 0 < L.length := by omega
            have dl : decide ((L.length : Int) - 1 < 0) = false := decide_eq_false (by omega)
            have dg : decide ((0 : Int) ≤ (L.length : Int) - 1) = true := decide_eq_true (by omega)
            have p1 : (0 : Int) ≤ (L.length : Int) - 1 := by omega
            have p2 : (1 : Int) ≤ (L.length : Int) := by omega
            have p3 : (L.length : Int) - 1 < (L.length : Int) := by omega
            have p4 : (L.length : Int) - 1 ≤ (dd : Int) := by omega
            have p5 : ((L.length : Int) - 1).toNat = L.length - 1 := by omega
            have p6 : L.length - 1 ≤ dd := by omega
            obtain ⟨b, off, rfl, hlb', hcc⟩ := hDr (by omega)
            have c2 := WB.cell (w := wr) hlb' (hcc (L.length - 1) (by omega)).2
            have hdr := HD.out h1
            have hlb2 := leastV_bd (L.take (L.length - 1))
            have hyb := HB.out (L.length - 1) (by omega)
            have dq : decide (leastV (L.take (L.length - 1)) + Y L (L.length - 1) ≤ lv) = true := decide_eq_true hdr
            have q7 : IntKind.i64.wrap (leastV (L.take (L.length - 1)) + Y L (L.length - 1)) = leastV (L.take (L.length - 1)) + Y L (L.length - 1) := IntWalk.i64_in _ (by omega)
            have KT := Lib.hid (fun W (hW : Cs W W.heap.size (some ⟨b, off, none⟩) L) => by
              have K := c_iLeastSum (L.take (L.length - 1)) (some ⟨b, off, none⟩) dd W (hW.take _) (by rw [len_take (by omega)]; omega) (by rw [len_take (by omega)]; omega)
              rw [len_take (by omega)] at K
              exact K)
            clear hcc h0 h1
            go_wp2_with fail
            refine wp_region_wb wr.heap.size (by kernel_rfl) (by kernel_rfl) ?_
            repeat (go_big_quiet_step ((first | (go_at_call 23; exact Calls.inB (Nat.le_refl _) (KT.out _ (WB.cs _ hDr (Nat.le_refl _)))) | (go_at_call 17; exact Calls.inB (Nat.le_refl _) (c_alive _)))))
            refine wpQuiet_nil ?_
            rintro w5 ⟨⟨_, hb5⟩, rfl⟩
            clear dl dg dq q7 c2
            go_wp2_with fail
            go_ret
            exact ⟨rfl, kr.trans (hb5.mono hsr)⟩
    | false =>
      have HV := Lib.hid (leastV_no hok)
      rw [HV.out]
      clear hok
      go_wp2_with fail
      refine (c_alive _).mono ?_
      rintro e w6 ⟨rfl, hb6⟩
      go_wp2_with fail
      go_ret
      exact ⟨rfl, k3.trans (hb6.mono hs3)⟩
  · go_enter Try.func6, Try.ntmps6
    go_wp2_with fail
    go_ret
    exact ⟨rfl, Below.refl _ _⟩

end Go.Proofs.Ytgcoemfnjdbhaaa

