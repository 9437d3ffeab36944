/- walks of the laws of chapter 3, second part: FnBusyOf -/
import Derived.Test.YtjjncpimelpfiaaJ1
namespace Go.Proofs.Ytjjncpimelpfiaa
set_option linter.unusedVariables false
open Go.RowKit
attribute [local go_sem ↓] Go.wp_at_zero Go.wp_at_succ

theorem pos_of_not' {L : List (Int × Int)} (h : cOk L = false) : 0 < L.length := by
  cases L with
  | nil => exact absurd h (by decide)
  | cons _ _ => simp
theorem IOO.pairIs {w : World} {base : Nat} {v : Value} {B : List (Int × Int)} {vs : List Value} (h : IOO w base v (rows B) vs) {k : Nat} (hk : k < B.length) :
    ∃ ib ic, vs.getD k undef = .slice (some ⟨ib, 0, none⟩) 2 ic ∧ Is w w.heap.size (some ⟨ib, 0, none⟩) [X B k, Y B k] := by
  obtain ⟨ib, ic, h1, _, h2, h3, h4⟩ := h.pair hk
  refine ⟨ib, ic, h1, fun _ => ⟨ib, 0, rfl, h2, fun j hj => ?_⟩⟩
  simp only [List.length_cons, List.length_nil] at hj
  by_cases e : j = 0
  · subst e; exact h3
  · obtain rfl : j = 1 := by omega
    exact h4

set_option maxRecDepth 4000 in
set_option maxHeartbeats 8000000 in
theorem w_FnBusyOf (A : Option Addr) (n c : Nat) (w : World) (h : Bs w w.heap.size A n) (hc : n ≤ c) :
    Calls Try.prog 4 #[.slice A n c] w fun e w' => e = .returned (.bool true) ∧ Below w.heap.size w w' := by
  by_cases hn : n ≤ 1048576
  · go_enter Try.func4, Try.ntmps4
    go_wp2_with fail
    refine (c_DrawBusyOf A n c _ h hn hc).mono ?_
    rintro e w1 ⟨L, v, rfl, hv, hl, -, hb1⟩
    obtain ⟨D, d, rfl, hd1, hd2, hD⟩ := hv.form
    have hs1 := hb1.size
    clear hv
    go_wp2_with fail
    refine (c_iBusyOf L D d _ hD (by omega)).mono ?_
    rintro e w2 ⟨v2, rfl, ⟨vs2, o2⟩, hb2⟩
    have k2 := hb1.trans (hb2.mono hs1)
    have hs2 := k2.size
    have hD2 := (hD.below hb2).more hb2.size
    clear hb1 hb2 hD
    obtain ⟨O2, oc2, rfl, -, -, hO2⟩ := o2.form
    go_wp2_with fail
    refine (c_sBusyOf L D d _ hD2 (by omega)).mono ?_
    rintro e w3 ⟨v3, rfl, ⟨vs3, o3⟩, hb3⟩
    have k3 := k2.trans (hb3.mono hs2)
    have hs3 := k3.size
    have hD3 := (hD2.below hb3).more hb3.size
    obtain ⟨O3, oc3, rfl, -, -, hO3⟩ := o3.form
    have o2' := o2.below hb3 (Nat.le_refl _)
    have h23 := hb3.size
    rw [rows_len] at hO2 hO3 ⊢
    have hbl := busyP_len L
    clear k2 hD2 o2
    by_cases hok : cOk L = true
    · have HI := Lib.hid (busyP_inv hok)
      have Hok := Lib.hid hok
      have hlen := cOk_len hok
      generalize hP : busyP L = P at o2' o3 hO2 hO3 hbl HI ⊢
      clear hok hP
      have Hcl2 := Lib.hid (show ∀ k, k < P.length → ∃ g0 ib ic, O2 = some ⟨g0, 0, none⟩ ∧ g0 < w3.heap.size ∧ w3.cell? ⟨g0, k, none⟩ = some (.slice (some ⟨ib, 0, none⟩) 2 ic) ∧ Is w3 w3.heap.size (some ⟨ib, 0, none⟩) [X P k, Y P k] from fun k hk => by
        obtain ⟨g0, rfl, _, hg, hcl, _⟩ := hO2 (by omega)
        obtain ⟨ib, ic, hvs, his⟩ := o2'.pairIs hk
        refine ⟨g0, ib, ic, rfl, by omega, ?_, his⟩
        rw [(o2'.cells).2.1 k (by rw [rows_len]; omega)] at *
        rw [hvs])
      have Hcl3 := Lib.hid (show 0 < P.length → ∃ g0, O3 = some ⟨g0, 0, none⟩ ∧ g0 < w3.heap.size ∧ ∀ k, k < P.length → ∃ ib ic, w3.cell? ⟨g0, k, none⟩ = some (.slice (some ⟨ib, 0, none⟩) 2 ic) ∧ Is w3 w3.heap.size (some ⟨ib, 0, none⟩) [X P k, Y P k] ∧ ib < w3.heap.size ∧ w3.cell? ⟨ib, 0, none⟩ = some (.int .i64 (X P k)) ∧ w3.cell? ⟨ib, 1, none⟩ = some (.int .i64 (Y P k)) from fun hp => by
        obtain ⟨g0, rfl, _, hg, hcl, _⟩ := hO3 hp
        refine ⟨g0, rfl, hg, fun k hk => ?_⟩
        obtain ⟨ib, ic, hvs, hib, hib2, e1, e2⟩ := o3.pair hk
        obtain ⟨ib', ic', hvs', his⟩ := o3.pairIs hk
        rw [hvs] at hvs'
        injection hvs' with q1 q2 q3
        injection q1 with q1
        injection q1 with q1
        subst q1
        exact ⟨ib, ic, by rw [hcl k hk, hvs], his, hib2, e1, e2⟩)
      clear hO2 hO3 o2' o3
      go_wp2_with fail
      go_loopw [6] (fun i wr => ∃ k : Nat, k ≤ P.length ∧ i = .int .i64 k ∧ Below w3.heap.size w3 wr) (fun i _ => P.length - (intOf i).toNat)
      case atStart => exact ⟨0, Nat.zero_le _, rfl, Below.refl _ _⟩
      case round =>
        obtain ⟨k, hk, rfl, hb⟩ := hrel
        have hsz := hb.size
        by_cases hlt : k < P.length
        · obtain ⟨g0, ib, ic, rfl, hg0, d0, i0⟩ := Hcl2.out k hlt
          obtain ⟨g1, rfl, hg1, hq1⟩ := Hcl3.out (by omega)
          obtain ⟨jb, jc, d1, i1, -, -, -⟩ := hq1 k hlt
          clear hq1
          have c0 := WB.cell (B := wr.heap.size) (show g0 < wr.heap.size by omega) ((hb.cell (p := ⟨g0, k, none⟩) hg0).trans d0)
          have c1 := WB.cell (B := wr.heap.size) (show g1 < wr.heap.size by omega) ((hb.cell (p := ⟨g1, k, none⟩) hg1).trans d1)
          have j0 := (i0.below hb).more hsz
          have j1 := (i1.below hb).more hsz
          have p1 : (0 : Int) ≤ (k : Int) := by omega
          have p2 : (k : Int) < (P.length : Int) := by omega
          have HK := Lib.hid (fun W (h0 : Is W W.heap.size (some ⟨ib, 0, none⟩) [X P k, Y P k]) (h1 : Is W W.heap.size (some ⟨jb, 0, none⟩) [X P k, Y P k]) => c_sameInts [X P k, Y P k] (some ⟨ib, 0, none⟩) (some ⟨jb, 0, none⟩) _ _ ic jc W h0 h1 (by simp))
          clear d0 d1 i0 i1
          go_wp2_with fail
          refine wp_region_wb wr.heap.size (by kernel_rfl) (by kernel_rfl) ?_
          repeat (go_big_quiet_step ((go_at_call 21; exact Calls.inB (Nat.le_refl _) (HK.out _ (WB.is _ j0 (Nat.le_refl _)) (WB.is _ j1 (Nat.le_refl _))))))
          refine wpQuiet_nil ?_
          rintro _ ⟨⟨w5, hb5⟩, rfl⟩
          have hb7 := hb.trans (hb5.mono hsz)
          go_wp2_with fail
          go_roundw
          case rel => exact ⟨k + 1, by omega, by go_num, hb7⟩
          case measure => simp [intOf]; omega
        · have hlf : ¬ ((k : Int) < (P.length : Int)) := by omega
          clear Hcl2
          have k4 := k3.trans (hb.mono hs3)
          have hs4 := k4.size
          have hD4 := (hD3.below hb).more hsz
          go_wp2_with fail
          have HB := Lib.hid hb
          clear hb
          go_loopw [7] (fun i wq => ∃ k m : Nat, k ≤ P.length ∧ i = .int .i64 k ∧ wq = wr.drewN m) (fun i _ => P.length - (intOf i).toNat)
          case atStart => exact ⟨0, 0, Nat.zero_le _, rfl, rfl⟩
          case round =>
            obtain ⟨k, m, hk, rfl, rfl⟩ := hrel
            by_cases hlt : k < P.length
            · obtain ⟨g1, rfl, hg1, hq1⟩ := Hcl3.out (by omega)
              have HQ := Lib.hid hq1
              clear hq1
              obtain ⟨jb, jc, d1, -, hjb, d2, d3⟩ := HQ.out k hlt
              replace d1 := (HB.out.cell (p := ⟨g1, k, none⟩) hg1).trans d1
              replace d2 := (HB.out.cell (p := ⟨jb, 0, none⟩) hjb).trans d2
              replace d3 := (HB.out.cell (p := ⟨jb, 1, none⟩) hjb).trans d3
              have p1 : (0 : Int) ≤ (k : Int) := by omega
              have p2 : (k : Int) < (P.length : Int) := by omega
              have hr := HI.out.rng k hlt
              go_wp2_with fail
              go_loopw [8, 9, 10] (fun s b i wq => ∃ j z : Nat, j ≤ L.length ∧ i = .int .i64 j ∧ s = .int .i64 (inTo L (X P k) (Y P k) j) ∧ b = .bool (begTo L (X P k) j) ∧ wq = wr.drewN z) (fun _ _ i _ => L.length - (intOf i).toNat)
              case atStart => exact ⟨0, m, Nat.zero_le _, rfl, rfl, rfl, rfl⟩
              case round =>
                obtain ⟨j, z, hj, rfl, rfl, rfl, rfl⟩ := hrel
                by_cases hjl : j < L.length
                · obtain ⟨b, off, rfl, hlb, hcl⟩ := hD4 (by omega)
                  obtain ⟨c1, c2⟩ := hcl j hjl
                  have bd := cOk_bd Hok.out hjl
                  have bi := inTo_bd Hok.out (b := X P k) (e := Y P k) j (by omega)
                  clear hcl
                  have q1 : (0 : Int) ≤ (j : Int) := by omega
                  have q2 : (j : Int) < (L.length : Int) := by omega
                  have hcase : (decide (X P k ≤ X L j) = true ∧ decide (X L j < Y P k) = true ∧ Hid (inTo L (X P k) (Y P k) (j + 1) = inTo L (X P k) (Y P k) j + Y L j)) ∨ (decide (X P k ≤ X L j) = true ∧ decide (X L j < Y P k) = false ∧ Hid (inTo L (X P k) (Y P k) (j + 1) = inTo L (X P k) (Y P k) j)) ∨ (decide (X P k ≤ X L j) = false ∧ decide (X L j < Y P k) = decide (X L j < Y P k) ∧ Hid (inTo L (X P k) (Y P k) (j + 1) = inTo L (X P k) (Y P k) j)) := by
                    by_cases ha : X P k ≤ X L j
                    · by_cases hb' : X L j < Y P k
                      · exact .inl ⟨decide_eq_true ha, decide_eq_true hb', by show _ = _; simp only [inTo]; rw [if_pos ⟨ha, hb'⟩]⟩
                      · exact .inr (.inl ⟨decide_eq_true ha, decide_eq_false hb', by show _ = _; simp only [inTo]; rw [if_neg (fun h => hb' h.2)]; omega⟩)
                    · exact .inr (.inr ⟨decide_eq_false ha, rfl, by show _ = _; simp only [inTo]; rw [if_neg (fun h => ha h.1)]; omega⟩)
                  rcases hcase with ⟨ha, hb', hin⟩ | ⟨ha, hb', hin⟩ | ⟨ha, -, hin⟩
                  all_goals
                    cases hbg : begTo L (X P k) j
                    all_goals
                      have HBG := Lib.hid hbg
                      clear hbg
                      go_wp2_with fail
                      go_quiet (fail)
                      go_wp2_with fail
                      go_quiet (fail)
                      go_wp2_with fail
                      go_roundw
                      case rel => exact ⟨j + 1, _, by omega, by go_num, by rw [hin.out], by simp [begTo, HBG.out], rfl⟩
                      case measure => simp [intOf]; omega
                · have hjf : ¬ ((j : Int) < (L.length : Int)) := by omega
                  have hs' : inTo L (X P k) (Y P k) j = Y P k - X P k := by rw [show j = L.length by omega]; exact (period_sum HI.out Hok.out (by omega) hlt).symm
                  have hb' : begTo L (X P k) j = true := by rw [show j = L.length by omega]; exact period_begins HI.out Hok.out hlt
                  rw [hs', hb']
                  clear hs' hb'
                  by_cases hk0 : 0 < k
                  · obtain ⟨jb2, jc2, e1, -, hjb2, -, e3⟩ := HQ.out (k - 1) (by omega)
                    replace e1 := (HB.out.cell (p := ⟨g1, k - 1, none⟩) hg1).trans e1
                    replace e3 := (HB.out.cell (p := ⟨jb2, 1, none⟩) hjb2).trans e3
                    have hord := HI.out.ord (k - 1) (by omega)
                    rw [show k - 1 + 1 = k by omega] at hord
                    have hd1' : decide (0 < k) = true := decide_eq_true hk0
                    have hd2' : decide (X P k ≤ Y P (k - 1)) = false := decide_eq_false (by omega)
                    have k5 : (0 : Int) ≤ (k : Int) - 1 := by omega
                    have k6 : (k : Int) - 1 < (P.length : Int) := by omega
                    have k7 : (1 : Int) ≤ (k : Int) := by omega
                    clear hord
                    go_wp2_with fail
                    have q6 : ((k : Int) - 1).toNat = k - 1 := by omega
                    have q7 : IntKind.i64.wrap ((k : Int) - 1) = (k : Int) - 1 := IntWalk.i64_in _ (by omega)
                    have q8 : IntKind.i64.wrap (Y P k - X P k) = Y P k - X P k := IntWalk.i64_in _ (by omega)
                    go_quiet (fail)
                    clear q6 q7 q8
                    go_wp2_with fail
                    go_roundw
                    case rel => exact ⟨k + 1, _, by omega, by go_num, rfl⟩
                    case measure => simp [intOf]; omega
                  · have hd1' : decide (0 < k) = false := decide_eq_false hk0
                    clear hk0
                    go_wp2_with fail
                    have q8 : IntKind.i64.wrap (Y P k - X P k) = Y P k - X P k := IntWalk.i64_in _ (by omega)
                    go_quiet (fail)
                    clear q8
                    go_wp2_with fail
                    go_roundw
                    case rel => exact ⟨k + 1, _, by omega, by go_num, rfl⟩
                    case measure => simp [intOf]; omega
            · have hlf2 : ¬ ((k : Int) < (P.length : Int)) := by omega
              have hbq : Below wr.heap.size wr (wr.drewN m) := by (repeat (first | exact rfl | exact Below.refl _ _ | (with_reducible refine Below.drew ?_) | (with_reducible refine Below.drewN ?_ _) | (with_reducible refine Below.alloc ?_ ?_ _) | (with_reducible refine Below.setCell ?_ ?_ _) | (show _ ≤ _; focus (first | omega | (simp; done) | (simp; omega)))))
              have hDq := hD4.below hbq
              have hsq : w.heap.size ≤ (wr.drewN m).heap.size := hs4
              have kq := k4.trans (hbq.mono hs4)
              by_cases hp0 : P.length = 0
              · have hb0 : ((P.length : Int) == 0) = true := beq_iff_eq.2 (by omega)
                have hL0 := none_empty HI.out Hok.out (by omega) hp0
                have hb1 : ((L.length : Int) == 0) = true := beq_iff_eq.2 (by omega)
                clear hp0 hL0
                generalize wr.drewN m = W at hbq hDq hsq kq ⊢
                go_wp2_with fail
                refine (c_alive _).mono ?_
                rintro e w6 ⟨rfl, hb6⟩
                go_wp2_with fail
                go_ret
                exact ⟨rfl, kq.trans (hb6.mono hsq)⟩
              · have hb0 : ((P.length : Int) == 0) = false := beq_eq_false_iff_ne.2 (by omega)
                have hpp : 0 < P.length := by omega
                obtain ⟨g1, rfl, hg1, hq1⟩ := Hcl3.out hpp
                obtain ⟨jb, jc, d1, -, hjb, -, d3⟩ := hq1 (P.length - 1) (by omega)
                replace d1 := (hbq.cell (p := ⟨g1, P.length - 1, none⟩) (by show g1 < _; omega)).trans ((HB.out.cell (p := ⟨g1, P.length - 1, none⟩) hg1).trans d1)
                replace d3 := (hbq.cell (p := ⟨jb, 1, none⟩) (by show jb < _; omega)).trans ((HB.out.cell (p := ⟨jb, 1, none⟩) hjb).trans d3)
                have hle := last_end HI.out Hok.out (by omega) (m := P.length - 1) (by omega)
                have he : (Y P (P.length - 1) == lastLeave L) = true := beq_iff_eq.2 hle
                have k5 : (0 : Int) ≤ (P.length : Int) - 1 := by omega
                have k6 : (P.length : Int) - 1 < (P.length : Int) := by omega
                have k7 : (1 : Int) ≤ (P.length : Int) := by omega
                have hgq : g1 < (wr.drewN m).heap.size := by show g1 < wr.heap.size; omega
                have hjq : jb < (wr.drewN m).heap.size := by show jb < wr.heap.size; omega
                clear hle hq1 hp0
                generalize wr.drewN m = W at hbq hDq hsq kq d1 d3 hgq hjq ⊢
                have c1 := WB.cell hgq d1
                have c3 := WB.cell hjq d3
                have hDq' : Cs W W.heap.size D L := hDq.more hbq.size
                clear d1 d3
                go_wp2_with fail
                have q6 : ((P.length : Int) - 1).toNat = P.length - 1 := by omega
                have q7 : IntKind.i64.wrap ((P.length : Int) - 1) = (P.length : Int) - 1 := IntWalk.i64_in _ (by omega)
                refine wp_region_wb W.heap.size (by kernel_rfl) (by kernel_rfl) ?_
                repeat (go_big_quiet_step ((go_at_call 17; exact Calls.inB (Nat.le_refl _) (c_iLastLeave L _ d _ (WB.cs _ hDq' (Nat.le_refl _)) (by omega)))))
                refine wpQuiet_nil ?_
                rintro _ ⟨⟨w5, hb5⟩, rfl⟩
                clear q6 q7
                go_wp2_with fail
                go_ret
                exact ⟨rfl, kq.trans (hb5.mono hsq)⟩
    · have hno : cOk L = false := by simpa using hok
      have hp := pos_of_not' hno
      have hLb : ((L.length : Int) == 0) = false := beq_eq_false_iff_ne.2 (by omega)
      have hl0 : (busyP L).length = 0 := by rw [busyP_no hno]; rfl
      have H := Lib.hid hno; clear hok hno
      rw [hl0]
      clear hl0 hO2 hO3 o2' o3 hbl
      go_wp2_with fail
      refine wp_loop_rounds 1 ?_
      rw [rounds_succ]
      go_wp2_with fail
      refine wp_loop_rounds 1 ?_
      rw [rounds_succ]
      go_wp2_with fail
      refine (c_iCustomersOk L D d _ hD3 (by omega)).mono ?_
      rintro e w5 ⟨rfl, hb5⟩
      rw [H.out]
      have k5 := k3.trans (hb5.mono hs3)
      have hs5 := k5.size
      go_wp2_with fail
      refine (c_alive _).mono ?_
      rintro e w6 ⟨rfl, hb6⟩
      go_wp2_with fail
      go_ret
      exact ⟨rfl, k5.trans (hb6.mono hs5)⟩
  · go_enter Try.func4, Try.ntmps4
    go_wp2
    go_ret
    exact ⟨rfl, Below.refl _ _⟩

end Go.Proofs.Ytjjncpimelpfiaa

