/- walks of the laws of chapter 3, third part: FnComeIn -/
import Derived.Test.YtjjncpimelpfiaaJ2
import Derived.Test.YtjjncpimelpfiaaS3
namespace Go.Proofs.Ytjjncpimelpfiaa
set_option linter.unusedVariables false
open Go.RowKit
attribute [local go_sem ↓] Go.wp_at_zero Go.wp_at_succ

theorem comeR_len (L : List (Int × Int)) (t : Int) : (comeR L t).length ≤ L.length := by
  unfold comeR; split
  · exact placesTo_len _
  · simp
/-- what the places in the period n are, for the law -/
theorem comeR_cnt {L : List (Int × Int)} (h : cOk L = true) {n : Nat} (hn : n < (busyP L).length) :
    (comeR L n).length = cnt L (Y (busyP L) n - 1) - cnt L (X (busyP L) n - 1) ∧ cnt L (X (busyP L) n - 1) ≤ cnt L (Y (busyP L) n - 1) ∧ cnt L (Y (busyP L) n - 1) ≤ L.length ∧
    (∀ k, k < (comeR L n).length → Z (comeR L n) k = ((cnt L (X (busyP L) n - 1) + k : Nat) : Int)) ∧ comeR L n = places L (X (busyP L) n) (Y (busyP L) n) := by
  have hr := (busyP_inv h).rng n hn
  have e : comeR L n = places L (X (busyP L) n) (Y (busyP L) n) := by rw [comeR_yes (decide_eq_true ⟨by omega, by omega⟩)]; simp
  have e2 := places_cnt h (b := X (busyP L) n) (e := Y (busyP L) n) (by omega)
  have hl : (comeR L n).length = cnt L (Y (busyP L) n - 1) - cnt L (X (busyP L) n - 1) := by rw [e, e2]; simp
  refine ⟨hl, cnt_mono' (by omega), cnt_le _ _, fun k hk => ?_, e⟩
  rw [hl] at hk
  rw [e, e2]
  simp [Z, hk]

set_option maxRecDepth 4000 in
set_option maxHeartbeats 8000000 in
theorem w_FnComeIn (A : Option Addr) (n c : Nat) (w : World) (h : Bs w w.heap.size A n) (hc : n ≤ c) :
    Calls Try.prog 5 #[.slice A n c] w fun e w' => e = .returned (.bool true) ∧ Below w.heap.size w w' := by
  by_cases hn : n ≤ 1048576
  · go_enter Try.func5, Try.ntmps5
    go_wp2_with fail
    refine (c_DrawComeIn A n c _ h hn hc).mono ?_
    rintro e w1 ⟨L, v, t, rfl, hv, hl, -, ht, hb1⟩
    obtain ⟨D, d, rfl, hd1, hd2, hD⟩ := hv.form
    have hs1 := hb1.size
    clear hv
    go_wp2_with fail
    refine (c_iComeIn L D d t _ hD (by omega)).mono ?_
    rintro e w2 ⟨v2, rfl, o2, hb2⟩
    have k2 := hb1.trans (hb2.mono hs1)
    have hs2 := k2.size
    have hD2 := (hD.below hb2).more hb2.size
    have hcl := comeR_len L t
    have o2i := o2
    obtain ⟨G, g, rfl, hg1, hG⟩ := o2.formG
    have hGi := o2i.isOf.2
    clear hb1 hb2 hD o2 o2i
    go_wp2_with fail
    refine (c_sComeIn L D d t _ hD2 (by omega)).mono ?_
    rintro e w3 ⟨v3, rfl, o3, hb3⟩
    have k3 := k2.trans (hb3.mono hs2)
    have hs3 := k3.size
    have hD3 := (hD2.below hb3).more hb3.size
    have hGi3 := (hGi.below hb3).more hb3.size
    obtain ⟨G3, g3, rfl, -, -, hG3⟩ := o3.form
    have hB23 := Lib.hid hb3
    clear k2 hb3 hD2 o3 hGi
    go_wp2_with fail
    refine (c_sameInts (comeR L t) G G3 _ _ g g3 _ hGi3 hG3 (by omega)).mono ?_
    rintro e w4 ⟨rfl, hb4⟩
    have k4 := k3.trans (hb4.mono hs3)
    have hs4 := k4.size
    have hD4 := (hD3.below hb4).more hb4.size
    have hB24 := Lib.hid (hB23.out.trans (hb4.mono hB23.out.size))
    clear k3 hb4 hD3 hGi3 hG3 hB23
    by_cases h0 : (comeR L t).length = 0
    · have h0b : (((comeR L t).length : Int) == 0) = true := beq_iff_eq.2 (by omega)
      clear h0 hG
      go_wp2_with fail
      refine (c_alive _).mono ?_
      rintro e w6 ⟨rfl, hb6⟩
      go_wp2_with fail
      go_ret
      exact ⟨rfl, k4.trans (hb6.mono hs4)⟩
    · have h0b : (((comeR L t).length : Int) == 0) = false := beq_eq_false_iff_ne.2 (by omega)
      have hp : perOk L t = true := by
        cases hx : perOk L t with
        | true => rfl
        | false => rw [comeR_no hx] at h0; exact absurd rfl h0
      obtain ⟨m, rfl, hml, hok⟩ := perOk_nat hp
      obtain ⟨hcn, hcm, hcL, hcZ, hcP⟩ := comeR_cnt hok hml
      have HI := Lib.hid (busyP_inv hok)
      have hbl := busyP_len L
      have hlen := cOk_len hok
      have HLV := Lib.hid (leaves_yes hok)
      have HWT := Lib.hid (waits_yes hok)
      have Hlb := Lib.hid (fun k => @leaveAt_bd L hok k)
      have HMany := Lib.hid (show ∀ k, k < (busyP L).length → ((comeR L (k : Int)).length : Int) = ((places L (X (busyP L) k) (Y (busyP L) k)).length : Int) from fun k hk => by rw [(comeR_cnt hok hk).2.2.2.2])
      have HK1 := Lib.hid (fun W (hW : Cs W W.heap.size D L) => c_sBusyOf L D d W hW (by omega))
      have Hok := Lib.hid hok
      generalize hP : busyP L = P at hml hcn hcm hcL hcZ HI hbl HMany HK1
      generalize hM : (comeR L (m : Int)).length = M at h0 h0b hcn hcl hcZ hG hg1 ⊢
      obtain ⟨gb, rfl, -, hgb, hgc⟩ := hG (by omega)
      have HG := Lib.hid (show ∀ k, k < M → w4.cell? ⟨gb, k, none⟩ = some (.int .i64 ((cnt L (X P m - 1) + k : Nat) : Int)) from fun k hk => by rw [hB24.out.cell (p := ⟨gb, k, none⟩) hgb, hgc k hk, hcZ k hk])
      have HCN := Lib.hid hcn
      have hM8 : M ≤ L.length := hcl
      have hMp : 0 < M := by omega
      have hgb4 : gb < w4.heap.size := by have := hB24.out.size; omega
      clear hgc hcZ hcP hP hM hok hp hB24 hgb hG hcn hcl
      go_wp2_with fail
      refine (HK1.out _ hD4).mono ?_
      rintro e w5 ⟨v5, rfl, ⟨vs5, o5⟩, hb5⟩
      obtain ⟨O, oc, rfl, -, -, hO⟩ := o5.form
      rw [rows_len] at hO ⊢
      obtain ⟨g1, rfl, -, hg1lt, hcl1, -⟩ := hO (by omega)
      obtain ⟨jb, jc, hvs, -, hjb, d2, d3⟩ := o5.pair hml
      have d1 := hcl1 m hml
      rw [hvs] at d1
      have k5 := k4.trans (hb5.mono hs4)
      have hs5 := k5.size
      have hD5 := (hD4.below hb5).more hb5.size
      have HB45 := Lib.hid hb5
      have DD := Lib.hid (And.intro d1 (And.intro d2 (And.intro d3 (And.intro hg1lt hjb))))
      clear k4 hb5 hD4 o5 hO hcl1 hvs d1 d2 d3 hg1lt hjb
      go_wp2_with fail
      refine (c_sLeavesOf L D d _ hD5 (by omega)).mono ?_
      rintro e w6 ⟨v6, rfl, o6, hb6⟩
      rw [HLV.out] at o6
      obtain ⟨Q, q, rfl, -, hQ⟩ := o6.formG
      rw [leavesTo_len] at hQ ⊢
      obtain ⟨lb, rfl, -, hlb, hlc⟩ := hQ (by omega)
      have k6 := k5.trans (hb6.mono hs5)
      have hs6 := k6.size
      have hD6 := (hD5.below hb6).more hb6.size
      have HB56 := Lib.hid hb6
      have HL := Lib.hid hlc
      clear k5 hb6 hD5 o6 hQ hlc
      go_wp2_with fail
      refine (c_sWaitsOf L D d _ hD6 (by omega)).mono ?_
      rintro e w7 ⟨v7, rfl, o7, hb7⟩
      rw [HWT.out] at o7
      obtain ⟨R, r, rfl, -, hR⟩ := o7.formG
      rw [waitsTo_len] at hR ⊢
      obtain ⟨rb, rfl, -, hrb, hrc⟩ := hR (by omega)
      have k7 := k6.trans (hb7.mono hs6)
      have hs7 := k7.size
      have hD7 := (hD6.below hb7).more hb7.size
      have HB67 := Lib.hid hb7
      have HR := Lib.hid hrc
      clear k6 hb7 hD6 o7 hR hrc
      go_wp2_with fail
      go_loopw [9, 10] (fun s i wr => ∃ k : Nat, k ≤ P.length ∧ i = .int .i64 k ∧ s = .int .i64 (manyTo L P k) ∧ Below w7.heap.size w7 wr) (fun _ i _ => P.length - (intOf i).toNat)
      case atStart => exact ⟨0, Nat.zero_le _, rfl, rfl, Below.refl _ _⟩
      case round =>
        obtain ⟨k, hk, rfl, rfl, hb⟩ := hrel
        have hsz := hb.size
        by_cases hlt : k < P.length
        · have hDk := (hD7.below hb).more hsz
          have hmk := HMany.out k hlt
          have hmb : 0 ≤ manyTo L P k ∧ manyTo L P k ≤ 8 := by
            by_cases e : k = 0
            · subst e; simp [manyTo]
            · have mm := manyTo_cnt HI.out Hok.out (by omega) (k - 1) (by omega)
              rw [show k - 1 + 1 = k by omega] at mm
              have := cnt_le L (Y P (k - 1) - 1)
              omega
          have hll := comeR_len L (k : Int)
          have HE := Lib.hid (show manyTo L P (k + 1) = manyTo L P k + ((comeR L (k : Int)).length : Int) by rw [hmk]; rfl)
          clear hmk
          go_wp2_with fail
          refine (c_iComeIn L D d (k : Int) _ hDk (by omega)).mono ?_
          rintro e w8 ⟨v8, rfl, o8, hb8⟩
          obtain ⟨S8, s8, rfl, -, -, -⟩ := o8.form
          have hb9 := hb.trans (hb8.mono hsz)
          go_wp2_with fail
          go_roundw
          case rel => exact ⟨k + 1, by omega, by go_num, by rw [HE.out], hb9⟩
          case measure => simp [intOf]; omega
        · have hlf : ¬ ((k : Int) < (P.length : Int)) := by omega
          have hsum : manyTo L P k = L.length := by rw [show k = P.length by omega]; exact manyTo_all HI.out Hok.out (by omega)
          rw [hsum]
          clear hsum
          have k8 := k7.trans (hb.mono hs7)
          have hs8 := k8.size
          have hD8 := (hD7.below hb).more hsz
          have h47 := HB45.out.size
          have h57 := HB56.out.size
          have h67 := HB67.out.size
          have C0 := Lib.hid (show ∀ i, i < M → wr.cell? ⟨gb, i, none⟩ = some (.int .i64 ((cnt L (X P m - 1) + i : Nat) : Int)) from fun i hi => by
            rw [hb.cell (p := ⟨gb, i, none⟩) (by show gb < _; omega), HB67.out.cell (p := ⟨gb, i, none⟩) (by show gb < _; omega), HB56.out.cell (p := ⟨gb, i, none⟩) (by show gb < _; omega), HB45.out.cell (p := ⟨gb, i, none⟩) hgb4, HG.out i hi])
          have C1 := Lib.hid (show wr.cell? ⟨g1, m, none⟩ = some (.slice (some ⟨jb, 0, none⟩) 2 jc) ∧ wr.cell? ⟨jb, 0, none⟩ = some (.int .i64 (X P m)) ∧ wr.cell? ⟨jb, 1, none⟩ = some (.int .i64 (Y P m)) from by
            obtain ⟨d1, d2, d3, hg, hj⟩ := DD.out
            refine ⟨?_, ?_, ?_⟩
            · rw [hb.cell (p := ⟨g1, m, none⟩) (by show g1 < _; omega), HB67.out.cell (p := ⟨g1, m, none⟩) (by show g1 < _; omega), HB56.out.cell (p := ⟨g1, m, none⟩) hg, d1]
            · rw [hb.cell (p := ⟨jb, 0, none⟩) (by show jb < _; omega), HB67.out.cell (p := ⟨jb, 0, none⟩) (by show jb < _; omega), HB56.out.cell (p := ⟨jb, 0, none⟩) hj, d2]
            · rw [hb.cell (p := ⟨jb, 1, none⟩) (by show jb < _; omega), HB67.out.cell (p := ⟨jb, 1, none⟩) (by show jb < _; omega), HB56.out.cell (p := ⟨jb, 1, none⟩) hj, d3])
          have C2 := Lib.hid (show ∀ i, i < L.length → wr.cell? ⟨lb, i, none⟩ = some (.int .i64 (leaveAt L i)) from fun i hi => by
            rw [hb.cell (p := ⟨lb, i, none⟩) (by show lb < _; omega), HB67.out.cell (p := ⟨lb, i, none⟩) hlb, HL.out i hi, Z_leavesTo hi])
          have C3 := Lib.hid (show ∀ i, i < L.length → wr.cell? ⟨rb, i, none⟩ = some (.int .i64 (waitAt L i)) from fun i hi => by
            rw [hb.cell (p := ⟨rb, i, none⟩) hrb, HR.out i hi, Z_waitsTo hi])
          have hw1 : gb < wr.heap.size := by omega
          have hw2 : g1 < wr.heap.size := by have := DD.out.2.2.2.1; omega
          have hw3 : jb < wr.heap.size := by have := DD.out.2.2.2.2; omega
          have hw4 : lb < wr.heap.size := by omega
          have hw5 : rb < wr.heap.size := by omega
          clear h47 h57 h67 HB45 HB56 HB67 HG HL HR DD hD7 hgb4 hlb hrb hb hk k7 hs7
          go_wp2_with fail
          go_loopw [11] (fun i wq => ∃ k z : Nat, k ≤ M ∧ i = .int .i64 k ∧ wq = wr.drewN z) (fun i _ => M - (intOf i).toNat)
          case atStart => exact ⟨0, 0, Nat.zero_le _, rfl, rfl⟩
          case round =>
            obtain ⟨x, z, hx, rfl, rfl⟩ := hrel
            by_cases hxl : x < M
            · obtain ⟨j, hj⟩ : ∃ j, j = cnt L (X P m - 1) + x := ⟨_, rfl⟩
              have hcn := HCN.out
              have hjl : j < L.length := by omega
              have c0 := C0.out x hxl
              rw [← hj] at c0
              obtain ⟨c1, c2, c3⟩ := C1.out
              have c4 := C2.out j hjl
              obtain ⟨y1, y2⟩ := leave_in HI.out Hok.out (by omega) hml (j := j) (by omega) (by omega)
              have hd1' : decide (Y P m < leaveAt L j) = false := decide_eq_false (by omega)
              have hd2' : decide (leaveAt L j ≤ X P m) = false := decide_eq_false (by omega)
              have r1 : (0 : Int) ≤ (x : Int) := by omega
              have r2 : (x : Int) < (M : Int) := by omega
              have r3 : (0 : Int) ≤ (j : Int) := by omega
              have r4 : (j : Int) < (L.length : Int) := by omega
              have r5 : (0 : Int) ≤ (m : Int) := by omega
              have r6 : (m : Int) < (P.length : Int) := by omega
              clear hcn hj y1 y2
              go_wp2_with fail
              go_quiet (fail)
              go_wp2_with fail
              go_roundw
              case rel => exact ⟨x + 1, _, by omega, by go_num, rfl⟩
              case measure => simp [intOf]; omega
            · have hxf : ¬ ((x : Int) < (M : Int)) := by omega
              have hbq : Below wr.heap.size wr (wr.drewN z) := by (repeat (first | exact rfl | exact Below.refl _ _ | (with_reducible refine Below.drew ?_) | (with_reducible refine Below.drewN ?_ _) | (with_reducible refine Below.alloc ?_ ?_ _) | (with_reducible refine Below.setCell ?_ ?_ _) | (show _ ≤ _; focus (first | omega | (simp; done) | (simp; omega)))))
              have hcn := HCN.out
              obtain ⟨j0, hj0⟩ : ∃ j, j = cnt L (X P m - 1) := ⟨_, rfl⟩
              obtain ⟨j1, hj1⟩ : ∃ j, j = cnt L (X P m - 1) + (M - 1) := ⟨_, rfl⟩
              have d0 := C0.out 0 hMp
              rw [Nat.add_zero, ← hj0] at d0
              have d1 := C0.out (M - 1) (by omega)
              rw [← hj1] at d1
              obtain ⟨c1, -, c3⟩ := C1.out
              have hj0l : j0 < L.length := by omega
              have hj1l : j1 < L.length := by omega
              have d2 := C3.out j0 hj0l
              have d3 := C2.out j1 hj1l
              have f1 := first_waits HI.out Hok.out hml (by omega)
              rw [← hj0] at f1
              have f2 := last_leaves HI.out Hok.out (by omega) hml (j := j1) (by omega)
              have e1 : (waitAt L j0 == 0) = true := beq_iff_eq.2 f1
              have e2 : (leaveAt L j1 == Y P m) = true := beq_iff_eq.2 f2
              have g1' : gb < (wr.drewN z).heap.size := hw1
              have g2' : g1 < (wr.drewN z).heap.size := hw2
              have g3' : jb < (wr.drewN z).heap.size := hw3
              have g4' : lb < (wr.drewN z).heap.size := hw4
              have g5' : rb < (wr.drewN z).heap.size := hw5
              have hsq : w.heap.size ≤ (wr.drewN z).heap.size := hs8
              have kq := k8.trans (hbq.mono hs8)
              replace d0 := (hbq.cell (p := ⟨gb, 0, none⟩) hw1).trans d0
              replace d1 := (hbq.cell (p := ⟨gb, M - 1, none⟩) hw1).trans d1
              replace c1 := (hbq.cell (p := ⟨g1, m, none⟩) hw2).trans c1
              replace c3 := (hbq.cell (p := ⟨jb, 1, none⟩) hw3).trans c3
              replace d2 := (hbq.cell (p := ⟨rb, j0, none⟩) hw5).trans d2
              replace d3 := (hbq.cell (p := ⟨lb, j1, none⟩) hw4).trans d3
              have r1 : (0 : Int) < (M : Int) := by omega
              have r2 : (0 : Int) ≤ (M : Int) - 1 := by omega
              have r3 : (M : Int) - 1 < (M : Int) := by omega
              have r4 : (0 : Int) ≤ (j0 : Int) := by omega
              have r5 : (j0 : Int) < (L.length : Int) := by omega
              have r6 : (0 : Int) ≤ (j1 : Int) := by omega
              have r7 : (j1 : Int) < (L.length : Int) := by omega
              have r8 : (0 : Int) ≤ (m : Int) := by omega
              have r9 : (m : Int) < (P.length : Int) := by omega
              have r10 : (1 : Int) ≤ (M : Int) := by omega
              clear hcn hj0 hj1 f1 f2 hw1 hw2 hw3 hw4 hw5
              generalize wr.drewN z = W at hbq g1' g2' g3' g4' g5' hsq kq d0 d1 c1 c3 d2 d3 ⊢
              have a0 := WB.cell g1' d0
              have a1 := WB.cell g1' d1
              have a2 := WB.cell g2' c1
              have a3 := WB.cell g3' c3
              have a4 := WB.cell g5' d2
              have a5 := WB.cell g4' d3
              clear d0 d1 c1 c3 d2 d3
              go_wp2_with fail
              have q6 : ((M : Int) - 1).toNat = M - 1 := by omega
              have q7 : IntKind.i64.wrap ((M : Int) - 1) = (M : Int) - 1 := IntWalk.i64_in _ (by omega)
              refine wp_region_wb W.heap.size (by kernel_rfl) (by kernel_rfl) ?_
              repeat (go_big_quiet_step ((go_at_call 14; exact Calls.inB (Nat.le_refl _) (c_alive _))))
              refine wpQuiet_nil ?_
              rintro _ ⟨⟨w9, hb9⟩, rfl⟩
              clear q6 q7
              go_wp2_with fail
              go_ret
              exact ⟨rfl, kq.trans (hb9.mono hsq)⟩
  · go_enter Try.func5, Try.ntmps5
    go_wp2
    go_ret
    exact ⟨rfl, Below.refl _ _⟩

end Go.Proofs.Ytjjncpimelpfiaa

