/- walks of the laws of chapter 6, second part: FnWorkArea, FnWorkBy (over the program's contracts) -/
import Derived.Test.YtbipeoepcndecaaJ10
import Derived.Test.YtbipeoepcndecaaS7
namespace Go.Proofs.Ytbipeoepcndecaa
set_option linter.unusedVariables false
open Go.RowKit
attribute [local go_sem ↓] Go.wp_at_zero Go.wp_at_succ

theorem laterR_len6 (L : List (Int × Int)) (t : Int) : (laterR L t).length ≤ L.length := by
  unfold laterR; split
  · rw [laterL_len]; exact Nat.le_refl _
  · simp
theorem moreOk_parts6 {L : List (Int × Int)} {a : Int} (h : moreOk L a = true) : placeOk L a = true ∧ cOk (moreL L a.toNat) = true := by
  simpa [moreOk] using h

set_option maxRecDepth 4000 in
set_option maxHeartbeats 8000000 in
theorem w_FnWorkArea (A : Option Addr) (n c : Nat) (w : World) (h : Bs w w.heap.size A n) (hc : n ≤ c) :
    Calls Try.prog 5 #[.slice A n c] w fun e w' => e = .returned (.bool true) ∧ Below w.heap.size w w' := by
  by_cases hn : n ≤ 1048576
  · go_enter Try.func5, Try.ntmps5
    go_wp2_with fail
    refine (c_DrawWorkArea A n c _ h hn hc).mono ?_
    rintro e w1 ⟨L, v, rfl, hv, hl, -, hb1⟩
    obtain ⟨D, dd, rfl, hd1, hd2, hD⟩ := hv.form
    have hs1 := hb1.size
    clear hv h
    go_wp2_with fail
    refine (c_iWorkArea L D dd _ hD (by omega)).mono ?_
    rintro e w2 ⟨rfl, hb2⟩
    have k2 := hb1.trans (hb2.mono hs1)
    have hs2 := k2.size
    have hD2 := (hD.below hb2).more hb2.size
    clear hb1 hb2 hD
    go_wp2_with fail
    refine (c_sWorkArea L D dd _ hD2 (by omega)).mono ?_
    rintro e w3 ⟨rfl, hb3⟩
    have k3 := k2.trans (hb3.mono hs2)
    have hs3 := k3.size
    have hD3 := (hD2.below hb3).more hb3.size
    clear k2 hb3 hD2
    cases hok : cOk L with
    | true =>
      have e0 : workByV L = workAreaV L := workAreaV_by.symm
      obtain ⟨f1, f2, f3⟩ := workByV_bd hok
      rw [e0] at f1 f2 f3
      have Ht := Lib.hid (fun k (hk : k ≤ L.length) => show 0 ≤ halfTo L k ∧ halfTo L k ≤ 6000 by
        have := halfTo_bd hok k hk
        have := cOk_len hok
        omega)
      have Hh := Lib.hid (fun k (hk : k < L.length) => half_bd hok hk)
      have Hb := Lib.hid (fun k (hk : k < L.length) => cOk_bd hok hk)
      have HLv := Lib.hid (fun (h : laterOk L 2 = true) => workAreaV_later h)
      have KB := Lib.hid (fun W hW => by have K := c_iWorkBy L D dd W hW (by omega); rw [e0] at K; exact K)
      have KL := Lib.hid (fun W hW => c_iLaterBy L D dd 2 W hW (by omega))
      have KA := Lib.hid (fun E e W hW => c_iWorkArea (laterR L 2) E e W hW (by have := laterR_len6 L 2; omega))
      clear hok e0
      generalize workAreaV L = sv at *
      have hne : (sv != sv) = false := by simp
      have d0 : decide (sv < 0) = false := decide_eq_false (by omega)
      have d1 : decide (halfTo L L.length ≤ sv) = true := decide_eq_true f3
      clear f1 f2 f3
      have HD3 := Lib.hid hD3
      clear hD3
      go_wp2_with fail
      go_loopw [5, 6] (fun s i wr => ∃ k : Nat, k ≤ L.length ∧ i = .int .i64 k ∧ s = .int .i64 (halfTo L k) ∧ Below w3.heap.size w3 wr) (fun _ i _ => L.length - (intOf i).toNat)
      case atStart => exact ⟨0, by omega, rfl, rfl, Below.refl _ _⟩
      case round =>
        obtain ⟨k, hk, rfl, rfl, hb⟩ := hrel
        have hsz := hb.size
        by_cases hlt : k < L.length
        · obtain ⟨b, off, rfl, hlb, hcc⟩ := HD3.out (by omega)
          have c2 := (hb.cell (p := ⟨b, off + k * 2 + 1, none⟩) hlb).trans (hcc k hlt).2
          obtain ⟨b1, b1'⟩ := Ht.out k (by omega)
          obtain ⟨h1, h2, -, -, h5, h6⟩ := Hh.out k hlt
          obtain ⟨-, -, b3, b4⟩ := Hb.out k hlt
          have HS := Lib.hid (show halfTo L (k + 1) = halfTo L k + (Y L k * (Y L k + 1)).tdiv 2 from rfl)
          have p1 : (0 : Int) ≤ (k : Int) := by omega
          have p2 : (k : Int) < (L.length : Int) := by omega
          have q0 : IntKind.i64.wrap (Y L k + 1) = Y L k + 1 := IntWalk.i64_in _ (by omega)
          have q2 : IntKind.i64.wrap (Y L k * (Y L k + 1)) = Y L k * (Y L k + 1) := IntWalk.i64_in _ (by omega)
          have q3 : IntKind.i64.wrap ((Y L k * (Y L k + 1)).tdiv 2) = (Y L k * (Y L k + 1)).tdiv 2 := IntWalk.i64_in _ (by omega)
          have q4 : IntKind.i64.wrap (halfTo L k + (Y L k * (Y L k + 1)).tdiv 2) = halfTo L k + (Y L k * (Y L k + 1)).tdiv 2 := IntWalk.i64_in _ (by omega)
          clear hcc
          go_wp2_with fail
          go_quiet (fail)
          clear q0 q2 q3 q4
          have hbq : Below w3.heap.size w3 (wr.drewN nq) := by (repeat (first | exact hb | exact Below.refl _ _ | (with_reducible refine Below.drew ?_) | (with_reducible refine Below.drewN ?_ _) | (with_reducible refine Below.alloc ?_ ?_ _) | (with_reducible refine Below.setCell ?_ ?_ _) | (show _ ≤ _; focus (first | omega | (simp; done) | (simp; omega)))))
          generalize wr.drewN nq = wq at hbq ⊢
          clear hb c2
          go_wp2_with fail
          go_roundw
          case rel => exact ⟨k + 1, by omega, by go_num, by rw [HS.out], hbq⟩
          case measure => simp [intOf]; omega
        · have hlf : ¬ ((k : Int) < (L.length : Int)) := by omega
          obtain rfl : k = L.length := by omega
          have k4 := k3.trans (hb.mono hs3)
          have hs4 := k4.size
          have hD4 := (HD3.out.below hb).more hsz
          clear hb k3 hk hlt hsz
          go_wp2_with fail
          refine (KL.out _ hD4).mono ?_
          rintro e w5 ⟨v5, rfl, o5, hb5⟩
          simp only [laterV]
          have k5 := k4.trans (hb5.mono hs4)
          have hs5 := k5.size
          have hD5 := (hD4.below hb5).more hb5.size
          obtain ⟨E5, e5, rfl, -, -, hI5⟩ := o5.form
          clear k4 hb5 hD4 o5
          cases hlo : laterOk L 2 with
          | true =>
            have hlv := HLv.out hlo
            clear hlo
            go_wp2_with fail
            refine (KB.out _ hD5).mono ?_
            rintro e w6 ⟨rfl, hb6⟩
            have k6 := k5.trans (hb6.mono hs5)
            have hs6 := k6.size
            have hI6 := (hI5.below hb6).more hb6.size
            clear k5 hb6 hI5 hD5
            go_wp2_with fail
            refine (KA.out E5 e5 _ hI6).mono ?_
            rintro e w7 ⟨rfl, hb7⟩
            rw [hlv]
            have k7 := k6.trans (hb7.mono hs6)
            clear k6 hb7 hI6
            go_wp2_with fail
            refine (c_alive _).mono ?_
            rintro e w9 ⟨rfl, hb9⟩
            go_wp2_with fail
            go_ret
            exact ⟨rfl, k7.trans (hb9.mono k7.size)⟩
          | false =>
            clear hlo hI5
            go_wp2_with fail
            refine (KB.out _ hD5).mono ?_
            rintro e w6 ⟨rfl, hb6⟩
            have k6 := k5.trans (hb6.mono hs5)
            clear k5 hb6 hD5
            go_wp2_with fail
            refine (c_alive _).mono ?_
            rintro e w9 ⟨rfl, hb9⟩
            go_wp2_with fail
            go_ret
            exact ⟨rfl, k6.trans (hb9.mono k6.size)⟩
    | false =>
      have HV := Lib.hid (workAreaV_no hok)
      rw [HV.out]
      clear hok
      go_wp2_with fail
      refine (c_alive _).mono ?_
      rintro e w6 ⟨rfl, hb6⟩
      go_wp2_with fail
      go_ret
      exact ⟨rfl, k3.trans (hb6.mono hs3)⟩
  · go_enter Try.func5, Try.ntmps5
    go_wp2_with fail
    go_ret
    exact ⟨rfl, Below.refl _ _⟩

set_option maxRecDepth 4000 in
set_option maxHeartbeats 8000000 in
theorem w_FnWorkBy (A : Option Addr) (n c : Nat) (w : World) (h : Bs w w.heap.size A n) (hc : n ≤ c) :
    Calls Try.prog 6 #[.slice A n c] w fun e w' => e = .returned (.bool true) ∧ Below w.heap.size w w' := by
  by_cases hn : n ≤ 1048576
  · go_enter Try.func6, Try.ntmps6
    go_wp2_with fail
    refine (c_DrawWorkBy A n c _ h hn hc).mono ?_
    rintro e w1 ⟨L, v, rfl, hv, hl, -, hb1⟩
    obtain ⟨D, dd, rfl, hd1, hd2, hD⟩ := hv.form
    have hs1 := hb1.size
    clear hv h
    go_wp2_with fail
    refine (c_iWorkBy L D dd _ hD (by omega)).mono ?_
    rintro e w2 ⟨rfl, hb2⟩
    have k2 := hb1.trans (hb2.mono hs1)
    have hs2 := k2.size
    have hD2 := (hD.below hb2).more hb2.size
    clear hb1 hb2 hD
    go_wp2_with fail
    refine (c_sWorkBy L D dd _ hD2 (by omega)).mono ?_
    rintro e w3 ⟨rfl, hb3⟩
    have k3 := k2.trans (hb3.mono hs2)
    have hs3 := k3.size
    have hD3 := (hD2.below hb3).more hb3.size
    clear k2 hb3 hD2
    cases hok : cOk L with
    | true =>
      obtain ⟨f1, f2, -⟩ := workByV_bd hok
      have HE := Lib.hid (waits_yes hok)
      have HZ := Lib.hid (fun (h0 : L.length = 0) => show workByV L = 0 by rw [workByV_yes hok, h0]; rfl)
      have HM := Lib.hid (fun m (hm : L.length = m + 1) (h : cOk (moreL L m) = true) => workBy_more hm hok h)
      have Hb := Lib.hid (fun k (hk : k < L.length) => cOk_bd hok hk)
      have Hw := Lib.hid (fun k (hk : k < L.length) => waitAt_bd hok k hk)
      have KW := Lib.hid (fun W hW => c_sWaitsOf L D dd W hW (by omega))
      have KM := Lib.hid (fun t W hW => c_iNeedingMore L D dd t W hW (by omega))
      clear hok
      generalize workByV L = sv at *
      have hne : (sv != sv) = false := by simp
      have d0 : decide (sv < 0) = false := decide_eq_false (by omega)
      have p0 : IntKind.i64.wrap ((L.length : Int) - 1) = (L.length : Int) - 1 := IntWalk.i64_in _ (by omega)
      go_wp2_with fail
      refine (KM.out _ _ hD3).mono ?_
      rintro e w4 ⟨v4, rfl, o4, hb4⟩
      simp only [laterV]
      have k4 := k3.trans (hb4.mono hs3)
      have hs4 := k4.size
      have hD4 := (hD3.below hb4).more hb4.size
      obtain ⟨E4, e4, rfl, -, -, hI4⟩ := o4.form
      clear k3 hb4 hD3 o4
      go_wp2_with fail
      refine (KW.out _ hD4).mono ?_
      rintro e w5 ⟨v5, rfl, o5, hb5⟩
      rw [HE.out] at o5
      obtain ⟨G, g, rfl, -, hG⟩ := o5.formG
      rw [waitsTo_len] at hG ⊢
      have k5 := k4.trans (hb5.mono hs4)
      have hs5 := k5.size
      have hD5 := (hD4.below hb5).more hb5.size
      have hI5 := (hI4.below hb5).more hb5.size
      clear k4 hb5 hD4 hI4 o5 KW HE
      cases hmo : moreOk L ((L.length : Int) - 1) with
      | true =>
        have h1 : 0 < L.length := by
          have := placeOk_parts (moreOk_parts6 hmo).1; omega
        have et : ((L.length : Int) - 1).toNat = L.length - 1 := by omega
        have hq := (moreOk_parts6 hmo).2
        rw [et] at hq
        have hR := moreR_yes hmo
        rw [et] at hR
        have hM := HM.out (L.length - 1) (by omega) hq
        rw [hR] at hI5 ⊢
        rw [moreL_len]
        have K := fun W (hW : Cs W W.heap.size E4 (moreL L (L.length - 1))) => c_iWorkBy (moreL L (L.length - 1)) E4 e4 W hW (by rw [moreL_len]; omega)
        rw [moreL_len, hM] at K
        have HK := Lib.hid K
        obtain ⟨-, -, b3, b4⟩ := Hb.out (L.length - 1) (by omega)
        obtain ⟨b5, b6, -⟩ := Hw.out (L.length - 1) (by omega)
        obtain ⟨gb, rfl, -, hgb, hgc⟩ := hG (by omega)
        obtain ⟨b, off, rfl, hlb, hcc⟩ := hD5 (by omega)
        have c1 := hgc (L.length - 1) (by omega)
        rw [Z_waitsTo (by omega)] at c1
        have c1' := WB.cell (w := w5) hgb c1
        have c2 := WB.cell (w := w5) hlb (hcc (L.length - 1) (by omega)).2
        have d2 : decide (0 ≤ (L.length : Int) - 1) = true := decide_eq_true (by omega)
        have p1 : (0 : Int) ≤ (L.length : Int) - 1 := by omega
        have p2 : (1 : Int) ≤ (L.length : Int) := by omega
        have p3 : (L.length : Int) - 1 < (L.length : Int) := by omega
        have q1 : IntKind.i64.wrap (sv + waitAt L (L.length - 1)) = sv + waitAt L (L.length - 1) := IntWalk.i64_in _ (by omega)
        have q2 : IntKind.i64.wrap (sv + waitAt L (L.length - 1) + Y L (L.length - 1)) = sv + waitAt L (L.length - 1) + Y L (L.length - 1) := IntWalk.i64_in _ (by omega)
        have q3 : IntKind.i64.wrap (sv + waitAt L (L.length - 1) + Y L (L.length - 1) + 1) = sv + waitAt L (L.length - 1) + Y L (L.length - 1) + 1 := IntWalk.i64_in _ (by omega)
        clear hmo hq hR hM K hgc hcc c1 hG
        go_wp2_with fail
        refine wp_region_wb w5.heap.size (by kernel_rfl) (by kernel_rfl) ?_
        repeat (go_big_quiet_step ((first | (go_at_call 26; exact Calls.inB (Nat.le_refl _) (HK.out _ (WB.cs _ hI5 (Nat.le_refl _)))) | (go_at_call 14; exact Calls.inB (Nat.le_refl _) (c_alive _)))))
        refine wpQuiet_nil ?_
        rintro w6 ⟨⟨_, hb6⟩, rfl⟩
        clear q1 q2 q3 d2 c1' c2
        go_wp2_with fail
        go_ret
        exact ⟨rfl, k5.trans (hb6.mono hs5)⟩
      | false =>
        by_cases h0 : L.length = 0
        · have d2 : decide (0 ≤ (L.length : Int) - 1) = false := decide_eq_false (by omega)
          have dz : (sv == 0) = true := beq_iff_eq.2 (HZ.out h0)
          have p1 : ¬ (0 : Int) ≤ (L.length : Int) - 1 := by omega
          have p3 : decide ((1 : Int) ≤ (L.length : Int)) = false := decide_eq_false (by omega)
          have p4 : decide (1 ≤ L.length) = false := decide_eq_false (by omega)
          have p5 : decide (0 < L.length) = false := decide_eq_false (by omega)
          have H0 := Lib.hid h0
          clear h0 hmo hG hI5 hD5
          go_wp2_with fail
          refine wp_region_wb w5.heap.size (by kernel_rfl) (by kernel_rfl) ?_
          repeat (go_big_quiet_step ((go_at_call 14; exact Calls.inB (Nat.le_refl _) (c_alive _))))
          refine wpQuiet_nil ?_
          rintro w6 ⟨⟨_, hb6⟩, rfl⟩
          clear d2 dz
          go_wp2_with fail
          go_ret
          exact ⟨rfl, k5.trans (hb6.mono hs5)⟩
        · have d2 : decide (0 ≤ (L.length : Int) - 1) = true := decide_eq_true (by omega)
          have p1 : (0 : Int) ≤ (L.length : Int) - 1 := by omega
          have p2 : (1 : Int) ≤ (L.length : Int) := by omega
          clear h0 hmo hG hI5 hD5
          go_wp2_with fail
          refine wp_region_wb w5.heap.size (by kernel_rfl) (by kernel_rfl) ?_
          repeat (go_big_quiet_step ((go_at_call 14; exact Calls.inB (Nat.le_refl _) (c_alive _))))
          refine wpQuiet_nil ?_
          rintro w6 ⟨⟨_, hb6⟩, rfl⟩
          clear d2
          go_wp2_with fail
          go_ret
          exact ⟨rfl, k5.trans (hb6.mono hs5)⟩
    | false =>
      have HV := Lib.hid (workByV_no hok)
      rw [HV.out]
      clear hok
      go_wp2_with fail
      refine (c_alive _).mono ?_
      rintro e w6 ⟨rfl, hb6⟩
      go_wp2_with fail
      go_ret
      exact ⟨rfl, k3.trans (hb6.mono hs3)⟩
  · go_enter Try.func6, Try.ntmps6
    go_wp2_with fail
    go_ret
    exact ⟨rfl, Below.refl _ _⟩

end Go.Proofs.Ytbipeoepcndecaa

