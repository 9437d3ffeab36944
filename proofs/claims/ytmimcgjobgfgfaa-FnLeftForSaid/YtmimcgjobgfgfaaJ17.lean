/- walks of the laws of chapter 8, first part: FnLeftFor -/
import Derived.Test.YtmimcgjobgfgfaaKQ
import Derived.Test.YtmimcgjobgfgfaaI7
import Derived.Test.YtmimcgjobgfgfaaH
namespace Go.Proofs.Ytmimcgjobgfgfaa
set_option linter.unusedVariables false
open Go.RowKit
attribute [local go_sem ↓] Go.wp_at_zero Go.wp_at_succ

/-- the model's PeriodFrom, within a region that draws its order -/
theorem perIn {L : List (Int × Int)} (hc : cOk L = true) {D : Option Addr} {d : Nat} {wq : World} (hD : Cs wq wq.heap.size D L) (hn : L.length ≤ 140737488351232) {j : Nat} (hj : j < L.length) (s : WB wq.heap.size wq) :
    Calls Try.prog 19 #[.slice D L.length d, .int .i64 (j : Int)] s.val fun e w' => e = .returned (.int .i64 (perE L j - X L j)) ∧ Below s.val.heap.size s.val w' := by
  have K := c_sPeriodFrom L D d (j : Int) s.val (s.cs hD (Nat.le_refl _)) hn
  rw [perV_yes (placeOk_mk hc hj), Int.toNat_natCast] at K
  exact K

set_option maxRecDepth 4000 in
set_option maxHeartbeats 8000000 in
theorem w_FnLeftFor (A : Option Addr) (n c : Nat) (w : World) (h : Bs w w.heap.size A n) (hc : n ≤ c) :
    Calls Try.prog 5 #[.slice A n c] w fun e w' => e = .returned (.bool true) ∧ Below w.heap.size w w' := by
  by_cases hn : n ≤ 1048576
  · go_enter Try.func5, Try.ntmps5
    go_wp2_with fail
    refine (c_DrawLeftFor A n c _ h hn hc).mono ?_
    rintro e w1 ⟨L, v, t, rfl, hv, hl, -, ht, hb1⟩
    obtain ⟨D, d, rfl, hd1, hd2, hD⟩ := hv.form
    have hs1 := hb1.size
    clear hv h
    go_wp2_with fail
    refine (c_iLeftFor L D d t _ hD hd1 (by omega)).mono ?_
    rintro e w2 ⟨rfl, hb2⟩
    have k2 := hb1.trans (hb2.mono hs1)
    have hs2 := k2.size
    have hD2 := (hD.below hb2).more hb2.size
    clear hb1 hb2 hD
    go_wp2_with fail
    refine (c_sLeftFor L D d t _ hD2 (by omega)).mono ?_
    rintro e w3 ⟨rfl, hb3⟩
    have k3 := k2.trans (hb3.mono hs2)
    have hs3 := k3.size
    have hD3 := (hD2.below hb3).more hb3.size
    have hne : (leftV L t != leftV L t) = false := by simp
    clear k2 hb3 hD2
    cases hp : placeOk L t with
    | true =>
      have hLV := leftV_yes hp
      obtain ⟨m, rfl, hml, hok⟩ := placeOk_nat hp
      rw [Int.toNat_natCast] at hLV
      rw [hLV] at hne ⊢
      have hlt := leftF_lt L m
      have HSP := Lib.hid (leftTo_spec (L := L) (x := X L m) m)
      have HW := Lib.hid (fun (j k : Nat) (h1 : j < k) (h2 : k < L.length) h3 => period_within hok h1 h2 h3)
      have HBD := Lib.hid (fun k (hk : k < L.length) => cOk_bd hok hk)
      have HPB := Lib.hid (fun k (hk : k < L.length) => perE_bd hok hk)
      have HPI := Lib.hid (fun (wq : World) (hD : Cs wq wq.heap.size D L) (j : Nat) (hj : j < L.length) => perIn (d := d) hok hD (by omega) hj)
      have hne2 : (leftF L m == -2) = false := beq_eq_false_iff_ne.2 (by omega)
      have HLF := Lib.hid (show leftF L m = leftTo L (X L m) m from rfl)
      obtain ⟨b, off, rfl, hlb, hcc⟩ := hD3 (by omega)
      have HCC := Lib.hid hcc
      have hD3' : Cs w3 w3.heap.size (some ⟨b, off, none⟩) L := fun _ => ⟨b, off, rfl, hlb, hcc⟩
      have bm := HBD.out m hml
      have pm := HPB.out m hml
      have p2 : (0 : Int) ≤ (m : Int) := by omega
      have p3 : (m : Int) < (L.length : Int) := by omega
      have q1 : IntKind.i64.wrap (X L m + (perE L m - X L m)) = perE L m := by rw [IntWalk.i64_in _ (by omega)]; omega
      have e1 := WB.cell (B := w3.heap.size) hlb (hcc m hml).1
      have HK := Lib.hid (HPI.out w3 hD3' m hml)
      clear hp hok hcc hLV
      go_wp2_with fail
      refine wp_region_wb w3.heap.size (by kernel_rfl) (by kernel_rfl) ?_
      repeat (go_big_quiet_step ((go_at_call 19; exact Calls.inB (Nat.le_refl _) (HK.out _))))
      refine wpQuiet_nil ?_
      rintro w5 ⟨⟨_, hb5⟩, rfl⟩
      have k5 := k3.trans (hb5.mono hs3)
      have hs5 := k5.size
      have hs35 := hb5.size
      clear q1 e1 HK
      go_wp2_with fail
      go_loopw [7, 8] (fun iv tv wr => ∃ j : Nat, j ≤ m ∧ iv = .int .i64 j ∧ Below w3.heap.size w3 wr) (fun iv _ _ => m - (intOf iv).toNat)
      case atStart => exact ⟨0, by omega, rfl, hb5⟩
      case round =>
        obtain ⟨j, hj, rfl, hb⟩ := hrel
        have hsz := hb.size
        have hDr : Cs wr wr.heap.size (some ⟨b, off, none⟩) L := (hD3'.below hb).more hsz
        by_cases hlt2 : j < m
        · have hjl : j < L.length := by omega
          have bj := HBD.out j hjl
          have pj := HPB.out j hjl
          have q2 : IntKind.i64.wrap (X L j + (perE L j - X L j)) = perE L j := by rw [IntWalk.i64_in _ (by omega)]; omega
          have r0 : (0 : Int) ≤ (j : Int) := by omega
          have r1 : (j : Int) < (L.length : Int) := by omega
          have r2 : (j : Int) < (m : Int) := by omega
          have c1 := (hb.cell (p := ⟨b, off + j * 2, none⟩) hlb).trans (HCC.out j hjl).1
          have c2 := (hb.cell (p := ⟨b, off + m * 2, none⟩) hlb).trans (HCC.out m hml).1
          have e1 := WB.cell (B := wr.heap.size) (show b < wr.heap.size by omega) c1
          have e2 := WB.cell (B := wr.heap.size) (show b < wr.heap.size by omega) c2
          have HK := Lib.hid (HPI.out wr hDr j hjl)
          by_cases hx : X L m < perE L j
          · have d1 : decide (X L m < perE L j) = true := decide_eq_true hx
            have HN := Lib.hid (show ¬ leftF L m < (j : Int) ∧ ¬ perE L j < perE L m from by
              refine ⟨fun hlt3 => ?_, fun hlt3 => ?_⟩
              · rw [HLF.out] at hlt3
                rcases HSP.out with ⟨e, hi⟩ | ⟨k, e, hk, hx2, hi⟩
                · have := hi j (by omega); omega
                · have := hi j (by omega) (by omega); omega
              · have := HW.out j m hlt2 hml hx; omega)
            have d2 : decide (leftF L m < (j : Int)) = false := decide_eq_false HN.out.1
            have d3 : decide (perE L j < perE L m) = false := decide_eq_false HN.out.2
            clear hx
            go_wp2_with fail
            refine wp_region_wb wr.heap.size (by kernel_rfl) (by kernel_rfl) ?_
            repeat (go_big_quiet_step ((go_at_call 19; exact Calls.inB (Nat.le_refl _) (HK.out _))))
            refine wpQuiet_nil ?_
            rintro w6 ⟨⟨_, hb6⟩, rfl⟩
            have hb7 := hb.trans (hb6.mono hsz)
            have hsz7 := hb7.size
            have hDr7 : Cs w6 w6.heap.size (some ⟨b, off, none⟩) L := (hD3'.below hb7).more hsz7
            have f1 := WB.cell (w := w6) (B := w6.heap.size) (show b < w6.heap.size by omega) ((hb7.cell (p := ⟨b, off + j * 2, none⟩) hlb).trans (HCC.out j hjl).1)
            have HK7 := Lib.hid (HPI.out w6 hDr7 j hjl)
            clear e1 e2 c1 c2 HK hb6
            go_wp2_with fail
            refine wp_region_wb w6.heap.size (by kernel_rfl) (by kernel_rfl) ?_
            repeat (go_big_quiet_step ((go_at_call 19; exact Calls.inB (Nat.le_refl _) (HK7.out _))))
            refine wpQuiet_nil ?_
            rintro w8 ⟨⟨_, hb8⟩, rfl⟩
            clear f1 q2
            go_wp2_with fail
            go_roundw
            case rel => exact ⟨j + 1, by omega, by go_num, hb7.trans (hb8.mono hsz7)⟩
            case measure => simp [intOf]; omega
          · have d1 : decide (X L m < perE L j) = false := decide_eq_false hx
            clear hx
            go_wp2_with fail
            refine wp_region_wb wr.heap.size (by kernel_rfl) (by kernel_rfl) ?_
            repeat (go_big_quiet_step ((go_at_call 19; exact Calls.inB (Nat.le_refl _) (HK.out _))))
            refine wpQuiet_nil ?_
            rintro w6 ⟨⟨_, hb6⟩, rfl⟩
            have hb7 := hb.trans (hb6.mono hsz)
            have hsz7 := hb7.size
            clear e1 e2 c1 c2 HK hb6
            go_wp2_with fail
            refine wp_region_wb w6.heap.size (by kernel_rfl) (by kernel_rfl) ?_
            repeat (go_big_quiet_step (fail))
            refine wpQuiet_nil ?_
            rintro w8 ⟨⟨_, hb8⟩, rfl⟩
            clear q2
            go_wp2_with fail
            go_roundw
            case rel => exact ⟨j + 1, by omega, by go_num, hb7.trans (hb8.mono hsz7)⟩
            case measure => simp [intOf]; omega
        · obtain rfl : j = m := by omega
          have hlf : ¬ ((j : Int) < (j : Int)) := by omega
          rcases HSP.out with ⟨e, -⟩ | ⟨k, e, hk, hx2, -⟩
          · have e' : leftF L j = -1 := by rw [HLF.out]; exact e
            have d1 : decide ((-1 : Int) < (j : Int)) = true := decide_eq_true (by omega)
            rw [e']
            clear e e' hlt hne hne2
            go_wp2_with fail
            refine wp_region_wb wr.heap.size (by kernel_rfl) (by kernel_rfl) ?_
            repeat (go_big_quiet_step ((go_at_call 16; exact Calls.inB (Nat.le_refl _) (c_alive _))))
            refine wpQuiet_nil ?_
            rintro w6 ⟨⟨_, hb6⟩, rfl⟩
            go_wp2_with fail
            go_ret
            exact ⟨rfl, k3.trans ((hb.trans (hb6.mono hsz)).mono hs3)⟩
          · have e' : leftF L j = (k : Int) := by rw [HLF.out]; exact e
            have hkl : k < L.length := by omega
            have bk := HBD.out k hkl
            have pk := HPB.out k hkl
            have q2 : IntKind.i64.wrap (X L k + (perE L k - X L k)) = perE L k := by rw [IntWalk.i64_in _ (by omega)]; omega
            have d1 : decide ((k : Int) < (j : Int)) = true := decide_eq_true (by omega)
            have d2 : decide ((-1 : Int) ≤ (k : Int)) = true := decide_eq_true (by omega)
            have d3 : decide ((k : Int) < 0) = false := decide_eq_false (by omega)
            have d4 : decide (perE L j ≤ perE L k) = true := decide_eq_true (HW.out k j hk hml hx2)
            have r0 : (0 : Int) ≤ (k : Int) := by omega
            have r1 : (k : Int) < (L.length : Int) := by omega
            have f1 := WB.cell (w := wr) (B := wr.heap.size) (show b < wr.heap.size by omega) ((hb.cell (p := ⟨b, off + k * 2, none⟩) hlb).trans (HCC.out k hkl).1)
            have HK7 := Lib.hid (HPI.out wr hDr k hkl)
            rw [e']
            clear e e' hlt hne hne2 hx2
            go_wp2_with fail
            refine wp_region_wb wr.heap.size (by kernel_rfl) (by kernel_rfl) ?_
            repeat (go_big_quiet_step (first | (go_at_call 16; exact Calls.inB (Nat.le_refl _) (c_alive _)) | (go_at_call 19; exact Calls.inB (Nat.le_refl _) (HK7.out _))))
            refine wpQuiet_nil ?_
            rintro w6 ⟨⟨_, hb6⟩, rfl⟩
            clear f1 q2
            go_wp2_with fail
            go_ret
            exact ⟨rfl, k3.trans ((hb.trans (hb6.mono hsz)).mono hs3)⟩
    | false =>
      rw [leftV_no hp]
      clear hp hne
      go_wp2_with fail
      refine (c_alive _).mono ?_
      rintro e w5 ⟨rfl, hb5⟩
      go_wp2_with fail
      go_ret
      exact ⟨rfl, k3.trans (hb5.mono hs3)⟩
  · go_enter Try.func5, Try.ntmps5
    go_wp2_with fail
    go_ret
    exact ⟨rfl, Below.refl _ _⟩

end Go.Proofs.Ytmimcgjobgfgfaa

