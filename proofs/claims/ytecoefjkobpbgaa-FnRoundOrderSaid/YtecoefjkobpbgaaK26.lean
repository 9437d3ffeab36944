/- spec.UnitsIn, AheadBy (ahead of the landing) -/
import Derived.Test.YtecoefjkobpbgaaM31
import Derived.Test.YtecoefjkobpbgaaK7
namespace Go.Proofs.Ytecoefjkobpbgaa
set_option linter.unusedVariables false
open Go.RowKit
attribute [local go_sem ↓] Go.wp_at_zero Go.wp_at_succ

theorem uiOk_mk {L : List (Int × Int)} {o : List Int} {who f t : Int} (h : ordOk L o = true) (h1 : 0 ≤ who ∧ who ≤ (L.length : Int) - 1) (h2 : 0 ≤ f ∧ f ≤ t) (h3 : t ≤ 200) : uiOk L o who f t = true := by
  simp only [uiOk, Bool.and_eq_true, decide_eq_true_eq]; exact ⟨⟨⟨h, h1⟩, h2⟩, h3⟩
theorem cutT_step {o : List Int} {t : Nat} (h : t < o.length) : cutT o ((t + 1 : Nat) : Int) = t + 1 ∧ cutT o (t : Int) = t := by unfold cutT; omega

set_option maxRecDepth 8000 in
set_option maxHeartbeats 8000000 in
theorem c_sUnitsIn (L : List (Int × Int)) (o : List Int) (A O : Option Addr) (c d : Nat) (who f t : Int) (w : World) (hA : Cs w w.heap.size A L) (hO : Is w w.heap.size O o) (hn : L.length ≤ 1000000000000) (ho : o.length ≤ 140737488351232) :
    Calls Try.prog 21 #[.slice A L.length c, .slice O o.length d, .int .i64 who, .int .i64 f, .int .i64 t] w fun e w' => e = .returned (.int .i64 (unitsInV L o who f t)) ∧ Below w.heap.size w w' := by
  have HK := Lib.hid (c_sOrderOk L o A O c d w hA hO hn ho)
  have q0 : IntKind.i64.wrap ((L.length : Int) - 1) = (L.length : Int) - 1 := IntWalk.i64_in _ (by omega)
  have HI := Lib.hid (fun W => c_l1In who 0 ((L.length : Int) - 1) W)
  have HJ := Lib.hid (fun W => c_l1In f 0 t W)
  by_cases hok : ordOk L o = true
  · rw [hok] at HK
    by_cases h1 : 0 ≤ who ∧ who ≤ (L.length : Int) - 1
    · have H1 := Lib.hid (decide_eq_true h1)
      by_cases h2 : 0 ≤ f ∧ f ≤ t
      · have H2 := Lib.hid (decide_eq_true h2)
        by_cases h3 : t ≤ 200
        · have hui := uiOk_mk hok h1 h2 h3
          have HV := Lib.hid (unitsInV_yes hui)
          have d3 : decide ((200 : Int) < t) = false := decide_eq_false (by omega)
          have hl2 := (ordOk_parts hok).2.1
          obtain ⟨fn, rfl⟩ : ∃ fn : Nat, f = (fn : Int) := ⟨f.toNat, by omega⟩
          obtain ⟨tn, rfl⟩ : ∃ tn : Nat, t = (tn : Int) := ⟨t.toNat, by omega⟩
          have hft : fn ≤ tn := by omega
          have htn : tn ≤ 200 := by omega
          have HB := Lib.hid (fun (s : Nat) => show cntU o who (cutT o (fn : Int)) ≤ cntU o who (cutT o (fn : Int)) + 0 from by omega)
          have HBd := Lib.hid (fun (s : Nat) => cntU_bd o who s)
          have HSt := Lib.hid (fun (s : Nat) (hs : s < o.length) => @cutT_step o s hs)
          have HE := Lib.hid (fun (s : Nat) (hs : s ≤ tn) (he : ¬ (s < tn ∧ s < o.length)) => show cutT o (s : Int) = cutT o (tn : Int) from by unfold cutT; omega)
          have HCut := Lib.hid (fun (s : Nat) => show cutT o (s : Int) ≤ o.length from by unfold cutT; omega)
          clear hok h1 h2 h3 hui
          go_enter Try.func21, Try.ntmps21
          go_wp2_with fail
          refine HK.out.mono ?_
          rintro e w1 ⟨rfl, hb1⟩
          go_wp2_with fail
          refine (HI.out _).mono ?_
          rintro e w2 ⟨rfl, rfl⟩
          rw [H1.out]
          go_wp2_with fail
          refine (HJ.out _).mono ?_
          rintro e w3 ⟨rfl, rfl⟩
          rw [H2.out]
          clear q0
          go_wp2_with fail
          go_loop [11, 12] (fun n i => ∃ s : Nat, fn ≤ s ∧ s ≤ tn ∧ i = .int .i64 (s : Int) ∧ n = .int .i64 (cntU o who (cutT o (s : Int)) - cntU o who (cutT o (fn : Int)))) (fun _ i => tn - (intOf i).toNat)
          case atStart => exact ⟨fn, Nat.le_refl _, hft, rfl, by rw [Int.sub_self]⟩
          case round =>
            obtain ⟨s, hs1, hs2, rfl, rfl⟩ := hrel
            have bb1 := HBd.out (cutT o (s : Int))
            have bb2 := HBd.out (cutT o (fn : Int))
            have bb3 := HCut.out s
            have bb4 := HCut.out fn
            by_cases hst : s < tn
            · have d1 : decide ((s : Int) < (tn : Int)) = true := decide_eq_true (by omega)
              by_cases hso : s < o.length
              · have d2 : decide ((s : Int) < (o.length : Int)) = true := decide_eq_true (by omega)
                obtain ⟨ob, oo, rfl, hob, hoc⟩ := hO (by omega)
                have c0 := (hb1.cell (p := ⟨ob, oo + s, none⟩) hob).trans (hoc s hso)
                obtain ⟨e1, e2⟩ := HSt.out s hso
                rw [e2] at bb1 ⊢
                have hS : cntU o who (s + 1) = cntU o who s + (if Z o s = who then 1 else 0) := rfl
                have p1 : (0 : Int) ≤ (s : Int) := by omega
                have p2 : (s : Int) < (o.length : Int) := by omega
                have E1 := Lib.hid e1
                generalize cntU o who (cutT o (fn : Int)) = c9 at *
                clear hoc e1 e2
                by_cases hz : Z o s = who
                · have dz : (Z o s == who) = true := beq_iff_eq.2 hz
                  rw [if_pos hz] at hS
                  have HS := Lib.hid hS
                  have q1 : IntKind.i64.wrap (cntU o who s - c9 + 1) = cntU o who s - c9 + 1 := IntWalk.i64_in _ (by omega)
                  clear hz hS
                  go_wp2_with fail
                  go_round
                  case rel => exact ⟨s + 1, by omega, by omega, by go_num, by rw [E1.out, HS.out]; congr 1; omega⟩
                  case measure => simp [intOf]; omega
                · have dz : (Z o s == who) = false := beq_eq_false_iff_ne.2 hz
                  rw [if_neg hz, Int.add_zero] at hS
                  have HS := Lib.hid hS
                  clear hz hS
                  go_wp2_with fail
                  go_round
                  case rel => exact ⟨s + 1, by omega, by omega, by go_num, by rw [E1.out, HS.out]⟩
                  case measure => simp [intOf]; omega
              · have d2 : decide ((s : Int) < (o.length : Int)) = false := decide_eq_false (by omega)
                have HEs := Lib.hid (HE.out s hs2 (by omega))
                go_wp2_with fail
                go_ret
                exact ⟨by rw [HV.out, ← HEs.out]; rfl, hb1⟩
            · have d1 : decide ((s : Int) < (tn : Int)) = false := decide_eq_false (by omega)
              have HEs := Lib.hid (HE.out s hs2 (by omega))
              go_wp2_with fail
              go_ret
              exact ⟨by rw [HV.out, ← HEs.out]; rfl, hb1⟩
        · have HV := Lib.hid (unitsInV_no (L := L) (o := o) (who := who) (f := f) (t := t) (by simp [uiOk, h3]))
          have d3 : decide ((200 : Int) < t) = true := decide_eq_true (by omega)
          clear hok h1 h2 h3
          go_enter Try.func21, Try.ntmps21
          go_wp2_with fail
          refine HK.out.mono ?_
          rintro e w1 ⟨rfl, hb1⟩
          go_wp2_with fail
          refine (HI.out _).mono ?_
          rintro e w2 ⟨rfl, rfl⟩
          rw [H1.out]
          go_wp2_with fail
          refine (HJ.out _).mono ?_
          rintro e w3 ⟨rfl, rfl⟩
          rw [H2.out]
          clear q0
          go_wp2_with fail
          go_ret
          exact ⟨by rw [HV.out]; rfl, hb1⟩
      · have HV := Lib.hid (unitsInV_no (L := L) (o := o) (who := who) (f := f) (t := t) (by simp only [uiOk, decide_eq_false h2, Bool.and_false, Bool.false_and]))
        have H2 := Lib.hid (decide_eq_false h2)
        clear hok h1 h2
        go_enter Try.func21, Try.ntmps21
        go_wp2_with fail
        refine HK.out.mono ?_
        rintro e w1 ⟨rfl, hb1⟩
        go_wp2_with fail
        refine (HI.out _).mono ?_
        rintro e w2 ⟨rfl, rfl⟩
        rw [H1.out]
        go_wp2_with fail
        refine (HJ.out _).mono ?_
        rintro e w3 ⟨rfl, rfl⟩
        rw [H2.out]
        clear q0
        go_wp2_with fail
        go_ret
        exact ⟨by rw [HV.out]; rfl, hb1⟩
    · have HV := Lib.hid (unitsInV_no (L := L) (o := o) (who := who) (f := f) (t := t) (by simp only [uiOk, decide_eq_false h1, Bool.and_false, Bool.false_and]))
      have H1 := Lib.hid (decide_eq_false h1)
      clear hok h1
      go_enter Try.func21, Try.ntmps21
      go_wp2_with fail
      refine HK.out.mono ?_
      rintro e w1 ⟨rfl, hb1⟩
      go_wp2_with fail
      refine (HI.out _).mono ?_
      rintro e w2 ⟨rfl, rfl⟩
      rw [H1.out]
      clear q0
      go_wp2_with fail
      go_ret
      exact ⟨by rw [HV.out]; rfl, hb1⟩
  · have hno : ordOk L o = false := by simpa using hok
    rw [hno] at HK
    have HV := Lib.hid (unitsInV_no (L := L) (o := o) (who := who) (f := f) (t := t) (by simp [uiOk, hno]))
    clear hok hno
    go_enter Try.func21, Try.ntmps21
    go_wp2_with fail
    refine HK.out.mono ?_
    rintro e w1 ⟨rfl, hb1⟩
    clear q0
    go_wp2_with fail
    go_ret
    exact ⟨by rw [HV.out]; rfl, hb1⟩

end Go.Proofs.Ytecoefjkobpbgaa

