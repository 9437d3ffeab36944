/- Chapter 11's functions of the program, second part: UnitsIn -/
import Derived.Test.YtecoefjkobpbgaaU22
namespace Go.Proofs.Ytecoefjkobpbgaa
set_option linter.unusedVariables false
open Go.RowKit
attribute [local go_sem ↓] Go.wp_at_zero Go.wp_at_succ
attribute [local go_sem ↓] run_min2 run_max2

theorem uiOk_no {L : List (Int × Int)} {o : List Int} {who f t : Int} (h : ¬ (ordOk L o = true ∧ (0 ≤ who ∧ who ≤ (L.length : Int) - 1) ∧ (0 ≤ f ∧ f ≤ t) ∧ t ≤ 200)) : unitsInV L o who f t = -1 := by
  refine unitsInV_no ?_
  cases hu : uiOk L o who f t with
  | false => rfl
  | true => exact absurd (uiOk_parts hu) h

set_option maxRecDepth 4000 in
set_option maxHeartbeats 4000000 in
theorem c_iUnitsIn (L : List (Int × Int)) (o : List Int) (A O : Option Addr) (c d : Nat) (who f t : Int) (w : World) (hA : Cs w w.heap.size A L) (hO : Is w w.heap.size O o) (hcap : L.length ≤ c) (hcap2 : o.length ≤ d) (hn : L.length ≤ 1000000000000) (ho : o.length ≤ 140737488351232) :
    Calls Try.prog 20 #[.slice A L.length c, .slice O o.length d, .int .i64 who, .int .i64 f, .int .i64 t] w fun e w' => e = .returned (.int .i64 (unitsInV L o who f t)) ∧ Below w.heap.size w w' := by
  have HK := Lib.hid (c_iOrderOk L o A O c d w hA hO (by omega) ho)
  have HP := Lib.hid (fun x W => c_placeIs L A c x W (by omega))
  by_cases hok : ordOk L o = true
  · have H := Lib.hid hok
    by_cases h1 : 0 ≤ who ∧ who ≤ (L.length : Int) - 1
    · have H1 := Lib.hid (decide_eq_true h1)
      by_cases h2 : 0 ≤ f ∧ f ≤ t
      · have H2 := Lib.hid (decide_eq_true h2)
        by_cases h3 : t ≤ 200
        · have hV := unitsInV_yes (show uiOk L o who f t = true by simp only [uiOk, hok, H1.out, H2.out, decide_eq_true h3, Bool.and_self])
          have hl2 := (ordOk_parts hok).2.1
          obtain ⟨an, rfl⟩ : ∃ an : Nat, who = (an : Int) := ⟨who.toNat, by omega⟩
          have han : an < L.length := by omega
          have hol : 1 ≤ o.length := by
            have c1 := cntU_all hok han
            have c2 := cntU_bd o an o.length
            have c3 := (cOk_bd (ordOk_parts hok).1 han)
            omega
          obtain ⟨ob, oo, rfl, hob, hoc⟩ := hO (by omega)
          have hfc : min f (o.length : Int) = (cutT o f : Nat) := by unfold cutT; omega
          have htc : min t (o.length : Int) = (cutT o t : Nat) := by unfold cutT; omega
          have hft := cutT_mono (o := o) h2.2
          generalize cutT o f = cf at *
          generalize cutT o t = ct at *
          have q1 : (0 : Int) ≤ (cf : Int) := by omega
          have q2 : (cf : Int) ≤ (ct : Int) := by omega
          have q3 : (ct : Int) ≤ (d : Int) := by omega
          have q4 : ¬ (200 : Int) < t := by omega
          have hct : ct ≤ o.length := by omega
          have HV := Lib.hid hV
          have HC := Lib.hid (fun k => cntU_bd o (an : Int) k)
          have HS := Lib.hid (fun k => show cntU o (an : Int) (k + 1) = cntU o (an : Int) k + (if Z o k = (an : Int) then 1 else 0) from rfl)
          have HO := Lib.hid (And.intro hob hoc)
          clear hA hO hoc hok h1 h2 h3 hV
          by_cases hcd : cf < d
          · go_enter Try.func20, Try.ntmps20
            go_wp2_with fail
            refine HK.out.mono ?_
            rintro e w2 ⟨rfl, hb2⟩
            rw [H.out]
            go_wp2_with fail
            refine (HP.out _ _).mono ?_
            rintro e w3 ⟨rfl, rfl⟩
            rw [H1.out]
            go_wp2_with fail
            refine (c_within _ _ _ _).mono ?_
            rintro e w3 ⟨rfl, rfl⟩
            rw [H2.out]
            go_wp2_with fail
            go_loopw [11, 45] (fun u i wr => ∃ k : Nat, k ≤ ct - cf ∧ i = .int .i64 k ∧ u = .int .i64 (cntU o (an : Int) (cf + k) - cntU o (an : Int) cf) ∧ wr = w2) (fun _ i _ => ct - cf - (intOf i).toNat)
            case atStart => exact ⟨0, Nat.zero_le _, rfl, by simp, rfl⟩
            case round =>
              obtain ⟨k, hk, rfl, rfl, rfl⟩ := hrel
              by_cases hlt : k < ct - cf
              · have ce : wr.cell? ⟨ob, oo + cf + k, none⟩ = some (.int .i64 (Z o (cf + k))) := (hb2.cell (p := ⟨ob, oo + cf + k, none⟩) HO.out.1).trans (by rw [show oo + cf + k = oo + (cf + k) by omega]; exact HO.out.2 (cf + k) (by omega))
                have r1 : (k : Int) < ((ct - cf : Nat) : Int) := by omega
                have r2 : (0 : Int) ≤ (k : Int) := by omega
                have hs := HS.out (cf + k)
                have hb := HC.out (cf + k)
                have hb' := HC.out cf
                by_cases he : Z o (cf + k) = (an : Int)
                · have e1 : (Z o (cf + k) == (an : Int)) = true := beq_iff_eq.2 he
                  have r3 : IntKind.i64.wrap (cntU o (an : Int) (cf + k) - cntU o (an : Int) cf + 1) = cntU o (an : Int) (cf + k) - cntU o (an : Int) cf + 1 := IntWalk.i64_in _ (by omega)
                  have HU := Lib.hid (show cntU o (an : Int) (cf + k) - cntU o (an : Int) cf + 1 = cntU o (an : Int) (cf + (k + 1)) - cntU o (an : Int) cf by rw [show cf + (k + 1) = cf + k + 1 by omega, hs, if_pos he]; omega)
                  rw [he] at ce
                  clear hs hb hb' he e1
                  go_wp2_with fail
                  go_roundw
                  case rel => exact ⟨k + 1, by omega, by go_num, by rw [HU.out], trivial⟩
                  case measure => simp [intOf]; omega
                · have e1 : (Z o (cf + k) == (an : Int)) = false := beq_eq_false_iff_ne.2 he
                  have HU := Lib.hid (show cntU o (an : Int) (cf + k) - cntU o (an : Int) cf = cntU o (an : Int) (cf + (k + 1)) - cntU o (an : Int) cf by rw [show cf + (k + 1) = cf + k + 1 by omega, hs, if_neg he]; omega)
                  clear hs hb hb' he
                  go_wp2_with fail
                  go_roundw
                  case rel => exact ⟨k + 1, by omega, by go_num, by rw [HU.out], trivial⟩
                  case measure => simp [intOf]; omega
              · have r1 : ¬ (k : Int) < ((ct - cf : Nat) : Int) := by omega
                have HU := Lib.hid (show cntU o (an : Int) (cf + k) - cntU o (an : Int) cf = cntU o (an : Int) ct - cntU o (an : Int) cf by rw [show cf + k = ct by omega])
                go_wp2_with fail
                go_ret
                exact ⟨by rw [HV.out, ← HU.out]; rfl, hb2⟩
          · have hcd2 : cf = d := by omega
            have hctd : ct = d := by omega
            have HU := Lib.hid (show (0 : Int) = cntU o (an : Int) ct - cntU o (an : Int) cf by rw [hctd, hcd2]; omega)
            go_enter Try.func20, Try.ntmps20
            go_wp2_with fail
            refine HK.out.mono ?_
            rintro e w2 ⟨rfl, hb2⟩
            rw [H.out]
            go_wp2_with fail
            refine (HP.out _ _).mono ?_
            rintro e w3 ⟨rfl, rfl⟩
            rw [H1.out]
            go_wp2_with fail
            refine (c_within _ _ _ _).mono ?_
            rintro e w3 ⟨rfl, rfl⟩
            rw [H2.out]
            go_wp2_with fail
            go_loopw [11, 45] (fun u i wr => i = .int .i64 0 ∧ u = .int .i64 0 ∧ wr = w2) (fun _ _ _ => 0)
            case atStart => exact ⟨rfl, rfl, rfl⟩
            case round =>
              obtain ⟨rfl, rfl, rfl⟩ := hrel
              go_wp2_with fail
              go_ret
              exact ⟨by rw [HV.out, ← HU.out]; rfl, hb2⟩
        · have q4 : (200 : Int) < t := by omega
          have HV := Lib.hid (uiOk_no (L := L) (o := o) (who := who) (f := f) (t := t) (fun h => h3 h.2.2.2))
          clear hA hO hok h1 h2 h3
          go_enter Try.func20, Try.ntmps20
          go_wp2_with fail
          refine HK.out.mono ?_
          rintro e w2 ⟨rfl, hb2⟩
          rw [H.out]
          go_wp2_with fail
          refine (HP.out _ _).mono ?_
          rintro e w3 ⟨rfl, rfl⟩
          rw [H1.out]
          go_wp2_with fail
          refine (c_within _ _ _ _).mono ?_
          rintro e w3 ⟨rfl, rfl⟩
          rw [H2.out]
          go_wp2_with fail
          go_ret
          exact ⟨by rw [HV.out]; rfl, hb2⟩
      · have H2 := Lib.hid (decide_eq_false h2)
        have HV := Lib.hid (uiOk_no (L := L) (o := o) (who := who) (f := f) (t := t) (fun h => h2 h.2.2.1))
        clear hA hO hok h1 h2
        go_enter Try.func20, Try.ntmps20
        go_wp2_with fail
        refine HK.out.mono ?_
        rintro e w2 ⟨rfl, hb2⟩
        rw [H.out]
        go_wp2_with fail
        refine (HP.out _ _).mono ?_
        rintro e w3 ⟨rfl, rfl⟩
        rw [H1.out]
        go_wp2_with fail
        refine (c_within _ _ _ _).mono ?_
        rintro e w3 ⟨rfl, rfl⟩
        rw [H2.out]
        go_wp2_with fail
        go_ret
        exact ⟨by rw [HV.out]; rfl, hb2⟩
    · have H1 := Lib.hid (decide_eq_false h1)
      have HV := Lib.hid (uiOk_no (L := L) (o := o) (who := who) (f := f) (t := t) (fun h => h1 h.2.1))
      clear hA hO hok h1
      go_enter Try.func20, Try.ntmps20
      go_wp2_with fail
      refine HK.out.mono ?_
      rintro e w2 ⟨rfl, hb2⟩
      rw [H.out]
      go_wp2_with fail
      refine (HP.out _ _).mono ?_
      rintro e w3 ⟨rfl, rfl⟩
      rw [H1.out]
      go_wp2_with fail
      go_ret
      exact ⟨by rw [HV.out]; rfl, hb2⟩
  · have hno : ordOk L o = false := by simpa using hok
    have H := Lib.hid hno
    have HV := Lib.hid (uiOk_no (L := L) (o := o) (who := who) (f := f) (t := t) (fun h => hok h.1))
    clear hA hO hok hno
    go_enter Try.func20, Try.ntmps20
    go_wp2_with fail
    refine HK.out.mono ?_
    rintro e w2 ⟨rfl, hb2⟩
    rw [H.out]
    go_wp2_with fail
    go_ret
    exact ⟨by rw [HV.out]; rfl, hb2⟩

end Go.Proofs.Ytecoefjkobpbgaa

