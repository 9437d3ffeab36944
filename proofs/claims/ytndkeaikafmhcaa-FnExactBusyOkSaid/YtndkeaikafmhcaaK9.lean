/- spec.ChangesOf (ahead of the landing) -/
import Derived.Test.YtndkeaikafmhcaaK8
namespace Go.Proofs.Ytndkeaikafmhcaa
set_option linter.unusedVariables false
open Go.RowKit
attribute [local go_sem ↓] Go.wp_at_zero Go.wp_at_succ

theorem chTo_one (o E : List Int) : chTo o E 1 = 0 := by simp [chTo]
theorem chTo_end (o E : List Int) {t : Nat} (h : t = max 1 o.length) : chTo o E t = chTo o E o.length := by
  by_cases h0 : o.length = 0
  · rw [h0] at h ⊢; rw [h]; exact chTo_one o E
  · rw [h]; congr 1; omega
theorem chTo_same {o E : List Int} {t : Nat} (h : ¬ (1 ≤ t ∧ 0 ≤ Z o (t - 1) ∧ Z o t ≠ Z o (t - 1) ∧ (t : Int) < Z E (Z o (t - 1)).toNat)) : chTo o E (t + 1) = chTo o E t := by simp only [chTo]; rw [if_neg h]; omega
theorem chTo_more {o E : List Int} {t : Nat} (h : 1 ≤ t ∧ 0 ≤ Z o (t - 1) ∧ Z o t ≠ Z o (t - 1) ∧ (t : Int) < Z E (Z o (t - 1)).toNat) : chTo o E (t + 1) = chTo o E t + 1 := by simp only [chTo]; rw [if_pos h]

set_option maxRecDepth 4000 in
set_option maxHeartbeats 8000000 in
theorem c_sChangesOf (L : List (Int × Int)) (o : List Int) (A O : Option Addr) (c d : Nat) (w : World) (hA : Cs w w.heap.size A L) (hO : Is w w.heap.size O o) (hn : L.length ≤ 1000000000000) (ho : o.length ≤ 140737488351232) :
    Calls Try.prog 32 #[.slice A L.length c, .slice O o.length d] w fun e w' => e = .returned (.int .i64 (changesV L o)) ∧ Below w.heap.size w w' := by
  have HK := Lib.hid (c_sOrderOk L o A O c d w hA hO hn ho)
  by_cases hok : ordOk L o = true
  · obtain ⟨hc, hl2, hu, -⟩ := ordOk_parts hok
    have H := Lib.hid hok
    have HV := Lib.hid (changesV_yes hok)
    have HE := Lib.hid (ends_yes hok)
    have hlen := cOk_len hc
    have Hur := Lib.hid (fun t (ht : t < o.length) => unit_range hu ht)
    clear hok hc hu
    go_enter Try.func32, Try.ntmps32
    go_wp2_with fail
    refine HK.out.mono ?_
    rintro e w1 ⟨rfl, hb1⟩
    rw [H.out]
    have hs1 := hb1.size
    clear HK
    go_wp2_with fail
    refine (c_sEndsOf L o A O c d _ ((hA.below hb1).more hs1) ((hO.below hb1).more hs1) hn ho).mono ?_
    rintro e w2 ⟨v, rfl, o2, hb2⟩
    rw [HE.out] at o2
    obtain ⟨G, g, rfl, -, hG⟩ := o2.formG
    rw [endsL_len] at hG ⊢
    have HG := Lib.hid hG
    have hb3 := hb1.trans (hb2.mono hs1)
    have hs3 := hb3.size
    have Hch := Lib.hid (fun t => chTo_nn o (endsL L o L.length) t)
    generalize endsL L o L.length = E at HG HV Hch o2
    clear hG o2 hb2 hb1
    go_wp2_with fail
    go_loopw [6, 7] (fun s i wr => ∃ t : Nat, 1 ≤ t ∧ t ≤ max 1 o.length ∧ i = .int .i64 t ∧ s = .int .i64 (chTo o E t) ∧ Below w2.heap.size w2 wr) (fun _ i _ => o.length - (intOf i).toNat)
    case atStart => exact ⟨1, by omega, by omega, rfl, by rw [chTo_one], Below.refl _ _⟩
    case round =>
      obtain ⟨t, h1, ht, rfl, rfl, hb⟩ := hrel
      have hsz := hb.size
      by_cases hlt : t < o.length
      · obtain ⟨ob, oo, rfl, hob, hoc⟩ := hO (by omega)
        have c0 := ((hb3.trans (hb.mono hs3)).cell (p := ⟨ob, oo + t, none⟩) hob).trans (hoc t hlt)
        have c1 := ((hb3.trans (hb.mono hs3)).cell (p := ⟨ob, oo + (t - 1), none⟩) hob).trans (hoc (t - 1) (by omega))
        have bn := Hch.out t
        have br := Hur.out (t - 1) (by omega)
        have p0 : (0 : Int) ≤ (t : Int) := by omega
        have p2 : (t : Int) < (o.length : Int) := by omega
        have p3 : (0 : Int) ≤ (t : Int) - 1 := by omega
        have p4 : (t : Int) - 1 < (o.length : Int) := by omega
        have p5 : ((t : Int) - 1).toNat = t - 1 := by omega
        have p6 : (1 : Int) ≤ (t : Int) := by omega
        have q7 : IntKind.i64.wrap ((t : Int) - 1) = (t : Int) - 1 := IntWalk.i64_in _ (by omega)
        clear hoc
        by_cases ha : 0 ≤ Z o (t - 1)
        · obtain ⟨p, hp⟩ := Int.eq_ofNat_of_zero_le ha
          have hpl : p < L.length := by omega
          obtain ⟨gb, rfl, -, hgb, hgc⟩ := HG.out (by omega)
          have c2 := (hb.cell (p := ⟨gb, p, none⟩) hgb).trans (hgc p hpl)
          have r1 : (0 : Int) ≤ (p : Int) := by omega
          have r2 : (p : Int) < (L.length : Int) := by omega
          clear hgc
          have da : decide ((0 : Int) ≤ (p : Int)) = true := decide_eq_true r1
          by_cases hbq : Z o t = Z o (t - 1)
          · have HN := Lib.hid (chTo_same (E := E) (fun h => h.2.2.1 hbq))
            rw [hp] at c1 hbq
            have db : (Z o t != (p : Int)) = false := by simp [hbq]
            clear ha hp br hbq
            go_wp2_with fail
            go_quiet (fail)
            clear da db q7
            have hbw : Below w2.heap.size w2 (wr.drewN nq) := by (repeat (first | exact hb | exact Below.refl _ _ | (with_reducible refine Below.drew ?_) | (with_reducible refine Below.drewN ?_ _) | (with_reducible refine Below.alloc ?_ ?_ _) | (with_reducible refine Below.setCell ?_ ?_ _) | (show _ ≤ _; focus (first | omega | (simp; done) | (simp; omega)))))
            generalize wr.drewN nq = wq at hbw ⊢
            clear hb c0 c1 c2
            go_wp2_with fail
            go_roundw
            case rel => exact ⟨t + 1, by omega, by omega, by go_num, by rw [HN.out], hbw⟩
            case measure => simp [intOf]; omega
          · have db : (Z o t != (p : Int)) = true := bne_iff_ne.2 (by rw [← hp]; exact hbq)
            by_cases hcq : (t : Int) < Z E p
            · have HN := Lib.hid (chTo_more (E := E) ⟨h1, ha, hbq, by rw [hp]; exact hcq⟩)
              rw [hp] at c1
              have dc : decide ((t : Int) < Z E p) = true := decide_eq_true hcq
              clear ha hp br hbq hcq
              go_wp2_with fail
              go_quiet (fail)
              clear da db dc q7
              have hbw : Below w2.heap.size w2 (wr.drewN nq) := by (repeat (first | exact hb | exact Below.refl _ _ | (with_reducible refine Below.drew ?_) | (with_reducible refine Below.drewN ?_ _) | (with_reducible refine Below.alloc ?_ ?_ _) | (with_reducible refine Below.setCell ?_ ?_ _) | (show _ ≤ _; focus (first | omega | (simp; done) | (simp; omega)))))
              generalize wr.drewN nq = wq at hbw ⊢
              clear hb c0 c1 c2
              go_wp2_with fail
              go_roundw
              case rel => exact ⟨t + 1, by omega, by omega, by go_num, by rw [HN.out], hbw⟩
              case measure => simp [intOf]; omega
            · have HN := Lib.hid (chTo_same (E := E) (t := t) (o := o) (fun h => hcq (by have := h.2.2.2; rw [hp] at this; exact this)))
              rw [hp] at c1
              have dc : decide ((t : Int) < Z E p) = false := decide_eq_false hcq
              clear ha hp br hbq hcq
              go_wp2_with fail
              go_quiet (fail)
              clear da db dc q7
              have hbw : Below w2.heap.size w2 (wr.drewN nq) := by (repeat (first | exact hb | exact Below.refl _ _ | (with_reducible refine Below.drew ?_) | (with_reducible refine Below.drewN ?_ _) | (with_reducible refine Below.alloc ?_ ?_ _) | (with_reducible refine Below.setCell ?_ ?_ _) | (show _ ≤ _; focus (first | omega | (simp; done) | (simp; omega)))))
              generalize wr.drewN nq = wq at hbw ⊢
              clear hb c0 c1 c2
              go_wp2_with fail
              go_roundw
              case rel => exact ⟨t + 1, by omega, by omega, by go_num, by rw [HN.out], hbw⟩
              case measure => simp [intOf]; omega
        · have HN := Lib.hid (chTo_same (E := E) (fun h => ha h.2.1))
          have da : decide (0 ≤ Z o (t - 1)) = false := decide_eq_false ha
          clear ha
          go_wp2_with fail
          go_quiet (fail)
          clear da q7
          have hbq : Below w2.heap.size w2 (wr.drewN nq) := by (repeat (first | exact hb | exact Below.refl _ _ | (with_reducible refine Below.drew ?_) | (with_reducible refine Below.drewN ?_ _) | (with_reducible refine Below.alloc ?_ ?_ _) | (with_reducible refine Below.setCell ?_ ?_ _) | (show _ ≤ _; focus (first | omega | (simp; done) | (simp; omega)))))
          generalize wr.drewN nq = wq at hbq ⊢
          clear hb c0 c1
          go_wp2_with fail
          go_roundw
          case rel => exact ⟨t + 1, by omega, by omega, by go_num, by rw [HN.out], hbq⟩
          case measure => simp [intOf]; omega
      · have hlf : ¬ ((t : Int) < (o.length : Int)) := by omega
        have HF := Lib.hid (chTo_end o E (t := t) (by omega))
        go_wp2_with fail
        go_ret
        exact ⟨by rw [HV.out, ← HF.out]; rfl, hb3.trans (hb.mono hs3)⟩
  · have H := Lib.hid (show ordOk L o = false by simpa using hok)
    have HB := Lib.hid (changesV_no H.out)
    clear hok
    go_enter Try.func32, Try.ntmps32
    go_wp2_with fail
    refine HK.out.mono ?_
    rintro e w1 ⟨rfl, hb1⟩
    rw [H.out]
    go_wp2_with fail
    go_ret
    exact ⟨by rw [HB.out]; rfl, hb1⟩

end Go.Proofs.Ytndkeaikafmhcaa

