/- spec.BusyOk (ahead of the landing) -/
import Derived.Test.YtndkeaikafmhcaaK7
import Derived.Test.YtndkeaikafmhcaaK1
namespace Go.Proofs.Ytndkeaikafmhcaa
set_option linter.unusedVariables false
open Go.RowKit
attribute [local go_sem ↓] Go.wp_at_zero Go.wp_at_succ

theorem unitBusy_at {L : List (Int × Int)} {o : List Int} : ∀ n, unitBusy L o n = true → ∀ t, t < n → (decide (0 ≤ Z o t) == decide (0 < wk L t)) = true := by
  intro n
  induction n with
  | zero => intro _ t ht; omega
  | succ n ih =>
    intro h t ht
    simp only [unitBusy, Bool.and_eq_true] at h
    by_cases e : t = n
    · subst e; exact h.2
    · exact ih h.1 t (by omega)
theorem busyOk_bad {L : List (Int × Int)} {o : List Int} {t : Nat} (ht : t < o.length) (h : (decide (0 ≤ Z o t) == decide (0 < wk L t)) = false) : busyOk L o = false := by
  have : unitBusy L o o.length = false := by
    by_cases hu : unitBusy L o o.length = true
    · rw [unitBusy_at _ hu t ht] at h; cases h
    · simpa using hu
  simp [busyOk, this]
theorem busyOk_ord {L : List (Int × Int)} {o : List Int} (h : ordOk L o = false) : busyOk L o = false := by simp [busyOk, h]

set_option maxRecDepth 4000 in
set_option maxHeartbeats 8000000 in
theorem c_sBusyOk (L : List (Int × Int)) (o : List Int) (A O : Option Addr) (c d : Nat) (w : World) (hA : Cs w w.heap.size A L) (hO : Is w w.heap.size O o) (hn : L.length ≤ 1000000000000) (ho : o.length ≤ 140737488351232) :
    Calls Try.prog 21 #[.slice A L.length c, .slice O o.length d] w fun e w' => e = .returned (.bool (busyOk L o)) ∧ Below w.heap.size w w' := by
  have HK := Lib.hid (c_sOrderOk L o A O c d w hA hO hn ho)
  by_cases hok : ordOk L o = true
  · obtain ⟨hc, hl2, -, -⟩ := ordOk_parts hok
    have H := Lib.hid hok
    have HC := Lib.hid hc
    have hlen := cOk_len hc
    have Hwk := Lib.hid (fun t => @wk_bd L hc t)
    clear hok hc
    go_enter Try.func21, Try.ntmps21
    go_wp2_with fail
    refine HK.out.mono ?_
    rintro e w1 ⟨rfl, hb1⟩
    rw [H.out]
    have hs1 := hb1.size
    clear HK
    go_wp2_with fail
    refine (c_l3Work L HC.out A c 200 (by omega) _ ((hA.below hb1).more hs1) (by omega)).mono ?_
    rintro e w2 ⟨v, rfl, o2, hb2⟩
    obtain ⟨G, g, rfl, -, hG⟩ := o2.formG
    rw [workTo_len] at hG ⊢
    obtain ⟨gb, rfl, -, hgb, hgc⟩ := hG (by omega)
    have HGC := Lib.hid hgc
    have hb3 := hb1.trans (hb2.mono hs1)
    have hs3 := hb3.size
    clear hG hgc o2 hb2 hb1
    go_wp2_with fail
    go_loopw [6] (fun i wr => ∃ t : Nat, t ≤ o.length ∧ i = .int .i64 t ∧ Hid (unitBusy L o t = true) ∧ Below w2.heap.size w2 wr) (fun i _ => o.length - (intOf i).toNat)
    case atStart => exact ⟨0, by omega, rfl, rfl, Below.refl _ _⟩
    case round =>
      obtain ⟨t, ht, rfl, HI, hb⟩ := hrel
      have hsz := hb.size
      by_cases hlt : t < o.length
      · obtain ⟨ob, oo, rfl, hob, hoc⟩ := hO (by omega)
        have c0 := ((hb3.trans (hb.mono hs3)).cell (p := ⟨ob, oo + t, none⟩) hob).trans (hoc t hlt)
        have c1 := (hb.cell (p := ⟨gb, t, none⟩) hgb).trans (HGC.out t (by omega))
        rw [Z_workTo (by omega)] at c1
        have p1 : (0 : Int) ≤ (t : Int) := by omega
        have p2 : (t : Int) < (o.length : Int) := by omega
        have p3 : (t : Int) < ((200 + 1 : Nat) : Int) := by omega
        clear hoc
        by_cases ha : 0 ≤ Z o t <;> by_cases hw : 0 < wk L t
        · have HN := Lib.hid (show unitBusy L o (t + 1) = true by simp [unitBusy, HI.out, ha, hw])
          have da : decide (0 ≤ Z o t) = true := decide_eq_true ha
          have dw : decide (0 < wk L t) = true := decide_eq_true hw
          clear ha hw
          go_wp2_with fail
          go_quiet (fail)
          clear da dw
          have hbq : Below w2.heap.size w2 (wr.drewN nq) := by (repeat (first | exact hb | exact Below.refl _ _ | (with_reducible refine Below.drew ?_) | (with_reducible refine Below.drewN ?_ _) | (with_reducible refine Below.alloc ?_ ?_ _) | (with_reducible refine Below.setCell ?_ ?_ _) | (show _ ≤ _; focus (first | omega | (simp; done) | (simp; omega)))))
          generalize wr.drewN nq = wq at hbq ⊢
          clear hb c0 c1
          go_wp2_with fail
          go_roundw
          case rel => exact ⟨t + 1, by omega, by go_num, HN, hbq⟩
          case measure => simp [intOf]; omega
        · have HN := Lib.hid (busyOk_bad (L := L) hlt (by simp [ha, hw]))
          have da : decide (0 ≤ Z o t) = true := decide_eq_true ha
          have dw : decide (0 < wk L t) = false := decide_eq_false hw
          clear ha hw
          go_wp2_with fail
          go_quiet (fail)
          clear da dw
          have hbq : Below w2.heap.size w2 (wr.drewN nq) := by (repeat (first | exact hb | exact Below.refl _ _ | (with_reducible refine Below.drew ?_) | (with_reducible refine Below.drewN ?_ _) | (with_reducible refine Below.alloc ?_ ?_ _) | (with_reducible refine Below.setCell ?_ ?_ _) | (show _ ≤ _; focus (first | omega | (simp; done) | (simp; omega)))))
          generalize wr.drewN nq = wq at hbq ⊢
          clear hb c0 c1
          go_wp2_with fail
          go_ret
          exact ⟨by rw [HN.out]; rfl, hb3.trans (hbq.mono hs3)⟩
        · have HN := Lib.hid (busyOk_bad (L := L) hlt (by simp [ha, hw]))
          have da : decide (0 ≤ Z o t) = false := decide_eq_false ha
          have dw : decide (0 < wk L t) = true := decide_eq_true hw
          clear ha hw
          go_wp2_with fail
          go_quiet (fail)
          clear da dw
          have hbq : Below w2.heap.size w2 (wr.drewN nq) := by (repeat (first | exact hb | exact Below.refl _ _ | (with_reducible refine Below.drew ?_) | (with_reducible refine Below.drewN ?_ _) | (with_reducible refine Below.alloc ?_ ?_ _) | (with_reducible refine Below.setCell ?_ ?_ _) | (show _ ≤ _; focus (first | omega | (simp; done) | (simp; omega)))))
          generalize wr.drewN nq = wq at hbq ⊢
          clear hb c0 c1
          go_wp2_with fail
          go_ret
          exact ⟨by rw [HN.out]; rfl, hb3.trans (hbq.mono hs3)⟩
        · have HN := Lib.hid (show unitBusy L o (t + 1) = true by simp [unitBusy, HI.out, ha, hw])
          have da : decide (0 ≤ Z o t) = false := decide_eq_false ha
          have dw : decide (0 < wk L t) = false := decide_eq_false hw
          clear ha hw
          go_wp2_with fail
          go_quiet (fail)
          clear da dw
          have hbq : Below w2.heap.size w2 (wr.drewN nq) := by (repeat (first | exact hb | exact Below.refl _ _ | (with_reducible refine Below.drew ?_) | (with_reducible refine Below.drewN ?_ _) | (with_reducible refine Below.alloc ?_ ?_ _) | (with_reducible refine Below.setCell ?_ ?_ _) | (show _ ≤ _; focus (first | omega | (simp; done) | (simp; omega)))))
          generalize wr.drewN nq = wq at hbq ⊢
          clear hb c0 c1
          go_wp2_with fail
          go_roundw
          case rel => exact ⟨t + 1, by omega, by go_num, HN, hbq⟩
          case measure => simp [intOf]; omega
      · have hlf : ¬ ((t : Int) < (o.length : Int)) := by omega
        obtain rfl : t = o.length := by omega
        have hbx := hb3.trans (hb.mono hs3)
        have HL := Lib.hid (c_sLastLeave L A c wr ((hA.below hbx).more hbx.size) (by omega))
        have HN := Lib.hid (show busyOk L o = ((o.length : Int) == lastLeave L) by simp [busyOk, H.out, HI.out]; rfl)
        go_wp2_with fail
        refine HL.out.mono ?_
        rintro e w5 ⟨rfl, hb5⟩
        go_wp2_with fail
        go_ret
        exact ⟨by rw [HN.out]; rfl, hbx.trans (hb5.mono hbx.size)⟩
  · have H := Lib.hid (show ordOk L o = false by simpa using hok)
    have HB := Lib.hid (busyOk_ord H.out)
    clear hok
    go_enter Try.func21, Try.ntmps21
    go_wp2_with fail
    refine HK.out.mono ?_
    rintro e w1 ⟨rfl, hb1⟩
    rw [H.out]
    go_wp2_with fail
    go_ret
    exact ⟨by rw [HB.out]; rfl, hb1⟩

end Go.Proofs.Ytndkeaikafmhcaa

