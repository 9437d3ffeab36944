/- spec.OrderOk (ahead of the landing) -/
import Derived.Test.YtecoefjkobpbgaaK5
namespace Go.Proofs.Ytecoefjkobpbgaa
set_option linter.unusedVariables false
open Go.RowKit
attribute [local go_sem ↓] Go.wp_at_zero Go.wp_at_succ

theorem ordOk_bad {L : List (Int × Int)} {o : List Int} {t : Nat} (ht : t < o.length) (h : cOk L = true → unitOk L o t = false) : ordOk L o = false := by
  by_cases hc : cOk L = true
  · have h := h hc
    have : unitsOk L o o.length = false := by
      by_cases hu : unitsOk L o o.length = true
      · rw [unitsOk_at _ hu t ht] at h; cases h
      · simpa using hu
    simp [ordOk, this]
  · simp [ordOk, hc]
theorem ordOk_left {L : List (Int × Int)} {o lf : List Int} {k : Nat} (hk : k < L.length) (hz : 0 < Z lf k) (h : cOk L = true → lf = leftOf L o o.length) : ordOk L o = false := by
  by_cases hc : cOk L = true
  · have h := h hc
    have : noneLeft (leftOf L o o.length) L.length = false := by
      by_cases hu : noneLeft (leftOf L o o.length) L.length = true
      · have := noneLeft_at _ hu k hk; rw [← h] at this; omega
      · simpa using hu
    simp [ordOk, this]
  · simp [ordOk, hc]
theorem left_bd {L : List (Int × Int)} {o : List Int} {k : Nat} (hk : k < L.length) : ∀ t, Y L k - t ≤ Z (leftOf L o t) k ∧ Z (leftOf L o t) k ≤ Y L k := by
  intro t
  induction t with
  | zero => show Y L k - _ ≤ Z (needs L) k ∧ Z (needs L) k ≤ Y L k; rw [needs_Z hk]; omega
  | succ t ih =>
    show _ ≤ Z (stepL (leftOf L o t) (Z o t)) k ∧ Z (stepL (leftOf L o t) (Z o t)) k ≤ _
    unfold stepL
    split
    · by_cases hq : (Z o t).toNat < (leftOf L o t).length
      · rw [Z_set hq]
        split
        · rename_i e; subst e; omega
        · omega
      · rw [List.set_eq_of_length_le (by omega)]; omega
    · omega

set_option maxHeartbeats 8000000 in
theorem c_sOrderOk (L : List (Int × Int)) (o : List Int) (A O : Option Addr) (c d : Nat) (w : World) (hA : Cs w w.heap.size A L) (hO : Is w w.heap.size O o) (hn : L.length ≤ 1000000000000) (ho : o.length ≤ 140737488351232) :
    Calls Try.prog 53 #[.slice A L.length c, .slice O o.length d] w fun e w' => e = .returned (.bool (ordOk L o)) ∧ Below w.heap.size w w' := by
  go_enter Try.func53, Try.ntmps53
  have hbz : Below w.heap.size w (w.alloc (.cells #[] 3)) := by (repeat (first | exact rfl | exact Below.refl _ _ | (with_reducible refine Below.drew ?_) | (with_reducible refine Below.drewN ?_ _) | (with_reducible refine Below.alloc ?_ ?_ _) | (with_reducible refine Below.setCell ?_ ?_ _) | (show _ ≤ _; focus (first | omega | (simp; done) | (simp; omega)))))
  go_wp2_with fail
  go_loopw [5, 6] (fun q i wr => ∃ k : Nat, k ≤ L.length ∧ i = .int .i64 k ∧ IO wr w.heap.size q (needsTo L k) ∧ Below w.heap.size w wr) (fun _ i _ => L.length - (intOf i).toNat)
  case atStart => exact ⟨0, by omega, rfl, IO.empty w (Nat.le_refl _), hbz⟩
  case round =>
    obtain ⟨k, hk, rfl, hown, hb⟩ := hrel
    have hsz := hb.size
    by_cases hlt : k < L.length
    · obtain ⟨b, off, rfl, hlb, hc⟩ := hA (by omega)
      have c1 := (hb.cell (p := ⟨b, off + k * 2 + 1, none⟩) hlb).trans (hc k hlt).2
      have q5 : (needsTo L k).length ≤ 1000000000000 := by rw [needsTo_len (by omega)]; omega
      clear hc
      go_wp2_with (refine app_I ?_ (.tmp 17) (.tmp 23) ?_ w.heap.size u5 (needsTo L k) (Y L k) wr.heap.size ?_ ?_ ?_ ?_ ?_ ?_ ?_; rfl; rfl; rfl; exact (hown.alloc _); rfl; exact (heap_alloc_new _ _); exact q5; exact (Nat.le_trans hsz (by simp)); intro g7 cap w7 hown7 hgr7 hb7)
      go_roundw
      case rel =>
        refine ⟨k + 1, by omega, by go_num, by rw [needs_take_succ hlt]; exact hown7, ?_⟩
        refine Below.trans ?_ hb7
        (repeat (first | exact hb | exact Below.refl _ _ | (with_reducible refine Below.drew ?_) | (with_reducible refine Below.drewN ?_ _) | (with_reducible refine Below.alloc ?_ ?_ _) | (with_reducible refine Below.setCell ?_ ?_ _) | (show _ ≤ _; focus (first | omega | (simp; done) | (simp; omega)))))
      case measure => simp [intOf]; omega
    · have hlf : ¬ ((k : Int) < (L.length : Int)) := by omega
      have hown3 : IO wr w.heap.size u5 (needs L) := by
        have e : needsTo L k = needs L := List.take_of_length_le (by rw [needs_len]; omega)
        rw [e] at hown
        exact hown
      obtain ⟨G, g, hu, hg1, hG⟩ := hown3.formG
      clear hown hk hlt hbz hG hg1
      rw [needs_len] at hu
      subst hu
      go_wp2_with fail
      obtain ⟨w3, hw3⟩ : ∃ x, x = wr := ⟨_, rfl⟩
      rw [← hw3] at hown3 hb ⊢
      clear hsz hw3
      go_loopw [7] (fun i wq => ∃ t : Nat, t ≤ o.length ∧ i = .int .i64 t ∧ (∃ lf : List Int, lf.length = L.length ∧ IO wq w.heap.size (.slice G L.length g) lf ∧ Hid (cOk L = true → lf = leftOf L o t ∧ unitsOk L o t = true)) ∧ Below w.heap.size w wq) (fun i _ => o.length - (intOf i).toNat)
      case atStart => exact ⟨0, by omega, rfl, ⟨needs L, needs_len L, hown3, fun _ => ⟨rfl, rfl⟩⟩, hb⟩
      case round =>
        clear hb
        obtain ⟨t, ht, rfl, ⟨lf, hlen, hown, HI⟩, hb⟩ := hrel
        have hsq := hb.size
        by_cases hlt : t < o.length
        · obtain ⟨ob, oo, rfl, hob, hoc⟩ := hO (by omega)
          have c0 := (hb.cell (p := ⟨ob, oo + t, none⟩) hob).trans (hoc t hlt)
          have e1 : IntKind.i64.wrap ((L.length : Int) - 1) = (L.length : Int) - 1 := IntWalk.i64_in _ (by omega)
          clear hoc
          have HK := Lib.hid (fun w => c_l1In (Z o t) (-1) ((L.length : Int) - 1) w)
          by_cases hin : -1 ≤ Z o t ∧ Z o t ≤ (L.length : Int) - 1
          · have HD := Lib.hid (show decide (-1 ≤ Z o t ∧ Z o t ≤ (L.length : Int) - 1) = true from decide_eq_true hin)
            by_cases hm : Z o t = -1
            · rw [hm] at c0 HK HD
              have HM := Lib.hid hm
              clear hm hin
              go_wp2_with fail
              refine (HK.out _).mono ?_
              rintro e w1 ⟨rfl, rfl⟩
              rw [HD.out]
              go_wp2_with fail
              go_roundw
              case rel =>
                refine ⟨t + 1, by omega, by go_num, ⟨lf, hlen, hown, fun hc => ?_⟩, hb⟩
                obtain ⟨i1, i2⟩ := HI.out hc
                refine ⟨?_, ?_⟩
                · rw [i1]; simp [leftOf, stepL, HM.out]
                · simp [unitsOk, i2, unitOk, HM.out]; omega
              case measure => simp [intOf]; omega
            · obtain ⟨p, hp⟩ : ∃ p : Nat, Z o t = p := ⟨(Z o t).toNat, by omega⟩
              have hpL : p < L.length := by omega
              rw [hp] at c0 HK HD
              have HM := Lib.hid hp
              clear hm hin hp
              obtain ⟨b, off, rfl, hlb, hc⟩ := hA (by omega)
              have c1 := (hb.cell (p := ⟨b, off + p * 2, none⟩) hlb).trans (hc p hpL).1
              clear hc
              by_cases hx : (t : Int) < X L p
              · have HB := Lib.hid (ordOk_bad hlt (fun _ => by simp [unitOk, HM.out]; omega) : ordOk L o = false)
                go_wp2_with fail
                refine (HK.out _).mono ?_
                rintro e w1 ⟨rfl, rfl⟩
                rw [HD.out]
                go_wp2_with fail
                go_ret
                exact ⟨by rw [HB.out]; rfl, hb⟩
              · obtain ⟨G', g', hu6, hg1, hG⟩ := hown.formG
                injection hu6 with e1' e2' e3'
                subst e1'
                subst e3'
                obtain ⟨lb, rfl, hlb1, hlb2, hlc⟩ := hG (by omega)
                have c2 := hown.cells.2.1 p hpL
                have f2 := hown.cells.2.2 p
                clear hlc hg1 e2'
                by_cases hz : Z lf p = 0
                · have HB := Lib.hid (ordOk_bad hlt (fun hc => by have i := (HI.out hc).1; simp [unitOk, HM.out, ← i, hz]) : ordOk L o = false)
                  have hzb : (Z lf p == 0) = true := beq_iff_eq.2 hz
                  clear hz
                  go_wp2_with fail
                  refine (HK.out _).mono ?_
                  rintro e w1 ⟨rfl, rfl⟩
                  rw [HD.out]
                  go_wp2_with fail
                  go_ret
                  exact ⟨by rw [HB.out]; rfl, hb⟩
                · have hzb : (Z lf p == 0) = false := beq_eq_false_iff_ne.2 hz
                  have HZ := Lib.hid hz
                  have HX := Lib.hid hx
                  obtain ⟨y, hy⟩ : ∃ y, IntKind.i64.wrap (Z lf p - 1) = y := ⟨_, rfl⟩
                  have hown8 := hown.store p y
                  have hb8 : Below w.heap.size w (wr.setCell ⟨lb, p, none⟩ (.int .i64 y)) := by (repeat (first | exact hb | exact Below.refl _ _ | (with_reducible refine Below.drew ?_) | (with_reducible refine Below.drewN ?_ _) | (with_reducible refine Below.alloc ?_ ?_ _) | (with_reducible refine Below.setCell ?_ ?_ _) | (show _ ≤ _; focus (first | omega | (simp; done) | (simp; omega)))))
                  have HN := Lib.hid (fun hc : cOk L = true => show lf.set p y = leftOf L o (t + 1) ∧ unitsOk L o (t + 1) = true by
                    obtain ⟨i1, i2⟩ := HI.out hc
                    have bd := cOk_bd hc hpL
                    have lb := left_bd (o := o) hpL t
                    have ey : y = Z lf p - 1 := by rw [← hy, i1]; exact IntWalk.i64_in _ (by omega)
                    refine ⟨?_, ?_⟩
                    · rw [ey, i1]; simp [leftOf, stepL, HM.out]
                    · have := HX.out
                      rw [i1] at hz
                      simp [unitsOk, i2, unitOk, HM.out]
                      exact ⟨by omega, .inr ⟨by omega, hz⟩⟩)
                  have HW := Lib.hid (And.intro hown8 hb8)
                  clear hz hown8 hb8
                  go_wp2_with fail
                  refine (HK.out _).mono ?_
                  rintro e w1 ⟨rfl, rfl⟩
                  rw [HD.out]
                  go_wp2_with fail
                  go_roundw
                  case rel => exact ⟨t + 1, by omega, by go_num, ⟨_, by rw [List.length_set]; exact hlen, HW.out.1, HN.out⟩, HW.out.2⟩
                  case measure => simp [intOf]; omega
          · have HD := Lib.hid (show decide (-1 ≤ Z o t ∧ Z o t ≤ (L.length : Int) - 1) = false from decide_eq_false hin)
            have HB := Lib.hid (ordOk_bad hlt (fun _ => by simp [unitOk]; intro h1 h2; exact absurd ⟨h1, by omega⟩ hin) : ordOk L o = false)
            clear hin
            go_wp2_with fail
            refine (HK.out _).mono ?_
            rintro e w1 ⟨rfl, rfl⟩
            rw [HD.out]
            go_wp2_with fail
            go_ret
            exact ⟨by rw [HB.out]; rfl, hb⟩
        · have hlf2 : ¬ ((t : Int) < (o.length : Int)) := by omega
          obtain rfl : t = o.length := by omega
          go_wp2_with fail
          obtain ⟨w4, hw4⟩ : ∃ x, x = wr := ⟨_, rfl⟩
          rw [← hw4] at hown hb ⊢
          clear hsq hw4
          go_loopw [9] (fun i wp => ∃ k : Nat, k ≤ L.length ∧ i = .int .i64 k ∧ Hid (cOk L = true → noneLeft (leftOf L o o.length) k = true) ∧ IO wp w.heap.size (.slice G L.length g) lf ∧ Below w.heap.size w wp) (fun i _ => L.length - (intOf i).toNat)
          case atStart => exact ⟨0, by omega, rfl, fun _ => rfl, hown, hb⟩
          case round =>
            clear hown hb
            obtain ⟨k, hk, rfl, HQ, hown, hb⟩ := hrel
            have hsp := hb.size
            by_cases hlt : k < L.length
            · obtain ⟨G', g', hu6, hg1, hG⟩ := hown.formG
              injection hu6 with e1' e2' e3'
              subst e1'
              subst e3'
              obtain ⟨lb, rfl, hlb1, hlb2, hlc⟩ := hG (by omega)
              have c2 := hown.cells.2.1 k hlt
              clear hlc hg1 e2' hG
              by_cases hz : 0 < Z lf k
              · have HB := Lib.hid (ordOk_left hlt hz (fun hc => (HI.out hc).1) : ordOk L o = false)
                go_wp2_with fail
                go_ret
                exact ⟨by rw [HB.out]; rfl, hb⟩
              · have HZ := Lib.hid hz
                go_wp2_with fail
                go_roundw
                case rel =>
                  refine ⟨k + 1, by omega, by go_num, fun hc => ?_, hown, hb⟩
                  have := HZ.out
                  rw [(HI.out hc).1] at this
                  simp [noneLeft, HQ.out hc]; omega
                case measure => simp [intOf]; omega
            · have hlf3 : ¬ ((k : Int) < (L.length : Int)) := by omega
              obtain rfl : k = L.length := by omega
              have HK := Lib.hid (c_sCustomersOk L A c wr ((hA.below hb).more hsp) (by omega))
              by_cases hc : cOk L = true
              · have H := Lib.hid hc
                by_cases hl : (o.length : Int) ≤ 200
                · have HB := Lib.hid (show ordOk L o = true by
                    have h1 := HI.out hc
                    simp [ordOk, hc, h1.2, HQ.out hc]; omega)
                  clear hc
                  go_wp2_with fail
                  refine HK.out.mono ?_
                  rintro e w5 ⟨rfl, hb5⟩
                  rw [H.out]
                  go_wp2_with fail
                  go_ret
                  exact ⟨by rw [HB.out]; rfl, hb.trans (hb5.mono hsp)⟩
                · have HB := Lib.hid (show ordOk L o = false by
                    simp [ordOk, hc]; omega)
                  clear hc
                  go_wp2_with fail
                  refine HK.out.mono ?_
                  rintro e w5 ⟨rfl, hb5⟩
                  rw [H.out]
                  go_wp2_with fail
                  go_ret
                  exact ⟨by rw [HB.out]; show Ending.returned (.bool (decide ((o.length : Int) ≤ 200))) = _; rw [decide_eq_false (by omega)], hb.trans (hb5.mono hsp)⟩
              · have H := Lib.hid (show cOk L = false by simpa using hc)
                have HB := Lib.hid (show ordOk L o = false by simp [ordOk, H.out])
                clear hc
                go_wp2_with fail
                refine HK.out.mono ?_
                rintro e w5 ⟨rfl, hb5⟩
                rw [H.out]
                go_wp2_with fail
                go_ret
                exact ⟨by rw [HB.out]; rfl, hb.trans (hb5.mono hsp)⟩

end Go.Proofs.Ytecoefjkobpbgaa

