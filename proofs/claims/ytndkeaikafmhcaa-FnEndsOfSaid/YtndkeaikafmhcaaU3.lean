/- impl.ChangesOf -/
import Derived.Test.YtndkeaikafmhcaaU1
namespace Go.Proofs.Ytndkeaikafmhcaa
set_option linter.unusedVariables false
open Go.RowKit
attribute [local go_sem ↓] Go.wp_at_zero Go.wp_at_succ

/-- something is left of a customer after t units exactly if the end is later -/
theorem left_end {L : List (Int × Int)} {o : List Int} (h : ordOk L o = true) {k t : Nat} (hk : k < L.length) (ht : t ≤ o.length) : 0 < Z (leftOf L o t) k ↔ (t : Int) < endTo o k o.length := by
  obtain ⟨hc, hl2, hu, hnl⟩ := ordOk_parts h
  refine ⟨fun hz => ?_, fun he => end_left hc hu hk ht he⟩
  refine Int.not_le.1 fun hle => ?_
  have s := leftOf_same hu (k := k) (a := t) o.length ht (Nat.le_refl _) fun u hau hun e => by
    have := endTo_late (o := o) (k := k) o.length u hun e
    omega
  have z := noneLeft_at _ hnl k hk
  omega
/-- who was served in the unit before -/
def befV (o : List Int) (t : Nat) : Int := if t = 0 then -1 else Z o (t - 1)
theorem befV_zero (o : List Int) : befV o 0 = -1 := rfl
theorem befV_succ (o : List Int) (t : Nat) : befV o (t + 1) = Z o t := by simp [befV]
theorem befV_cases {L : List (Int × Int)} {o : List Int} (h : ordOk L o = true) {t : Nat} (ht : t < o.length) : (befV o t = -1 ∧ ¬ (1 ≤ t ∧ 0 ≤ Z o (t - 1))) ∨ (1 ≤ t ∧ ∃ p : Nat, befV o t = p ∧ Z o (t - 1) = p ∧ p < L.length) := by
  obtain ⟨hc, hl2, hu, hnl⟩ := ordOk_parts h
  cases t with
  | zero => exact .inl ⟨rfl, by omega⟩
  | succ t =>
    rw [befV_succ, show t + 1 - 1 = t by omega]
    rcases unitOk_cases (unitsOk_at _ hu t (by omega)) with e | ⟨p, e, hp, hx, hz⟩
    · exact .inl ⟨e, by omega⟩
    · exact .inr ⟨by omega, p, e, e, hp⟩

set_option maxRecDepth 4000 in
set_option maxHeartbeats 4000000 in
theorem c_iChangesOf (L : List (Int × Int)) (o : List Int) (A O : Option Addr) (c d : Nat) (w : World) (hA : Cs w w.heap.size A L) (hO : Is w w.heap.size O o) (hn : L.length ≤ 140737488351232) (ho : o.length ≤ 140737488351232) :
    Calls Try.prog 31 #[.slice A L.length c, .slice O o.length d] w fun e w' => e = .returned (.int .i64 (changesV L o)) ∧ Below w.heap.size w w' := by
  have HK := Lib.hid (c_iOrderOk L o A O c d w hA hO hn ho)
  by_cases hok : ordOk L o = true
  · obtain ⟨hc, hl2, hu, -⟩ := ordOk_parts hok
    have H := Lib.hid hok
    have HV := Lib.hid (changesV_yes hok)
    have hlen := cOk_len hc
    have HU := Lib.hid (fun t (ht : t < o.length) => unitsOk_at _ hu t ht)
    have HI := Lib.hid (leftOf_inv hc hu)
    have HB := Lib.hid (fun k => @cOk_bd L k hc)
    have HP := Lib.hid (fun t (ht : t < o.length) => befV_cases hok ht)
    have HL := Lib.hid (fun k t hk ht => @left_end L o hok k t hk ht)
    have Hch := Lib.hid (fun t => chTo_nn o (endsL L o L.length) t)
    have HEZ := Lib.hid (fun k (hk : k < L.length) => endsL_Z (L := L) (o := o) hk)
    generalize endsL L o L.length = E at HV Hch HEZ
    clear hok hc hu
    go_enter Try.func31, Try.ntmps31
    go_wp2_with fail
    refine HK.out.mono ?_
    rintro e w1 ⟨rfl, hb1⟩
    rw [H.out]
    have hs1 := hb1.size
    clear HK
    go_wp2_with fail
    refine (c_needsOf L A c w1 ((hA.below hb1).more hs1) (by omega)).mono ?_
    rintro e w2 ⟨v, rfl, hown2, hb2⟩
    obtain ⟨G, g, rfl, hg1, -⟩ := hown2.formG
    rw [needs_len] at hown2 hg1 ⊢
    have hb3 := hb1.trans (hb2.mono hs1)
    have hs3 := hb3.size
    clear hb2 hb1
    go_wp2_with fail
    go_loopw [5, 6, 18] (fun s b i wr => ∃ t : Nat, t ≤ o.length ∧ i = .int .i64 t ∧ s = .int .i64 (chTo o E t) ∧ b = .int .i64 (befV o t) ∧ IO wr w1.heap.size (.slice G L.length g) (leftOf L o t) ∧ Below w.heap.size w wr) (fun _ _ i _ => o.length - (intOf i).toNat)
    case atStart => exact ⟨0, by omega, rfl, rfl, rfl, hown2, hb3⟩
    case round =>
      obtain ⟨t, ht, rfl, rfl, rfl, hown, hb⟩ := hrel
      have hsz := hb.size
      have hll := leftOf_len L o t
      by_cases hlt : t < o.length
      · obtain ⟨ob, oo, rfl, hob, hoc⟩ := hO (by omega)
        have c0 := (hb.cell (p := ⟨ob, oo + t, none⟩) hob).trans (hoc t hlt)
        have p1 : (0 : Int) ≤ (t : Int) := by omega
        have p2 : (t : Int) < (o.length : Int) := by omega
        have bn := Hch.out t
        have HS := Lib.hid (c_serve (leftOf L o t) (Z o t) w1.heap.size (.slice G L.length g) wr hown (by
          rcases unitOk_cases (HU.out t hlt) with e | ⟨p, e, hp, hx, hz⟩
          · exact .inl e
          · refine .inr ?_
            rw [e]
            have r := (HI.out t (by omega)).rng p hp
            have b := HB.out p hp
            simp only [Int.toNat_natCast]
            omega) (by omega))
        have fin : ∀ (w6 : World), IO w6 w1.heap.size (.slice G L.length g) (stepL (leftOf L o t) (Z o t)) → wr.grownBy w6 (Value.slice G L.length g).ownBlock → IO w6 w1.heap.size (.slice G L.length g) (leftOf L o (t + 1)) ∧ Below w.heap.size w w6 :=
          fun _ h5 h6 => ⟨h5, hb.grown h6 (by omega) (fun k e => by have := owns_base hown k e; omega)⟩
        have HF := Lib.hid fin
        have HQ := Lib.hid (befV_succ o t)
        clear fin hoc
        rcases HP.out t hlt with ⟨e, hno⟩ | ⟨h1, p, e, e2, hp⟩
        · have HN := Lib.hid (chTo_same (o := o) (E := E) (t := t) (fun h => hno ⟨h.1, h.2.1⟩))
          rw [e]
          clear e hno hown hb
          go_wp2_with fail
          refine HS.out.mono ?_
          rintro e w6 ⟨⟨r, rfl⟩, hown6, hg6⟩
          go_wp2_with fail
          go_roundw
          case rel => exact ⟨t + 1, by omega, by go_num, by rw [HN.out], by rw [HQ.out], HF.out _ hown6 hg6⟩
          case measure => simp [intOf]; omega
        · have d1 : ((p : Int) == -1) = false := beq_eq_false_iff_ne.2 (by omega)
          rw [e]
          by_cases h4 : Z o t = (p : Int)
          · have d2 : (Z o t == (p : Int)) = true := beq_iff_eq.2 h4
            have HN := Lib.hid (chTo_same (o := o) (E := E) (t := t) (fun h => h.2.2.1 (by rw [h4, e2])))
            rw [h4] at c0 HS HQ HF
            clear e e2 h4 d2 hown hb
            go_wp2_with fail
            refine HS.out.mono ?_
            rintro e w6 ⟨⟨r, rfl⟩, hown6, hg6⟩
            go_wp2_with fail
            go_roundw
            case rel => exact ⟨t + 1, by omega, by go_num, by rw [HN.out], by rw [HQ.out], HF.out _ hown6 hg6⟩
            case measure => simp [intOf]; omega
          · have d2 : (Z o t == (p : Int)) = false := beq_eq_false_iff_ne.2 h4
            obtain ⟨G', g', hG', -, hG⟩ := hown.formG
            rw [hll] at hG'
            obtain ⟨gb, rfl, -, hgb, hgc⟩ := hG (by omega)
            cases hG'
            have cp := hgc p (by omega)
            have q1 : (0 : Int) ≤ (p : Int) := by omega
            have q2 : (p : Int) < (L.length : Int) := by omega
            have hle := HL.out p t hp (by omega)
            clear hgc
            by_cases h5 : 0 < Z (leftOf L o t) p
            · have HN := Lib.hid (chTo_more (o := o) (E := E) (t := t) ⟨h1, by omega, by rw [e2]; exact h4, by rw [e2, Int.toNat_natCast, HEZ.out p hp]; exact hle.1 h5⟩)
              have d3 : (Z o t != (p : Int)) = true := bne_iff_ne.2 h4
              have d4 : ((p : Int) != -1) = true := bne_iff_ne.2 (by omega)
              have d5 : decide (0 < Z (leftOf L o t) p) = true := decide_eq_true h5
              clear e e2 d2 hown hb hle hG
              go_wp2_with fail
              refine HS.out.mono ?_
              rintro e w6 ⟨⟨r, rfl⟩, hown6, hg6⟩
              go_wp2_with fail
              go_roundw
              case rel => exact ⟨t + 1, by omega, by go_num, by rw [HN.out], by rw [HQ.out], HF.out _ hown6 hg6⟩
              case measure => simp [intOf]; omega
            · have HN := Lib.hid (chTo_same (o := o) (E := E) (t := t) (fun h => h5 (hle.2 (by have := h.2.2.2; rw [e2, Int.toNat_natCast, HEZ.out p hp] at this; exact this))))
              clear e e2 d2 hown hb hle hG
              go_wp2_with fail
              refine HS.out.mono ?_
              rintro e w6 ⟨⟨r, rfl⟩, hown6, hg6⟩
              go_wp2_with fail
              go_roundw
              case rel => exact ⟨t + 1, by omega, by go_num, by rw [HN.out], by rw [HQ.out], HF.out _ hown6 hg6⟩
              case measure => simp [intOf]; omega
      · have hlf : ¬ ((t : Int) < (o.length : Int)) := by omega
        obtain rfl : t = o.length := by omega
        go_wp2_with fail
        go_ret
        exact ⟨by rw [HV.out]; rfl, hb⟩
  · have H := Lib.hid (show ordOk L o = false by simpa using hok)
    clear hok
    go_enter Try.func31, Try.ntmps31
    go_wp2_with fail
    refine HK.out.mono ?_
    rintro e w1 ⟨rfl, hb1⟩
    rw [H.out]
    go_wp2_with fail
    go_ret
    exact ⟨by rw [changesV_no H.out]; rfl, hb1⟩

end Go.Proofs.Ytndkeaikafmhcaa

