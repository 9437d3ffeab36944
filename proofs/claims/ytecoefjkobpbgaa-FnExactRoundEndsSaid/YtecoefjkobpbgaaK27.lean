/- spec.AheadBy (ahead of the landing) -/
import Derived.Test.YtecoefjkobpbgaaK26
namespace Go.Proofs.Ytecoefjkobpbgaa
set_option linter.unusedVariables false
open Go.RowKit
attribute [local go_sem ↓] Go.wp_at_zero Go.wp_at_succ

theorem aheadOk_mk {L : List (Int × Int)} {o : List Int} {a b : Int} (h : ordOk L o = true) (h1 : 0 ≤ a ∧ a ≤ (L.length : Int) - 1) (h2 : 0 ≤ b ∧ b ≤ (L.length : Int) - 1) : aheadOk L o a b = true := by
  simp only [aheadOk, Bool.and_eq_true, decide_eq_true_eq]; exact ⟨⟨h, h1⟩, h2⟩
def max3 (a b c : Int) : Int := if c > (if b > a then b else a) then c else (if b > a then b else a)
theorem max3_is (a b c : Int) : max3 a b c = max a (max b c) := by unfold max3; (repeat' split) <;> omega
theorem run_max3 (a b c : Int) (t : Array TypeId) (ty : TypeId) (w : World) : (Builtin.max_ t ty #[.int .i64 a, .int .i64 b, .int .i64 c]).run Try.prog w = .ok (.int .i64 (max3 a b c)) w := by
  simp [Builtin.max_, Builtin.max2, max3]
attribute [local go_sem] run_max3
theorem diffU_bd (o : List Int) (a b : Int) (f : Nat) : ∀ d : Nat, -(d : Int) ≤ diffU o a b f d ∧ diffU o a b f d ≤ d := by
  intro d
  induction d with
  | zero => simp [diffU]
  | succ d ih => simp only [diffU]; split <;> split <;> omega
theorem innerB_le (o : List Int) (a b : Int) (f : Nat) {best : Int} (h : 0 ≤ best ∧ best ≤ 200) : ∀ d : Nat, d ≤ 200 → 0 ≤ innerB o a b f best d ∧ innerB o a b f best d ≤ 200 := by
  intro d hd
  exact innerB_bd h d (fun e he => by have := diffU_bd o a b f (e + 1); omega)
theorem outerB_le (o : List Int) (a b : Int) (lo hi : Nat) (h : hi ≤ 200) : ∀ i : Nat, 0 ≤ outerB o a b lo hi i ∧ outerB o a b lo hi i ≤ 200 := by
  intro i
  exact outerB_bd (by omega) i (fun f d h1 h2 h3 => by have := diffU_bd o a b f (d + 1); omega)

set_option maxRecDepth 8000 in
set_option maxHeartbeats 16000000 in
theorem c_sAheadBy (L : List (Int × Int)) (o : List Int) (A O : Option Addr) (c d : Nat) (a b : Int) (w : World) (hA : Cs w w.heap.size A L) (hO : Is w w.heap.size O o) (hn : L.length ≤ 1000000000000) (ho : o.length ≤ 140737488351232) :
    Calls Try.prog 23 #[.slice A L.length c, .slice O o.length d, .int .i64 a, .int .i64 b] w fun e w' => e = .returned (.int .i64 (aheadV L o a b)) ∧ Below w.heap.size w w' := by
  have HK := Lib.hid (c_sOrderOk L o A O c d w hA hO hn ho)
  have q0 : IntKind.i64.wrap ((L.length : Int) - 1) = (L.length : Int) - 1 := IntWalk.i64_in _ (by omega)
  have HI := Lib.hid (fun W => c_l1In a 0 ((L.length : Int) - 1) W)
  have HJ := Lib.hid (fun W => c_l1In b 0 ((L.length : Int) - 1) W)
  by_cases hok : ordOk L o = true
  · rw [hok] at HK
    by_cases h1 : 0 ≤ a ∧ a ≤ (L.length : Int) - 1
    · have H1 := Lib.hid (decide_eq_true h1)
      by_cases h2 : 0 ≤ b ∧ b ≤ (L.length : Int) - 1
      · have H2 := Lib.hid (decide_eq_true h2)
        have hV := aheadV_yes (aheadOk_mk hok h1 h2)
        have hl2 := (ordOk_parts hok).2.1
        obtain ⟨an, rfl⟩ : ∃ an : Nat, a = (an : Int) := ⟨a.toNat, by omega⟩
        obtain ⟨bn, rfl⟩ : ∃ bn : Nat, b = (bn : Int) := ⟨b.toNat, by omega⟩
        have han : an < L.length := by omega
        have hbn : bn < L.length := by omega
        have HE := Lib.hid (ends_yes hok)
        have HEn := Lib.hid (fun (W : World) (hb : Below w.heap.size w W) => c_sEndsOf L o A O c d W ((hA.below hb).more hb.size) ((hO.below hb).more hb.size) hn ho)
        have ea := endTo_le o an o.length
        have eb := endTo_le o bn o.length
        have xa := (cOk_bd (ordOk_parts hok).1 han)
        have xb := (cOk_bd (ordOk_parts hok).1 hbn)
        have hlo : ((loA L (an : Int) (bn : Int) : Nat) : Int) = max (X L an) (X L bn) := by simp only [loA, Int.toNat_natCast]; omega
        have hhi : ((hiA o (an : Int) (bn : Int) : Nat) : Int) = min (endTo o an o.length) (endTo o bn o.length) := by simp only [hiA, Int.toNat_natCast]; omega
        have hhi2 : hiA o (an : Int) (bn : Int) ≤ 200 := by omega
        have hlo2 : loA L (an : Int) (bn : Int) ≤ 200 := by omega
        generalize loA L (an : Int) (bn : Int) = lo at *
        generalize hiA o (an : Int) (bn : Int) = hi at *
        generalize hEA : endTo o an o.length = EA at *
        generalize hEB : endTo o bn o.length = EB at *
        have HV := Lib.hid hV
        have HOb := Lib.hid (fun i => outerB_le o (an : Int) (bn : Int) lo hi hhi2 i)
        have HIb := Lib.hid (fun i e (he : e ≤ 200) => innerB_le o (an : Int) (bn : Int) (lo + i) (outerB_le o (an : Int) (bn : Int) lo hi hhi2 i) e he)
        have HDb := Lib.hid (fun f e => diffU_bd o (an : Int) (bn : Int) f e)
        have HOs := Lib.hid (fun i => show outerB o (an : Int) (bn : Int) lo hi (i + 1) = innerB o (an : Int) (bn : Int) (lo + i) (outerB o (an : Int) (bn : Int) lo hi i) (hi - (lo + i)) from rfl)
        have HDs := Lib.hid (fun f e => show diffU o (an : Int) (bn : Int) f (e + 1) = diffU o (an : Int) (bn : Int) f e + (if Z o (f + e) = (an : Int) then 1 else 0) - (if Z o (f + e) = (bn : Int) then 1 else 0) from rfl)
        have HIs := Lib.hid (fun i e => show innerB o (an : Int) (bn : Int) (lo + i) (outerB o (an : Int) (bn : Int) lo hi i) (e + 1) = max (innerB o (an : Int) (bn : Int) (lo + i) (outerB o (an : Int) (bn : Int) lo hi i) e) (max (diffU o (an : Int) (bn : Int) (lo + i) (e + 1)) (- diffU o (an : Int) (bn : Int) (lo + i) (e + 1))) from rfl)
        have HEA := Lib.hid hEA
        have HEB := Lib.hid hEB
        have hhio : hi ≤ o.length := by omega
        have HHI := Lib.hid hhi
        have HLO := Lib.hid hlo
        have pa : (0 : Int) ≤ (an : Int) := by omega
        have pa2 : (an : Int) < (L.length : Int) := by omega
        have pb : (0 : Int) ≤ (bn : Int) := by omega
        have pb2 : (bn : Int) < (L.length : Int) := by omega
        obtain ⟨ab, aoff, rfl, hab, hac⟩ := hA (by omega)
        have x1 := (hac an han).1
        have x2 := (hac bn hbn).1
        clear hok h1 h2 hV hEA hEB hac hlo hhi
        go_enter Try.func23, Try.ntmps23
        go_wp2_with fail
        refine HK.out.mono ?_
        rintro e w1 ⟨rfl, hb1⟩
        go_wp2_with fail
        refine (HI.out _).mono ?_
        rintro e w2 ⟨rfl, rfl⟩
        rw [H1.out]
        go_wp2_with fail
        refine (HJ.out _).mono ?_
        rintro e w3 ⟨rfl, rfl⟩
        rw [H2.out]
        clear q0
        go_wp2_with fail
        refine (HEn.out _ hb1).mono ?_
        rintro e w4 ⟨v4, rfl, o4, hb4⟩
        rw [HE.out] at o4
        obtain ⟨G, g, rfl, -, -, hG⟩ := o4.form
        rw [endsL_len]
        obtain ⟨gb, go, rfl, hgb, hgc⟩ := hG (by rw [endsL_len]; omega)
        have hx4 := hb1.trans (hb4.mono hb1.size)
        have c1 := hgc an (by rw [endsL_len]; omega)
        have c2 := hgc bn (by rw [endsL_len]; omega)
        rw [endsL_Z han, HEA.out] at c1
        rw [endsL_Z hbn, HEB.out] at c2
        have y1 := (hx4.cell (p := ⟨ab, aoff + an * 2, none⟩) hab).trans x1
        have y2 := (hx4.cell (p := ⟨ab, aoff + bn * 2, none⟩) hab).trans x2
        have YO := Lib.hid (fun (s : Nat) (hs : s < o.length) (wr : World) (hb : Below w4.heap.size w4 wr) => show ∃ ob oo, O = some ⟨ob, oo, none⟩ ∧ wr.cell? ⟨ob, oo + s, none⟩ = some (.int .i64 (Z o s)) from by
          obtain ⟨ob, oo, e, hob, hoc⟩ := hO (by omega)
          exact ⟨ob, oo, e, ((hx4.trans (hb.mono hx4.size)).cell (p := ⟨ob, oo + s, none⟩) hob).trans (hoc s hs)⟩)
        clear hgc o4 hG hb4 hb1 HK HI HJ HEn x1 x2 hO
        have hlow : ∀ wq : World, True := fun _ => trivial
        have hsel : ∃ lv : Int, lv = (lo : Int) ∧ ((X L an < X L bn ∧ lv = X L bn) ∨ (¬ X L an < X L bn ∧ lv = X L an)) := by
          have h9 := HLO.out
          by_cases hx : X L an < X L bn
          · exact ⟨_, rfl, .inl ⟨hx, by omega⟩⟩
          · exact ⟨_, rfl, .inr ⟨hx, by omega⟩⟩
        clear hlow
        obtain ⟨lv, hlv, hsel⟩ := hsel
        have HLV := Lib.hid hlv
        clear hlv
        rcases hsel with ⟨hx, e9⟩ | ⟨hx, e9⟩
        all_goals
          have HE9 := Lib.hid (e9.symm.trans HLV.out)
          clear e9
          first
            | (have dx : decide (X L an < X L bn) = true := decide_eq_true hx)
            | (have dx : decide (X L an < X L bn) = false := decide_eq_false hx)
          go_wp2_with fail
          go_quiet (fail)
          have hbq : Below w4.heap.size w4 (w4.drewN nq) := by (repeat (first | exact rfl | exact Below.refl _ _ | (with_reducible refine Below.drew ?_) | (with_reducible refine Below.drewN ?_ _) | (with_reducible refine Below.alloc ?_ ?_ _) | (with_reducible refine Below.setCell ?_ ?_ _) | (show _ ≤ _; focus (first | omega | (simp; done) | (simp; omega)))))
          generalize w4.drewN nq = wq at hbq ⊢
          clear y1 y2
          go_wp2_with fail
          clear hx dx
          go_loopw [10, 11] (fun s f wr => ∃ i : Nat, (i = 0 ∨ lo + i ≤ hi) ∧ f = .int .i64 ((lo + i : Nat) : Int) ∧ s = .int .i64 (outerB o (an : Int) (bn : Int) lo hi i) ∧ Below w4.heap.size w4 wr) (fun _ f _ => hi - (intOf f).toNat)
          case atStart => exact ⟨0, .inl rfl, by rw [HE9.out, Nat.add_zero], rfl, hbq⟩
          case round =>
            clear hbq
            obtain ⟨i, hi1, rfl, rfl, hb⟩ := hrel
            have k1 := (hb.cell (p := ⟨gb, go + an, none⟩) hgb).trans c1
            have k2 := (hb.cell (p := ⟨gb, go + bn, none⟩) hgb).trans c2
            have ob1 := HOb.out i
            obtain ⟨fv, hfv⟩ : ∃ fv : Int, ((lo + i : Nat) : Int) = fv := ⟨_, rfl⟩
            have HFV := Lib.hid hfv
            have fb1 : 0 ≤ fv := by omega
            have fb2 : fv ≤ 400 := by omega
            rw [hfv]
            have hsm : ∃ hv : Int, hv = (hi : Int) ∧ ((EB < EA ∧ hv = EB) ∨ (¬ EB < EA ∧ hv = EA)) := by
              have h9 := HHI.out
              by_cases hm9 : EB < EA
              · exact ⟨_, rfl, .inl ⟨hm9, by omega⟩⟩
              · exact ⟨_, rfl, .inr ⟨hm9, by omega⟩⟩
            obtain ⟨hv, hhv, hsm⟩ := hsm
            by_cases hlt : lo + i < hi
            · have hIN := HIb.out i
              rcases hsm with ⟨hm9, e9⟩ | ⟨hm9, e9⟩
              all_goals
                first
                  | (have dx : decide (EB < EA) = true := decide_eq_true (by omega)
                     have dl : decide (fv < EB) = true := decide_eq_true (by omega))
                  | (have dx : decide (EB < EA) = false := decide_eq_false (by omega)
                     have dl : decide (fv < EA) = true := decide_eq_true (by omega))
                have HVV := Lib.hid (e9.symm.trans hhv)
                clear e9 hhv hfv
                go_wp2_with fail
                go_quiet (fail)
                have hbq : Below w4.heap.size w4 (wr.drewN nq) := by (repeat (first | exact hb | exact Below.refl _ _ | (with_reducible refine Below.drew ?_) | (with_reducible refine Below.drewN ?_ _) | (with_reducible refine Below.alloc ?_ ?_ _) | (with_reducible refine Below.setCell ?_ ?_ _) | (show _ ≤ _; focus (first | omega | (simp; done) | (simp; omega)))))
                generalize wr.drewN nq = wq at hbq ⊢
                clear hb k1 k2 dl
                go_wp2_with fail
                go_loopw [10, 12, 13] (fun s n t wr => ∃ e : Nat, lo + i + e ≤ hi ∧ t = .int .i64 ((lo + i + e : Nat) : Int) ∧ n = .int .i64 (diffU o (an : Int) (bn : Int) (lo + i) e) ∧ s = .int .i64 (innerB o (an : Int) (bn : Int) (lo + i) (outerB o (an : Int) (bn : Int) lo hi i) e) ∧ Below w4.heap.size w4 wr) (fun _ _ t _ => hi - (intOf t).toNat)
                case atStart => exact ⟨0, by omega, by rw [← HFV.out, Nat.add_zero], rfl, rfl, hbq⟩
                case round =>
                  clear hbq
                  obtain ⟨e, he, rfl, rfl, rfl, hb⟩ := hrel
                  obtain ⟨tv, htv⟩ : ∃ tv : Int, ((lo + i + e : Nat) : Int) = tv := ⟨_, rfl⟩
                  have HTV := Lib.hid htv
                  have tb1 : 0 ≤ tv := by omega
                  have tb2 : tv ≤ 400 := by omega
                  rw [htv]
                  have k1 := (hb.cell (p := ⟨gb, go + an, none⟩) hgb).trans c1
                  have k2 := (hb.cell (p := ⟨gb, go + bn, none⟩) hgb).trans c2
                  have hVV := HVV.out
                  by_cases hlt2 : lo + i + e < hi
                  · first
                      | (have hz9 : EB < EA := by omega
                         have dl : decide (tv < EB) = true := decide_eq_true (by omega))
                      | (have hz9 : ¬ EB < EA := by omega
                         have dl : decide (tv < EA) = true := decide_eq_true (by omega))
                    clear hVV htv hz9
                    go_wp2_with fail
                    go_quiet (fail)
                    have hbq : Below w4.heap.size w4 (wr.drewN nq) := by (repeat (first | exact hb | exact Below.refl _ _ | (with_reducible refine Below.drew ?_) | (with_reducible refine Below.drewN ?_ _) | (with_reducible refine Below.alloc ?_ ?_ _) | (with_reducible refine Below.setCell ?_ ?_ _) | (show _ ≤ _; focus (first | omega | (simp; done) | (simp; omega)))))
                    generalize wr.drewN nq = wq at hbq ⊢
                    clear hb k1 k2 dl
                    obtain ⟨ob, oo, hOe, c0⟩ := YO.out (lo + i + e) (by omega) wq hbq
                    have htv2 := HTV.out
                    have p2 : tv < (o.length : Int) := by omega
                    have p3 : tv.toNat = lo + i + e := by omega
                    clear htv2
                    have db := HDb.out (lo + i) e
                    have ib := hIN e (by omega)
                    have hDs := HDs.out (lo + i) e
                    have hIs := HIs.out i e
                    generalize diffU o (an : Int) (bn : Int) (lo + i) e = dv at *
                    generalize hdq : diffU o (an : Int) (bn : Int) (lo + i) (e + 1) = dv' at *
                    have HDQ := Lib.hid hdq
                    clear hdq
                    generalize innerB o (an : Int) (bn : Int) (lo + i) (outerB o (an : Int) (bn : Int) lo hi i) e = iv at *
                    have HIS := Lib.hid hIs
                    have heb : e ≤ 200 := by omega
                    clear hIs hIN
                    by_cases za : Z o (lo + i + e) = (an : Int)
                    · have da : (Z o (lo + i + e) == (an : Int)) = true := beq_iff_eq.2 za
                      rw [if_pos za] at hDs
                      by_cases zb : Z o (lo + i + e) = (bn : Int)
                      · have db' : (Z o (lo + i + e) == (bn : Int)) = true := beq_iff_eq.2 zb
                        rw [if_pos zb] at hDs
                        have HD := Lib.hid hDs
                        have q1 : IntKind.i64.wrap (dv + 1) = dv + 1 := IntWalk.i64_in _ (by omega)
                        have q2 : IntKind.i64.wrap dv = dv := IntWalk.i64_in _ (by omega)
                        have q3 : IntKind.i64.wrap (- dv) = - dv := IntWalk.i64_in _ (by omega)
                        have hdv : dv' = dv := by omega
                        have HDV := Lib.hid hdv
                        have p9 : tv.toNat < hi := by omega
                        have p8 : (tv + 1).toNat = tv.toNat + 1 := by omega
                        clear hDs hdv za zb db
                        go_wp2_with fail
                        refine ⟨⟨e + 1, by omega, by congr 1; have := HTV.out; omega, by rw [HDQ.out, HDV.out], by rw [HIS.out, HDV.out, max3_is], hbq⟩, ?_⟩
                        show hi - (tv + 1).toNat < hi - tv.toNat
                        omega
                      · have db' : (Z o (lo + i + e) == (bn : Int)) = false := beq_eq_false_iff_ne.2 zb
                        rw [if_neg zb] at hDs
                        have HD := Lib.hid hDs
                        have q1 : IntKind.i64.wrap (dv + 1) = dv + 1 := IntWalk.i64_in _ (by omega)
                        have q3 : IntKind.i64.wrap (- (dv + 1)) = - (dv + 1) := IntWalk.i64_in _ (by omega)
                        have hdv : dv' = dv + 1 := by omega
                        have HDV := Lib.hid hdv
                        have p9 : tv.toNat < hi := by omega
                        have p8 : (tv + 1).toNat = tv.toNat + 1 := by omega
                        clear hDs hdv za zb db
                        go_wp2_with fail
                        refine ⟨⟨e + 1, by omega, by congr 1; have := HTV.out; omega, by rw [HDQ.out, HDV.out], by rw [HIS.out, HDV.out, max3_is], hbq⟩, ?_⟩
                        show hi - (tv + 1).toNat < hi - tv.toNat
                        omega
                    · have da : (Z o (lo + i + e) == (an : Int)) = false := beq_eq_false_iff_ne.2 za
                      rw [if_neg za] at hDs
                      by_cases zb : Z o (lo + i + e) = (bn : Int)
                      · have db' : (Z o (lo + i + e) == (bn : Int)) = true := beq_iff_eq.2 zb
                        rw [if_pos zb] at hDs
                        have HD := Lib.hid hDs
                        have q2 : IntKind.i64.wrap (dv - 1) = dv - 1 := IntWalk.i64_in _ (by omega)
                        have q3 : IntKind.i64.wrap (- (dv - 1)) = - (dv - 1) := IntWalk.i64_in _ (by omega)
                        have hdv : dv' = dv - 1 := by omega
                        have HDV := Lib.hid hdv
                        have p9 : tv.toNat < hi := by omega
                        have p8 : (tv + 1).toNat = tv.toNat + 1 := by omega
                        clear hDs hdv za zb db
                        go_wp2_with fail
                        refine ⟨⟨e + 1, by omega, by congr 1; have := HTV.out; omega, by rw [HDQ.out, HDV.out], by rw [HIS.out, HDV.out, max3_is], hbq⟩, ?_⟩
                        show hi - (tv + 1).toNat < hi - tv.toNat
                        omega
                      · have db' : (Z o (lo + i + e) == (bn : Int)) = false := beq_eq_false_iff_ne.2 zb
                        rw [if_neg zb] at hDs
                        have HD := Lib.hid hDs
                        have q3 : IntKind.i64.wrap (- dv) = - dv := IntWalk.i64_in _ (by omega)
                        have hdv : dv' = dv := by omega
                        have HDV := Lib.hid hdv
                        have p9 : tv.toNat < hi := by omega
                        have p8 : (tv + 1).toNat = tv.toNat + 1 := by omega
                        clear hDs hdv za zb db
                        go_wp2_with fail
                        refine ⟨⟨e + 1, by omega, by congr 1; have := HTV.out; omega, by rw [HDQ.out, HDV.out], by rw [HIS.out, HDV.out, max3_is], hbq⟩, ?_⟩
                        show hi - (tv + 1).toNat < hi - tv.toNat
                        omega
                  · first
                      | (have hz9 : EB < EA := by omega
                         have dl : decide (tv < EB) = false := decide_eq_false (by omega))
                      | (have hz9 : ¬ EB < EA := by omega
                         have dl : decide (tv < EA) = false := decide_eq_false (by omega))
                    clear hVV htv hz9
                    go_wp2_with fail
                    go_quiet (fail)
                    have hbq : Below w4.heap.size w4 (wr.drewN nq) := by (repeat (first | exact hb | exact Below.refl _ _ | (with_reducible refine Below.drew ?_) | (with_reducible refine Below.drewN ?_ _) | (with_reducible refine Below.alloc ?_ ?_ _) | (with_reducible refine Below.setCell ?_ ?_ _) | (show _ ≤ _; focus (first | omega | (simp; done) | (simp; omega)))))
                    generalize wr.drewN nq = wq at hbq ⊢
                    clear hb k1 k2 dl
                    have HOi := Lib.hid (HOs.out i)
                    have hee : e = hi - (lo + i) := by omega
                    have HEE := Lib.hid hee
                    clear hee
                    go_wp2_with fail
                    go_roundw
                    case rel => exact ⟨i + 1, .inr (by omega), by congr 1; have := HFV.out; omega, by rw [HOi.out, ← HEE.out], hbq⟩
                    case measure => have := HFV.out; simp [intOf]; omega
            · rcases hsm with ⟨hm9, e9⟩ | ⟨hm9, e9⟩
              all_goals
                first
                  | (have dx : decide (EB < EA) = true := decide_eq_true (by omega)
                     have dl : decide (fv < EB) = false := decide_eq_false (by omega))
                  | (have dx : decide (EB < EA) = false := decide_eq_false (by omega)
                     have dl : decide (fv < EA) = false := decide_eq_false (by omega))
                have HVV := Lib.hid (e9.symm.trans hhv)
                have hie : i = hi - lo := by omega
                clear e9 hhv hfv
                go_wp2_with fail
                go_quiet (fail)
                have hbq : Below w4.heap.size w4 (wr.drewN nq) := by (repeat (first | exact hb | exact Below.refl _ _ | (with_reducible refine Below.drew ?_) | (with_reducible refine Below.drewN ?_ _) | (with_reducible refine Below.alloc ?_ ?_ _) | (with_reducible refine Below.setCell ?_ ?_ _) | (show _ ≤ _; focus (first | omega | (simp; done) | (simp; omega)))))
                generalize wr.drewN nq = wq at hbq ⊢
                go_wp2_with fail
                go_ret
                exact ⟨by rw [HV.out, ← hie]; rfl, hx4.trans (hbq.mono hx4.size)⟩
      · have HV := Lib.hid (aheadV_no (L := L) (o := o) (a := a) (b := b) (by simp only [aheadOk, decide_eq_false h2, Bool.and_false]))
        have H2 := Lib.hid (decide_eq_false h2)
        clear hok h1 h2
        go_enter Try.func23, Try.ntmps23
        go_wp2_with fail
        refine HK.out.mono ?_
        rintro e w1 ⟨rfl, hb1⟩
        go_wp2_with fail
        refine (HI.out _).mono ?_
        rintro e w2 ⟨rfl, rfl⟩
        rw [H1.out]
        go_wp2_with fail
        refine (HJ.out _).mono ?_
        rintro e w3 ⟨rfl, rfl⟩
        rw [H2.out]
        clear q0
        go_wp2_with fail
        go_ret
        exact ⟨by rw [HV.out]; rfl, hb1⟩
    · have HV := Lib.hid (aheadV_no (L := L) (o := o) (a := a) (b := b) (by simp only [aheadOk, decide_eq_false h1, Bool.and_false, Bool.false_and]))
      have H1 := Lib.hid (decide_eq_false h1)
      clear hok h1
      go_enter Try.func23, Try.ntmps23
      go_wp2_with fail
      refine HK.out.mono ?_
      rintro e w1 ⟨rfl, hb1⟩
      go_wp2_with fail
      refine (HI.out _).mono ?_
      rintro e w2 ⟨rfl, rfl⟩
      rw [H1.out]
      clear q0
      go_wp2_with fail
      go_ret
      exact ⟨by rw [HV.out]; rfl, hb1⟩
  · have hno : ordOk L o = false := by simpa using hok
    rw [hno] at HK
    have HV := Lib.hid (aheadV_no (L := L) (o := o) (a := a) (b := b) (by simp [aheadOk, hno]))
    clear hok hno
    go_enter Try.func23, Try.ntmps23
    go_wp2_with fail
    refine HK.out.mono ?_
    rintro e w1 ⟨rfl, hb1⟩
    clear q0
    go_wp2_with fail
    go_ret
    exact ⟨by rw [HV.out]; rfl, hb1⟩

end Go.Proofs.Ytecoefjkobpbgaa

