/- laws.sameCustomers of any two lists, sameDesk, noDesk -/
import Derived.Test.YtpbmehodcllncaaH
import Derived.Test.YtpbmehodcllncaaK35
namespace Go.Proofs.Ytpbmehodcllncaa
set_option linter.unusedVariables false
open Go.RowKit
attribute [local go_sem ↓] Go.wp_at_zero Go.wp_at_succ

set_option maxHeartbeats 1000000 in
theorem c_sameCus (L M : List (Int × Int)) (A B : Option Addr) (BA BB c d : Nat) (w : World) (hA : Cs w BA A L) (hB : Cs w BB B M) (hx : L.length ≤ 140737488351232) (hy : M.length ≤ 140737488351232) :
    Calls Try.prog 21 #[.slice A L.length c, .slice B M.length d] w fun e w' => e = .returned (.bool (decide (L = M))) ∧ Below w.heap.size w w' := by
  go_enter Try.func21, Try.ntmps21
  by_cases hl : L.length = M.length
  · have hd : ((L.length : Int) != (M.length : Int)) = false := by simp [hl]
    have HL := Lib.hid hl
    clear hl
    go_wp2_with fail
    go_loopw [5] (fun i wr => ∃ k n : Nat, k ≤ L.length ∧ i = .int .i64 k ∧ wr = w.drewN n ∧ Hid (∀ i, i < k → X L i = X M i ∧ Y L i = Y M i)) (fun i _ => L.length - (intOf i).toNat)
    case atStart => exact ⟨0, 0, Nat.zero_le _, rfl, rfl, Lib.hid fun i h => by omega⟩
    case round =>
      obtain ⟨k, n, hk, rfl, rfl, HE⟩ := hrel
      by_cases hlt : k < L.length
      · have hlm : k < M.length := by have := HL.out; omega
        obtain ⟨b, off, rfl, hlb, hc⟩ := hA (by omega)
        obtain ⟨b2, off2, rfl, hlb2, hc2⟩ := hB (by omega)
        obtain ⟨c1, c3⟩ := hc k hlt
        obtain ⟨c2, c4⟩ := hc2 k hlm
        have hNE : ¬ (X L k = X M k ∧ Y L k = Y M k) → ¬ L = M := fun h e => h (by rw [e]; exact ⟨rfl, rfl⟩)
        clear hc hc2
        by_cases e1 : X L k = X M k
        · by_cases e2 : Y L k = Y M k
          · rw [← e1] at c2
            rw [← e2] at c4
            have HE2 : Hid (∀ i, i < k + 1 → X L i = X M i ∧ Y L i = Y M i) := Lib.hid fun i hi => by
              by_cases e : i = k
              · subst e; exact ⟨e1, e2⟩
              · exact HE.out i (by omega)
            clear e1 e2 hNE
            go_wp2_with fail
            go_quiet (fail)
            go_wp2_with fail
            go_roundw
            case rel => exact ⟨k + 1, _, by omega, by go_num, rfl, HE2⟩
            case measure => simp [intOf]; omega
          · have f2 : (Y L k != Y M k) = true := by simpa using e2
            have f3 : (Y L k == Y M k) = false := by simpa using e2
            have HN := Lib.hid (hNE fun h => e2 h.2)
            rw [← e1] at c2
            clear e1 e2 hNE
            go_wp2_with fail
            go_quiet (fail)
            go_wp2_with fail
            go_ret
            exact ⟨by rw [decide_eq_false HN.out]; rfl, by (repeat (first | exact rfl | exact Below.refl _ _ | (with_reducible refine Below.drew ?_) | (with_reducible refine Below.drewN ?_ _) | (with_reducible refine Below.alloc ?_ ?_ _) | (with_reducible refine Below.setCell ?_ ?_ _) | (show _ ≤ _; focus (first | omega | (simp; done) | (simp; omega)))))⟩
        · have f2 : (X L k != X M k) = true := by simpa using e1
          have f3 : (X L k == X M k) = false := by simpa using e1
          have HN := Lib.hid (hNE fun h => e1 h.1)
          clear e1 hNE
          go_wp2_with fail
          go_quiet (fail)
          go_wp2_with fail
          go_ret
          exact ⟨by rw [decide_eq_false HN.out]; rfl, by (repeat (first | exact rfl | exact Below.refl _ _ | (with_reducible refine Below.drew ?_) | (with_reducible refine Below.drewN ?_ _) | (with_reducible refine Below.alloc ?_ ?_ _) | (with_reducible refine Below.setCell ?_ ?_ _) | (show _ ≤ _; focus (first | omega | (simp; done) | (simp; omega)))))⟩
      · go_wp2_with fail
        go_ret
        have hLM : L = M := by
          refine List.ext_getElem HL.out fun i h1 h2 => ?_
          have := HE.out i (by omega)
          have e1 : L[i] = (X L i, Y L i) := by simp [X, Y, h1]
          have e2 : M[i] = (X M i, Y M i) := by simp [X, Y, h2]
          rw [e1, e2, this.1, this.2]
        exact ⟨by rw [decide_eq_true hLM]; rfl, by (repeat (first | exact rfl | exact Below.refl _ _ | (with_reducible refine Below.drew ?_) | (with_reducible refine Below.drewN ?_ _) | (with_reducible refine Below.alloc ?_ ?_ _) | (with_reducible refine Below.setCell ?_ ?_ _) | (show _ ≤ _; focus (first | omega | (simp; done) | (simp; omega)))))⟩
  · have hd : ((L.length : Int) != (M.length : Int)) = true := by simpa using fun h : (L.length : Int) = M.length => hl (by omega)
    have HL := Lib.hid hl
    clear hl
    go_wp2_with fail
    go_ret
    exact ⟨by rw [decide_eq_false (show ¬ L = M from fun h => HL.out (by rw [h]))]; rfl, by (repeat (first | exact rfl | exact Below.refl _ _ | (with_reducible refine Below.drew ?_) | (with_reducible refine Below.drewN ?_ _) | (with_reducible refine Below.alloc ?_ ?_ _) | (with_reducible refine Below.setCell ?_ ?_ _) | (show _ ≤ _; focus (first | omega | (simp; done) | (simp; omega)))))⟩

/-- whether two desks are equal -/
def eqK (D E : KV) : Bool := decide (D.now = E.now) && decide (D.past = E.past)
theorem eqK_self (D : KV) : eqK D D = true := by simp [eqK]
theorem LL_ext {P Q : List (List (Int × Int))} (hl : P.length = Q.length) (h : ∀ k, k < P.length → LL P k = LL Q k) : P = Q := by
  refine List.ext_getElem hl fun i h1 h2 => ?_
  have := h i h1
  rwa [LL_get h1, LL_get h2] at this

set_option maxRecDepth 8000 in
set_option maxHeartbeats 4000000 in
theorem c_sameDesk (D E : KV) (vn vp un up : Value) (w : World) (hK : Ks w w.heap.size vn vp D) (hE : Ks w w.heap.size un up E) (hs : SmallK D) (ht : SmallK E) :
    Calls Try.prog 18 #[.agg #[vn, vp], .agg #[un, up]] w fun e w' => e = .returned (.bool (eqK D E)) ∧ Below w.heap.size w w' := by
  obtain ⟨w0, hw0⟩ : ∃ w0, (w.alloc (.cells #[vn, vp] 26)).alloc (.cells #[un, up] 26) = w0 := ⟨_, rfl⟩
  have hz0 : w0.heap.size = w.heap.size + 2 := by rw [← hw0]; simp
  have hb0 : Below w.heap.size w w0 := by rw [← hw0]; exact ((Below.refl _ w).alloc (Nat.le_refl _) _).alloc (by simp) _
  have bD : w0.heap[w.heap.size]? = some (.cells #[vn, vp] 26 (0, 0)) := by rw [← hw0]; exact (Below.heap_alloc _ _ _ (by simp)).trans (heap_alloc_new _ _)
  have bE : w0.heap[w.heap.size + 1]? = some (.cells #[un, up] 26 (0, 0)) := by rw [← hw0]; exact heap_newK _ _ _
  have hK0 := (hK.below hb0).more (show w.heap.size ≤ w0.heap.size by omega)
  have hE0 := (hE.below hb0).more (show w.heap.size ≤ w0.heap.size by omega)
  obtain ⟨⟨An, cn, rfl, hcn, hN⟩, Ap, cp, rfl, hcp, hP⟩ := hK0
  obtain ⟨⟨Bn, dn, rfl, hdn, hM⟩, Bp, dp, rfl, hdp, hQ⟩ := hE0
  obtain ⟨hs1, hs2, hs3⟩ := hs
  obtain ⟨ht1, ht2, ht3⟩ := ht
  have HN := Lib.hid (fun W (hb : Below w0.heap.size w0 W) => c_sameCus D.now E.now An Bn w0.heap.size w0.heap.size cn dn W (hN.below hb) (hM.below hb) (by omega) (by omega))
  have d1 := cell_of_row _ w.heap.size 0 _ _ _ bD
  have d2 := cell_of_row _ w.heap.size 1 _ _ _ bD
  have e1 := cell_of_row _ (w.heap.size + 1) 0 _ _ _ bE
  have e2 := cell_of_row _ (w.heap.size + 1) 1 _ _ _ bE
  clear hK hE hN hM
  go_enter Try.func18, Try.ntmps18
  go_wp2_with fail
  refine (HN.out _ (Below.refl _ _)).mono ?_
  rintro e w1 ⟨rfl, hb1⟩
  clear hw0
  have hs1' := hb1.size
  have HCs := Lib.hid (fun W (hb : Below w0.heap.size w0 W) => show (W.cell? ⟨w.heap.size, 1, none⟩ = some (.slice Ap D.past.length cp)) ∧ (W.cell? ⟨w.heap.size + 1, 1, none⟩ = some (.slice Bp E.past.length dp)) from ⟨(hb.cell (p := ⟨w.heap.size, 1, none⟩) (show w.heap.size < w0.heap.size by omega)).trans d2, (hb.cell (p := ⟨w.heap.size + 1, 1, none⟩) (show w.heap.size + 1 < w0.heap.size by omega)).trans e2⟩)
  clear d1 d2 e1 e2
  obtain ⟨d2, e2⟩ := HCs.out _ hb1
  by_cases hne : D.now = E.now
  · have HD := Lib.hid (decide_eq_true hne)
    rw [HD.out]
    by_cases hl : D.past.length = E.past.length
    · have hd : ((D.past.length : Int) != (E.past.length : Int)) = false := by simp [hl]
      have HL := Lib.hid hl
      have HQ := Lib.hid hQ
      have HP := Lib.hid hP
      clear hl hne hP hQ
      go_wp2_with fail
      clear d2 e2
      go_loopw [5] (fun i wr => ∃ k : Nat, k ≤ D.past.length ∧ i = .int .i64 k ∧ Below w0.heap.size w0 wr ∧ Hid (∀ j, j < k → LL D.past j = LL E.past j)) (fun i _ => D.past.length - (intOf i).toNat)
      case atStart => exact ⟨0, Nat.zero_le _, rfl, hb1, Lib.hid fun i h => by omega⟩
      case round =>
        obtain ⟨k, hk, rfl, hb, HA⟩ := hrel
        obtain ⟨d2, e2⟩ := HCs.out _ hb
        by_cases hlt : k < D.past.length
        · have hlm : k < E.past.length := by have := HL.out; omega
          obtain ⟨pb, po, rfl, hpl, hpc⟩ := HP.out (by omega)
          obtain ⟨qb, qo, rfl, hql, hqc⟩ := HQ.out (by omega)
          obtain ⟨Pk, pk, p1, p2, p3⟩ := hpc k hlt
          obtain ⟨Qk, qk, q1, q2, q3⟩ := hqc k hlm
          have c1 := WB.cell (B := w0.heap.size) (w := wr) hpl ((hb.cell (p := ⟨pb, po + k, none⟩) hpl).trans p1)
          have c2 := WB.cell (B := w0.heap.size) (w := wr) hql ((hb.cell (p := ⟨qb, qo + k, none⟩) hql).trans q1)
          have c3 := WB.cell (B := w0.heap.size) (w := wr) (b := w.heap.size) (o := 1) (by omega) d2
          have c4 := WB.cell (B := w0.heap.size) (w := wr) (b := w.heap.size + 1) (o := 1) (by omega) e2
          have z1 : (0 : Int) ≤ (k : Int) := by omega
          have z2 : (k : Int) < (D.past.length : Int) := by omega
          have z3 : (k : Int) < (E.past.length : Int) := by omega
          have hsz := hb.size
          have HS := Lib.hid (fun W (hW : Below w0.heap.size wr W) => c_sameCus (LL D.past k) (LL E.past k) Pk Qk w0.heap.size w0.heap.size pk qk W (p3.below (hb.trans hW)) (q3.below (hb.trans hW)) (by have := hs3 k hlt; omega) (by have := ht3 k hlm; omega))
          clear hpc hqc p1 q1 p3 q3
          by_cases he : LL D.past k = LL E.past k
          · have HT := Lib.hid (decide_eq_true he)
            have HE := Lib.hid he
            rw [HT.out] at HS
            clear he
            go_wp2_with fail
            refine wp_region_wb w0.heap.size (by kernel_rfl) (by kernel_rfl) ?_
            repeat (go_big_quiet_step ((go_at_call 21; exact Calls.inB hsz (HS.out _ (WB.below _)))))
            refine wpQuiet_nil ?_
            rintro w5 ⟨⟨_, hb5⟩, rfl⟩
            clear c1 c2 c3 c4
            go_wp2_with fail
            go_roundw
            case rel => exact ⟨k + 1, by omega, by go_num, hb.trans hb5, Lib.hid fun i hi => by
              by_cases e : i = k
              · subst e; exact HE.out
              · exact HA.out i (by omega)⟩
            case measure => simp [intOf]; omega
          · have HT := Lib.hid (decide_eq_false he)
            have HE := Lib.hid he
            rw [HT.out] at HS
            clear he
            go_wp2_with fail
            refine wp_region_wb w0.heap.size (by kernel_rfl) (by kernel_rfl) ?_
            repeat (go_big_quiet_step ((go_at_call 21; exact Calls.inB hsz (HS.out _ (WB.below _)))))
            refine wpQuiet_nil ?_
            rintro w5 ⟨⟨_, hb5⟩, rfl⟩
            clear c1 c2 c3 c4
            go_wp2_with fail
            go_ret
            have hF : eqK D E = false := by
              have : ¬ D.past = E.past := fun h => HE.out (by rw [h])
              simp [eqK, this]
            exact ⟨by rw [hF]; rfl, (hb0.trans ((hb.trans hb5).mono (by omega)))⟩
        · go_wp2_with fail
          go_ret
          have hT : D.past = E.past := LL_ext HL.out fun i hi => HA.out i (by omega)
          exact ⟨by rw [eqK, HD.out, decide_eq_true hT]; rfl, hb0.trans (hb.mono (by omega))⟩
    · have hd : ((D.past.length : Int) != (E.past.length : Int)) = true := by simpa using fun h : (D.past.length : Int) = E.past.length => hl (by omega)
      have HL := Lib.hid hl
      clear hl hne
      go_wp2_with fail
      go_ret
      have hF : eqK D E = false := by
        have : ¬ D.past = E.past := fun h => HL.out (by rw [h])
        simp [eqK, this]
      exact ⟨by rw [hF]; rfl, hb0.trans (hb1.mono (by omega))⟩
  · have HD := Lib.hid (decide_eq_false hne)
    rw [HD.out]
    clear hne
    go_wp2_with fail
    go_ret
    have hF : eqK D E = false := by rw [eqK, HD.out]; rfl
    exact ⟨by rw [hF]; rfl, hb0.trans (hb1.mono (by omega))⟩

theorem ks_zero (w : World) (B : Nat) : Ks w B (.slice none 0 0) (.slice none 0 0) noK := ⟨⟨none, 0, rfl, Nat.le_refl _, fun h => by simp [noK] at h⟩, none, 0, rfl, Nat.le_refl _, Css.nil _ _ _⟩
theorem small_zero : SmallK noK := ⟨by simp [noK], by simp [noK], fun k hk => by simp [noK] at hk⟩
set_option maxRecDepth 8000 in
set_option maxHeartbeats 2000000 in
theorem c_noDesk (D : KV) (vn vp : Value) (w : World) (hK : Ks w w.heap.size vn vp D) (hs : SmallK D) :
    Calls Try.prog 19 #[.agg #[vn, vp]] w fun e w' => e = .returned (.bool (eqK D noK)) ∧ Below w.heap.size w w' := by
  obtain ⟨w0, hw0⟩ : ∃ w0, w.alloc (.cells #[vn, vp] 26) = w0 := ⟨_, rfl⟩
  have hz0 : w0.heap.size = w.heap.size + 1 := by rw [← hw0]; simp
  have hb0 : Below w.heap.size w w0 := by rw [← hw0]; exact (Below.refl _ w).alloc (Nat.le_refl _) _
  have bD : w0.heap[w.heap.size]? = some (.cells #[vn, vp] 26 (0, 0)) := by rw [← hw0]; exact heap_alloc_new _ _
  have hK0 := (hK.below hb0).more (show w.heap.size ≤ w0.heap.size by omega)
  have HS := Lib.hid (c_sameDesk D noK vn vp _ _ w0 hK0 (ks_zero _ _) hs small_zero)
  obtain ⟨⟨An, cn, rfl, -, -⟩, Ap, cp, rfl, -, -⟩ := hK0
  have d1 := cell_of_row _ w.heap.size 0 _ _ _ bD
  have d2 := cell_of_row _ w.heap.size 1 _ _ _ bD
  clear hK
  go_enter Try.func19, Try.ntmps19
  go_wp2_with fail
  refine HS.out.mono ?_
  rintro e w1 ⟨rfl, hb1⟩
  go_wp2_with fail
  go_ret
  exact ⟨rfl, hb0.trans (hb1.mono (by omega))⟩

end Go.Proofs.Ytpbmehodcllncaa

