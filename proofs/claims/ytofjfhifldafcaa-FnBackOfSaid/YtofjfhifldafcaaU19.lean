/- ByPairs: a stable sort by insertion, with a comparison of two customers -/
import Derived.Test.YtofjfhifldafcaaU16
namespace Go.Proofs.Ytofjfhifldafcaa
set_option linter.unusedVariables false
open Go.RowKit
attribute [local go_sem ↓] Go.wp_at_zero Go.wp_at_succ

theorem byRK_at (K : Int → Int) {k i : Nat} (h : i < k) : 0 ≤ Z (byRK K k) i ∧ Z (byRK K k) i < (k : Int) := by
  have hm : Z (byRK K k) i ∈ byRK K k := by rw [Z_get (by rw [byRK_len]; exact h)]; exact List.getElem_mem _
  exact mem_upto.1 ((byRK_perm K k).mem_iff.1 hm)

set_option maxHeartbeats 400000 in
theorem c_needsNoMore (x y : Int) (w : World) :
    Calls Try.prog 85 #[.agg #[.int .i64 x, .int .i64 y]] w fun e w' => e = .returned (.bool (decide (x ≤ y))) ∧ Below w.heap.size w w' := by
  go_enter Try.func85, Try.ntmps85
  go_wp2
  go_ret
  exact ⟨rfl, by (repeat (first | exact rfl | exact Below.refl _ _ | (with_reducible refine Below.drew ?_) | (with_reducible refine Below.drewN ?_ _) | (with_reducible refine Below.alloc ?_ ?_ _) | (with_reducible refine Below.setCell ?_ ?_ _) | (show _ ≤ _; focus (first | omega | (simp; done) | (simp; omega)))))⟩

set_option maxHeartbeats 2000000 in
theorem c_pairTo (x1 y1 x2 y2 : Int) (w : World) (h1 : 1 ≤ x1 ∧ x1 ≤ 9) (h2 : 1 ≤ y1 ∧ y1 ≤ 9) (h3 : 1 ≤ x2 ∧ x2 ≤ 9) (h4 : 1 ≤ y2 ∧ y2 ≤ 9) :
    Calls Try.prog 71 #[.agg #[.int .i64 x1, .int .i64 y1], .agg #[.int .i64 x2, .int .i64 y2]] w fun e w' => e = .returned (.int .i64 (cmpB x1 y1 x2 y2)) ∧ Below w.heap.size w w' := by
  have q1 : IntKind.i64.wrap (x1 - x2) = x1 - x2 := IntWalk.i64_in _ (by omega)
  have q2 : IntKind.i64.wrap (y2 - y1) = y2 - y1 := IntWalk.i64_in _ (by omega)
  clear h1 h2 h3 h4
  obtain ⟨w2, hw2⟩ : ∃ w2, (w.alloc (.cells #[.int .i64 x1, .int .i64 y1] 27)).alloc (.cells #[.int .i64 x2, .int .i64 y2] 27) = w2 := ⟨_, rfl⟩
  have hn1 : w2.heap[w.heap.size]? = some (.cells #[.int .i64 x1, .int .i64 y1] 27 (0, 0)) := by rw [← hw2]; exact (Below.heap_alloc _ _ _ (by simp)).trans (heap_alloc_new _ _)
  have hn2 : w2.heap[w.heap.size + 1]? = some (.cells #[.int .i64 x2, .int .i64 y2] 27 (0, 0)) := by
    rw [← hw2]
    have := heap_alloc_new (w.alloc (.cells #[.int .i64 x1, .int .i64 y1] 27)) (.cells #[.int .i64 x2, .int .i64 y2] 27)
    rwa [World.size_alloc] at this
  have hz2 : w2.heap.size = w.heap.size + 2 := by rw [← hw2]; simp
  have hb2 : Below w.heap.size w w2 := by rw [← hw2]; exact ((Below.refl _ w).alloc (Nat.le_refl _) _).alloc (by simp) _
  have e0 := WB.cell (w := w2) (B := w.heap.size + 2) (b := w.heap.size) (o := 0) (v := .int .i64 x1) (by omega) (by simp [cell_of_row _ w.heap.size 0 _ _ _ hn1])
  have e1 := WB.cell (w := w2) (B := w.heap.size + 2) (b := w.heap.size) (o := 1) (v := .int .i64 y1) (by omega) (by simp [cell_of_row _ w.heap.size 1 _ _ _ hn1])
  have e2 := WB.cell (w := w2) (B := w.heap.size + 2) (b := w.heap.size + 1) (o := 0) (v := .int .i64 x2) (by omega) (by simp [cell_of_row _ (w.heap.size + 1) 0 _ _ _ hn2])
  have e3 := WB.cell (w := w2) (B := w.heap.size + 2) (b := w.heap.size + 1) (o := 1) (v := .int .i64 y2) (by omega) (by simp [cell_of_row _ (w.heap.size + 1) 1 _ _ _ hn2])
  have HK := Lib.hid (fun x y W => c_needsNoMore x y W)
  have HF : Hid (∀ w5, Below (w.heap.size + 2) w2 w5 → Below w.heap.size w w5 ∧ (w5.cell? ⟨w.heap.size, 0, none⟩ = some (.int .i64 x1) ∧ w5.cell? ⟨w.heap.size, 1, none⟩ = some (.int .i64 y1)) ∧ w5.cell? ⟨w.heap.size + 1, 0, none⟩ = some (.int .i64 x2) ∧ w5.cell? ⟨w.heap.size + 1, 1, none⟩ = some (.int .i64 y2)) := by
    intro w5 hb5
    have m1 := (hb5.block w.heap.size (by omega)).trans hn1
    have m2 := (hb5.block (w.heap.size + 1) (by omega)).trans hn2
    exact ⟨hb2.trans (hb5.mono (by omega)), ⟨cell_of_row w5 w.heap.size 0 _ _ _ m1, cell_of_row w5 w.heap.size 1 _ _ _ m1⟩, cell_of_row w5 (w.heap.size + 1) 0 _ _ _ m2, cell_of_row w5 (w.heap.size + 1) 1 _ _ _ m2⟩
  have HZ := Lib.hid hz2
  have HV := Lib.hid (show cmpB x1 y1 x2 y2 = if x1 ≤ y1 then (if x2 ≤ y2 then x1 - x2 else -1) else (if x2 ≤ y2 then 1 else y2 - y1) from rfl)
  clear hn1 hn2 hb2 hz2
  by_cases a1 : x1 ≤ y1
  · have d1 : decide (x1 ≤ y1) = true := decide_eq_true a1
    rw [if_pos a1] at HV
    by_cases a2 : x2 ≤ y2
    · have d2 : decide (x2 ≤ y2) = true := decide_eq_true a2
      rw [if_pos a2] at HV
      clear a1 a2
      go_enter Try.func71, Try.ntmps71
      go_wp2_with fail
      refine wp_region_wb (w.heap.size + 2) (by kernel_rfl) (by kernel_rfl) ?_
      repeat (go_big_quiet_step (first | (go_at_call 85; exact Calls.inB (Nat.le_of_eq HZ.out.symm) (HK.out _ _ _))))
      refine wpQuiet_nil ?_
      rintro w5 ⟨⟨_, hb5⟩, rfl⟩
      obtain ⟨hbx, ⟨g0, g1⟩, g2, g3⟩ := HF.out w5 hb5
      clear e0 e1 e2 e3
      go_wp2_with fail
      go_ret
      exact ⟨by rw [HV.out]; rfl, hbx⟩
    · have d2 : decide (x2 ≤ y2) = false := decide_eq_false a2
      rw [if_neg a2] at HV
      clear a1 a2
      go_enter Try.func71, Try.ntmps71
      go_wp2_with fail
      refine wp_region_wb (w.heap.size + 2) (by kernel_rfl) (by kernel_rfl) ?_
      repeat (go_big_quiet_step (first | (go_at_call 85; exact Calls.inB (Nat.le_of_eq HZ.out.symm) (HK.out _ _ _))))
      refine wpQuiet_nil ?_
      rintro w5 ⟨⟨_, hb5⟩, rfl⟩
      obtain ⟨hbx, ⟨g0, g1⟩, g2, g3⟩ := HF.out w5 hb5
      clear e0 e1 e2 e3
      go_wp2_with fail
      go_ret
      exact ⟨by rw [HV.out]; rfl, hbx⟩
  · have d1 : decide (x1 ≤ y1) = false := decide_eq_false a1
    rw [if_neg a1] at HV
    by_cases a2 : x2 ≤ y2
    · have d2 : decide (x2 ≤ y2) = true := decide_eq_true a2
      rw [if_pos a2] at HV
      clear a1 a2
      go_enter Try.func71, Try.ntmps71
      go_wp2_with fail
      refine wp_region_wb (w.heap.size + 2) (by kernel_rfl) (by kernel_rfl) ?_
      repeat (go_big_quiet_step (first | (go_at_call 85; exact Calls.inB (Nat.le_of_eq HZ.out.symm) (HK.out _ _ _))))
      refine wpQuiet_nil ?_
      rintro w5 ⟨⟨_, hb5⟩, rfl⟩
      obtain ⟨hbx, ⟨g0, g1⟩, g2, g3⟩ := HF.out w5 hb5
      clear e0 e1 e2 e3
      go_wp2_with fail
      go_ret
      exact ⟨by rw [HV.out]; rfl, hbx⟩
    · have d2 : decide (x2 ≤ y2) = false := decide_eq_false a2
      rw [if_neg a2] at HV
      clear a1 a2
      go_enter Try.func71, Try.ntmps71
      go_wp2_with fail
      refine wp_region_wb (w.heap.size + 2) (by kernel_rfl) (by kernel_rfl) ?_
      repeat (go_big_quiet_step (first | (go_at_call 85; exact Calls.inB (Nat.le_of_eq HZ.out.symm) (HK.out _ _ _))))
      refine wpQuiet_nil ?_
      rintro w5 ⟨⟨_, hb5⟩, rfl⟩
      obtain ⟨hbx, ⟨g0, g1⟩, g2, g3⟩ := HF.out w5 hb5
      clear e0 e1 e2 e3
      go_wp2_with fail
      go_ret
      exact ⟨by rw [HV.out]; rfl, hbx⟩

set_option maxHeartbeats 1000000 in
theorem c_pairCmp (L : List (Int × Int)) (A : Option Addr) (c p q Bl : Nat) (w : World) (ht : bOk L = true) (hA : Cs w w.heap.size A L) (hp : p < L.length) (hq : q < L.length) (hl : w.cell? ⟨Bl, 0, none⟩ = some (.slice A L.length c)) :
    Calls Try.prog 70 #[.int .i64 (p : Int), .int .i64 (q : Int), .pointer (some ⟨Bl, 0, none⟩)] w fun e w' => e = .returned (.int .i64 (cmpB (X L p) (Y L p) (X L q) (Y L q))) ∧ Below w.heap.size w w' := by
  obtain ⟨b, off, rfl, hlb, hc⟩ := hA (by omega)
  have hbl : Bl < w.heap.size := by
    cases h : w.heap[Bl]? with
    | none => simp [World.cell?, h] at hl
    | some o => exact (Array.getElem?_eq_some_iff.1 h).1
  have c1 := hc p hp
  have c2 := hc q hq
  have p1 : (0 : Int) ≤ (p : Int) := by omega
  have p2 : (p : Int) < (L.length : Int) := by omega
  have p3 : (0 : Int) ≤ (q : Int) := by omega
  have p4 : (q : Int) < (L.length : Int) := by omega
  have b1 := (bOk_parts ht).1 p hp
  have b2 := (bOk_parts ht).1 q hq
  have HK := Lib.hid (fun W => c_pairTo (X L p) (Y L p) (X L q) (Y L q) W b1.1 b1.2 b2.1 b2.2)
  have cs0 := WB.cell (B := w.heap.size) (w := w) hbl hl
  have cs1 := WB.cell (B := w.heap.size) (w := w) hlb c1.1
  have cs2 := WB.cell (B := w.heap.size) (w := w) hlb c1.2
  have cs3 := WB.cell (B := w.heap.size) (w := w) hlb c2.1
  have cs4 := WB.cell (B := w.heap.size) (w := w) hlb c2.2
  clear hc c1 c2 b1 b2 ht hl
  go_enter Try.func70, Try.ntmps70
  go_wp2_with fail
  refine wp_region_wb w.heap.size (by kernel_rfl) (by kernel_rfl) ?_
  repeat (go_big_quiet_step (first | (go_at_call 71; exact Calls.inB (by simp) (HK.out _))))
  refine wpQuiet_nil ?_
  rintro w5 ⟨⟨_, hb5⟩, rfl⟩
  go_wp2_with fail
  go_ret
  exact ⟨rfl, hb5⟩

set_option maxRecDepth 4000 in
set_option maxHeartbeats 4000000 in
theorem c_insertPairs (L : List (Int × Int)) (A : Option Addr) (c B Bl G g base : Nat) (w : World) (ht : bOk L = true) (hA : Cs w B A L) (hB : B ≤ base) (hl : w.cell? ⟨Bl, 0, none⟩ = some (.slice A L.length c)) (hlb : Bl < base)
    (hown : IO w base (.slice (some ⟨G, 0, none⟩) L.length g) (upto L.length)) :
    Calls Try.prog 87 #[.slice (some ⟨G, 0, none⟩) L.length g, .int .i64 0, .int .i64 (L.length : Int), .func (.func 70) #[] #[.pointer (some ⟨Bl, 0, none⟩)]] w fun e w' => (∃ r, e = .returned r) ∧ IO w' base (.slice (some ⟨G, 0, none⟩) L.length g) (pairsR L) ∧ Below base w w' := by
  have hl6 := (bOk_parts ht).2
  have hGb := owns_base hown G (by simp [Value.ownBlock])
  have hGz := owns_lt hown G (by simp [Value.ownBlock])
  have H := Lib.hid ht
  rw [rowK_first (keyAt L)] at hown
  clear ht
  go_enter Try.func87, Try.ntmps87
  go_wp2_with fail
  go_loopw [8] (fun i wr => ∃ k : Nat, 1 ≤ k ∧ k ≤ L.length ∧ i = .int .i64 k ∧ IO wr base (.slice (some ⟨G, 0, none⟩) L.length g) (rowK (keyAt L) L.length k k) ∧ Below base w wr ∧ w.heap.size ≤ wr.heap.size) (fun i _ => L.length - (intOf i).toNat)
  case atStart => exact ⟨1, by omega, by omega, rfl, hown, Below.refl _ _, Nat.le_refl _⟩
  case round =>
    obtain ⟨k, hk1, hk, rfl, ho, hb, hsz⟩ := hrel
    by_cases hlt : k < L.length
    · have p2 : (k : Int) < (L.length : Int) := by omega
      go_wp2_with fail
      go_loopw [9] (fun i wr => ∃ j : Nat, j ≤ k ∧ i = .int .i64 j ∧ IO wr base (.slice (some ⟨G, 0, none⟩) L.length g) (rowK (keyAt L) L.length k j) ∧ Below base w wr ∧ w.heap.size ≤ wr.heap.size ∧ Hid (posK (keyAt L) (byRK (keyAt L) k) k j = posK (keyAt L) (byRK (keyAt L) k) k k)) (fun i _ => (intOf i).toNat)
      case atStart => exact ⟨k, by omega, rfl, ho, hb, hsz, Lib.hid rfl⟩
      case round =>
        clear ho hb hsz
        obtain ⟨j, hj, rfl, ho, hb, hsz, hpos⟩ := hrel
        by_cases h0 : 0 < j
        · have z := byRK_at (keyAt L) (k := k) (i := j - 1) (by omega)
          obtain ⟨q, hq⟩ : ∃ q : Nat, Z (byRK (keyAt L) k) (j - 1) = (q : Int) := ⟨(Z (byRK (keyAt L) k) (j - 1)).toNat, by omega⟩
          have hql : q < L.length := by omega
          have hc := ho.cells
          have d1 := hc.2.1 j (by omega)
          have d0 := hc.2.1 (j - 1) (by omega)
          have f1 := hc.2.2 j
          have f0 := hc.2.2 (j - 1)
          rw [rowK_Z (keyAt L) (show j < L.length by omega), if_neg (by omega), if_pos rfl] at d1
          rw [rowK_Z (keyAt L) (show j - 1 < L.length by omega), if_pos (by omega), hq] at d0
          have p0 : (0 : Int) < (j : Int) := by omega
          have p1 : (0 : Int) ≤ (j : Int) := by omega
          have p3 : (j : Int) < (L.length : Int) := by omega
          have p4 : (0 : Int) ≤ (j : Int) - 1 := by omega
          have p5 : (j : Int) - 1 < (L.length : Int) := by omega
          have p6 : ((j : Int) - 1).toNat = j - 1 := by omega
          have p7 : (1 : Int) ≤ (j : Int) := by omega
          have hlr := (hb.cell (p := ⟨Bl, 0, none⟩) hlb).trans hl
          have hAr := (hA.below (hb.mono hB)).more (show B ≤ wr.heap.size by omega)
          have HP := Lib.hid (show posK (keyAt L) (byRK (keyAt L) k) k j = if keyAt L (k : Int) < keyAt L (q : Int) then posK (keyAt L) (byRK (keyAt L) k) k (j - 1) else j by
            obtain ⟨i, rfl⟩ : ∃ i, j = i + 1 := ⟨j - 1, by omega⟩
            simp only [Nat.add_sub_cancel] at hq
            simp only [posK, hq, Nat.add_sub_cancel])
          have HK := Lib.hid (fun (s : WB wr.heap.size wr) => c_pairCmp L A c k q Bl s.val H.out (s.cs hAr (Nat.le_refl _)) hlt hql (WB.cell (by
            cases h : wr.heap[Bl]? with
            | none => simp [World.cell?, h] at hlr
            | some o => exact (Array.getElem?_eq_some_iff.1 h).1) hlr s))
          have cs0 := WB.cell (B := wr.heap.size) (w := wr) (show G < wr.heap.size by omega) d1
          have cs1 := WB.cell (B := wr.heap.size) (w := wr) (show G < wr.heap.size by omega) d0
          have HQ := Lib.hid hq
          clear z hq hc hlr hAr
          by_cases hcnd : keyAt L (k : Int) < keyAt L (q : Int)
          · have hd : cmpB (X L k) (Y L k) (X L q) (Y L q) < 0 := (cmpB_key H.out hlt hql).2 hcnd
            rw [if_pos hcnd] at HP
            clear hcnd
            go_wp2_with fail
            refine wp_region_wb wr.heap.size (by kernel_rfl) (by kernel_rfl) ?_
            repeat (go_big_quiet_step (first | (go_at_call 70; exact Calls.inB (by simp) (HK.out _))))
            refine wpQuiet_nil ?_
            rintro w5 ⟨⟨_, hb5⟩, rfl⟩
            have ho5 := ho.below hb5 (Nat.le_refl _)
            have hb6 := hb.trans (hb5.mono (by omega))
            have hs5 := hb5.size
            have g1 := (hb5.cell (p := ⟨G, j, none⟩) (show G < wr.heap.size by omega)).trans d1
            have g0 := (hb5.cell (p := ⟨G, j - 1, none⟩) (show G < wr.heap.size by omega)).trans d0
            have hc5 := ho5.cells
            have f5 := hc5.2.2 j
            have hst := (ho5.store j (q : Int)).cells
            rw [List.length_set, rowK_len] at hst
            have g2 := hst.2.1 (j - 1) (by omega)
            rw [Z_set (by rw [rowK_len]; omega), if_neg (by omega), rowK_Z (keyAt L) (show j - 1 < L.length by omega), if_pos (by omega), HQ.out] at g2
            have f6 := hst.2.2 (j - 1)
            have HO : Hid (IO ((w5.setCell ⟨G, j, none⟩ (.int .i64 (q : Int))).setCell ⟨G, j - 1, none⟩ (.int .i64 (k : Int))) base (.slice (some ⟨G, 0, none⟩) L.length g) (rowK (keyAt L) L.length k (j - 1))) := by
              have h1 := (ho5.store j (q : Int)).store (j - 1) (k : Int)
              have e : ((rowK (keyAt L) L.length k j).set j (q : Int)).set (j - 1) (k : Int) = rowK (keyAt L) L.length k (j - 1) := by
                rw [← rowK_swap (keyAt L) h0 hj hlt]
                unfold exL
                rw [rowK_Z (keyAt L) (show j - 1 < L.length by omega), if_pos (by omega), HQ.out, rowK_Z (keyAt L) (show j < L.length by omega), if_neg (by omega), if_pos rfl]
              rw [e] at h1
              exact h1
            have HB7 := Lib.hid ((hb6.setCell (p := ⟨G, j, none⟩) hGb (.int .i64 (q : Int))).setCell (p := ⟨G, j - 1, none⟩) hGb (.int .i64 (k : Int)))
            have HS7 := Lib.hid HB7.out.size
            clear hc5 hst ho5 hb6 hb5 ho hb HK cs0 cs1 d0 d1 f0 f1
            go_wp2_with fail
            go_region
            go_wp2_with fail
            go_roundw
            case rel => exact ⟨j - 1, by omega, by go_num, HO.out, by (repeat (first | exact HB7.out | exact Below.refl _ _ | (with_reducible refine Below.drew ?_) | (with_reducible refine Below.drewN ?_ _) | (with_reducible refine Below.alloc ?_ ?_ _) | (with_reducible refine Below.setCell ?_ ?_ _) | (show _ ≤ _; focus (first | omega | (simp; done) | (simp; omega))))), HS7.out, Lib.hid (HP.out.symm.trans hpos.out)⟩
            case measure => simp [intOf]; omega
          · have hd : ¬ cmpB (X L k) (Y L k) (X L q) (Y L q) < 0 := fun h => hcnd ((cmpB_key H.out hlt hql).1 h)
            rw [if_neg hcnd] at HP
            have HN := Lib.hid (rowK_next (keyAt L) hlt (hpos.out.symm.trans HP.out))
            clear hcnd
            go_wp2_with fail
            refine wp_region_wb wr.heap.size (by kernel_rfl) (by kernel_rfl) ?_
            repeat (go_big_quiet_step (first | (go_at_call 70; exact Calls.inB (by simp) (HK.out _))))
            refine wpQuiet_nil ?_
            rintro w5 ⟨⟨_, hb5⟩, rfl⟩
            have ho5 := ho.below hb5 (Nat.le_refl _)
            rw [HN.out] at ho5
            have hs5 := hb5.size
            clear cs0 cs1 d0 d1 f0 f1
            go_wp2_with fail
            go_roundw
            case rel => exact ⟨k + 1, by omega, by omega, by go_num, ho5, hb.trans (hb5.mono (by omega)), by omega⟩
            case measure => simp [intOf]; omega
        · obtain rfl : j = 0 := by omega
          have HN := Lib.hid (rowK_next (keyAt L) hlt (show posK (keyAt L) (byRK (keyAt L) k) k k = 0 from hpos.out.symm))
          rw [HN.out] at ho
          have p0 : ¬ (0 : Int) < ((0 : Nat) : Int) := by omega
          go_wp2_with fail
          refine wp_region_wb wr.heap.size (by kernel_rfl) (by kernel_rfl) ?_
          repeat (go_big_quiet_step (fail))
          refine wpQuiet_nil ?_
          rintro w5 ⟨⟨_, hb5⟩, rfl⟩
          have ho5 := ho.below hb5 (Nat.le_refl _)
          have hs5 := hb5.size
          go_wp2_with fail
          go_roundw
          case rel => exact ⟨k + 1, by omega, by omega, by go_num, ho5, hb.trans (hb5.mono (by omega)), by omega⟩
          case measure => simp [intOf]; omega
    · obtain rfl : k = L.length := by omega
      have p2 : ¬ (L.length : Int) < (L.length : Int) := by omega
      rw [rowK_last, byRK_pairs H.out] at ho
      go_wp2_with fail
      go_end0
      exact ⟨⟨_, rfl⟩, ho, hb⟩

set_option maxRecDepth 4000 in
set_option maxHeartbeats 4000000 in
theorem c_sortPairs (L : List (Int × Int)) (A : Option Addr) (c B Bl G g base : Nat) (w : World) (ht : bOk L = true) (hA : Cs w B A L) (hB : B ≤ base) (hl : w.cell? ⟨Bl, 0, none⟩ = some (.slice A L.length c)) (hlb : Bl < base)
    (hown : IO w base (.slice (some ⟨G, 0, none⟩) L.length g) (upto L.length)) :
    Calls Try.prog 69 #[.slice (some ⟨G, 0, none⟩) L.length g, .func (.func 70) #[] #[.pointer (some ⟨Bl, 0, none⟩)]] w fun e w' => (∃ r, e = .returned r) ∧ IO w' base (.slice (some ⟨G, 0, none⟩) L.length g) (pairsR L) ∧ Below base w w' := by
  have hl6 := (bOk_parts ht).2
  have HI := Lib.hid (c_insertPairs L A c B Bl G g base w ht hA hB hl hlb hown)
  have HC : Hid (Calls Try.prog 84 #[.slice (some ⟨G, 0, none⟩) L.length g, .int .i64 (L.length : Int), .func (.func 70) #[] #[.pointer (some ⟨Bl, 0, none⟩)]] w fun e w' => (∃ r, e = .returned r) ∧ IO w' base (.slice (some ⟨G, 0, none⟩) L.length g) (pairsR L) ∧ Below base w w') := by
    have p1 : ¬ (20 : Int) ≤ (L.length : Int) := by omega
    have p2 : ¬ (20 : Int) < (L.length : Int) := by omega
    clear ht hown
    go_enter Try.func84, Try.ntmps84
    go_wp2_with fail
    go_loopw [7, 8] (fun a b wr => a = .int .i64 0 ∧ b = .int .i64 20 ∧ wr = w) (fun _ _ _ => 0)
    case atStart => exact ⟨rfl, rfl, rfl⟩
    case round =>
      obtain ⟨rfl, rfl, rfl⟩ := hrel
      go_wp2_with fail
      refine HI.out.mono ?_
      rintro e w1 ⟨⟨r, rfl⟩, ho1, hb1⟩
      go_wp2_with fail
      go_loopw [6] (fun a wr => a = .int .i64 20 ∧ wr = w1) (fun _ _ => 0)
      case atStart => exact ⟨rfl, rfl⟩
      case round =>
        obtain ⟨rfl, rfl⟩ := hrel
        go_wp2_with fail
        go_end0
        exact ⟨⟨_, rfl⟩, ho1, hb1⟩
  clear ht hown HI
  go_enter Try.func69, Try.ntmps69
  go_wp2_with fail
  refine HC.out.mono ?_
  rintro e w1 ⟨⟨r, rfl⟩, ho1, hb1⟩
  go_wp2_with fail
  go_end0
  exact ⟨⟨_, rfl⟩, ho1, hb1⟩

set_option maxRecDepth 4000 in
set_option maxHeartbeats 2000000 in
theorem c_iByPairs (L : List (Int × Int)) (A : Option Addr) (c : Nat) (w : World) (hA : Cs w w.heap.size A L) (hcap : L.length ≤ c) (hn : L.length ≤ 140737488351232) :
    Calls Try.prog 37 #[.slice A L.length c] w fun e w' => ∃ v, e = .returned v ∧ IO w' w.heap.size v (pairsV L) ∧ Below w.heap.size w w' := by
  have hb0 : Below w.heap.size w (w.alloc (.cells #[.slice A L.length c] 23)) := by (repeat (first | exact rfl | exact Below.refl _ _ | (with_reducible refine Below.drew ?_) | (with_reducible refine Below.drewN ?_ _) | (with_reducible refine Below.alloc ?_ ?_ _) | (with_reducible refine Below.setCell ?_ ?_ _) | (show _ ≤ _; focus (first | omega | (simp; done) | (simp; omega)))))
  have hl0 : (w.alloc (.cells #[.slice A L.length c] 23)).cell? ⟨w.heap.size, 0, none⟩ = some (.slice A L.length c) := by have := heap_alloc_new w (.cells #[.slice A L.length c] 23); simp only [World.cell?, this]; rfl
  have hz0 : (w.alloc (.cells #[.slice A L.length c] 23)).heap.size = w.heap.size + 1 := by simp
  have HT := Lib.hid (c_iBothOk L A c _ ((hA.below hb0).more hb0.size) hn)
  by_cases ht : bOk L = true
  · have H := Lib.hid ht
    have HV := Lib.hid (pairsV_yes ht)
    have hl6 := (bOk_parts ht).2
    have hne := Lib.hid (fun (w' : World) (hb : Below (w.heap.size + 1) (w.alloc (.cells #[.slice A L.length c] 23)) w') => show w'.cell? ⟨w.heap.size, 0, none⟩ = some (.slice A L.length c) from (hb.cell (p := ⟨w.heap.size, 0, none⟩) (by simp)).trans hl0)
    clear ht
    go_enter Try.func37, Try.ntmps37
    go_wp2_with fail
    refine HT.out.mono ?_
    rintro e w1 ⟨rfl, hb1⟩
    rw [H.out]
    rw [hz0] at hb1
    have hx1 := hb0.trans (hb1.mono (by omega))
    have hl1 := hne.out _ hb1
    have hs1 := hb1.size
    rw [hz0] at hs1
    clear hb1 hne HT hl0 hb0
    go_wp2_with fail
    refine (c_asListed L.length w1 (by omega)).mono ?_
    rintro e w2 ⟨v, rfl, ho2, hb2⟩
    have hs2 := hb2.size
    have hx2 := hx1.trans (hb2.mono (by omega))
    have hl2 := (hb2.cell (p := ⟨w.heap.size, 0, none⟩) (show w.heap.size < w1.heap.size by omega)).trans hl1
    obtain ⟨G', g, rfl, -, hG⟩ := ho2.formG
    obtain ⟨G, rfl, -, -, -⟩ := hG (by rw [upto_len]; omega)
    rw [upto_len] at ho2 ⊢
    have HS := Lib.hid (c_sortPairs L A c w.heap.size w.heap.size G g w1.heap.size w2 H.out (hA.below hx2) (by omega) hl2 (by omega) ho2)
    clear ho2 hb2 hl1 hl2 hG
    go_wp2_with fail
    refine HS.out.mono ?_
    rintro e w3 ⟨⟨r, rfl⟩, ho3, hb3⟩
    go_wp2_with fail
    go_ret
    exact ⟨_, rfl, by rw [HV.out]; exact ho3.mono (by omega), hx2.trans (hb3.mono (by omega))⟩
  · have hno : bOk L = false := by simpa using ht
    have H := Lib.hid hno
    have HV := Lib.hid (pairsV_no hno)
    clear ht hno
    go_enter Try.func37, Try.ntmps37
    go_wp2_with fail
    refine HT.out.mono ?_
    rintro e w1 ⟨rfl, hb1⟩
    rw [H.out]
    rw [hz0] at hb1
    go_wp2_with fail
    go_ret
    exact ⟨_, rfl, by rw [HV.out]; exact IO.nil _ _, hb0.trans (hb1.mono (by omega))⟩

end Go.Proofs.Ytofjfhifldafcaa

