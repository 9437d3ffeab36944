/- spec.ByRatio (ahead of the landing) -/
import Derived.Test.YtckebkaaokfonaaK14
import Derived.Test.YtckebkaaokfonaaO4
namespace Go.Proofs.Ytckebkaaokfonaa
set_option linter.unusedVariables false
open Go.RowKit
attribute [local go_sem ↓] Go.wp_at_zero Go.wp_at_succ

theorem byR_at {L : List (Int × Int)} {k i : Nat} (h : i < k) : 0 ≤ Z (byR L k) i ∧ Z (byR L k) i < k := by
  have hl := byR_len L k
  rw [Z_get (by omega)]
  exact mem_upto.1 ((byR_perm L k).mem_iff.1 (List.getElem_mem _))
theorem Is.dropI {w : World} {B b off : Nat} {xs : List Int} (h : Is w B (some ⟨b, off, none⟩) xs) (k : Nat) : Is w B (some ⟨b, off + k, none⟩) (xs.drop k) := by
  intro hp
  rw [List.length_drop] at hp
  obtain ⟨b', off', e, hlt, hc⟩ := h (by omega)
  cases e
  refine ⟨b, off + k, rfl, hlt, fun j hj => ?_⟩
  rw [List.length_drop] at hj
  have := hc (k + j) (by omega)
  rw [show off + k + j = off + (k + j) by omega, this]
  simp [Z]
theorem Is.takeI {w : World} {B : Nat} {A : Option Addr} {xs : List Int} (h : Is w B A xs) (k : Nat) : Is w B A (xs.take k) := by
  intro hp
  rw [List.length_take] at hp
  obtain ⟨b', off', e, hlt, hc⟩ := h (by omega)
  refine ⟨b', off', e, hlt, fun j hj => ?_⟩
  rw [List.length_take] at hj
  rw [hc j (by omega)]
  simp [Z, show j < k by omega]

set_option maxRecDepth 4000 in
set_option maxHeartbeats 8000000 in
theorem c_sByRatio (L : List (Int × Int)) (A : Option Addr) (c : Nat) (w : World) (hA : Cs w w.heap.size A L) (hn : L.length ≤ 140737488351232) :
    Calls Try.prog 31 #[.slice A L.length c] w fun e w' => ∃ v, e = .returned v ∧ IO w' w.heap.size v (ratioV L) ∧ Below w.heap.size w w' := by
  have KT := Lib.hid (fun W hW => c_sTasksOk L A c W hW (by omega))
  have hb0 : Below w.heap.size w (w.alloc (.cells #[] 3)) := by (repeat (first | exact rfl | exact Below.refl _ _ | (with_reducible refine Below.drew ?_) | (with_reducible refine Below.drewN ?_ _) | (with_reducible refine Below.alloc ?_ ?_ _) | (with_reducible refine Below.setCell ?_ ?_ _) | (show _ ≤ _; focus (first | omega | (simp; done) | (simp; omega)))))
  have own0 := IO.empty w (Nat.le_refl w.heap.size)
  by_cases ht : tOk L = true
  · have H := Lib.hid ht
    have HV := Lib.hid (ratioV_yes ht)
    have hl6 := (tOk_parts ht).2.2
    have HN := Lib.hid (fun i (hi : i < L.length) => (tOk_parts ht).1 i hi)
    clear ht
    go_enter Try.func31, Try.ntmps31
    go_wp2_with fail
    go_loopw [3, 4] (fun v i wr => ∃ k gb g : Nat, k ≤ L.length ∧ i = .int .i64 k ∧ v = .slice (some ⟨gb, 0, none⟩) k g ∧ k ≤ g ∧ IO wr w.heap.size (.slice (some ⟨gb, 0, none⟩) k g) (byR L k) ∧ Below w.heap.size w wr) (fun _ i _ => L.length - (intOf i).toNat)
    case atStart => exact ⟨0, _, _, Nat.zero_le _, rfl, rfl, Nat.le_refl _, own0, hb0⟩
    case round =>
      obtain ⟨k, gb, g, hk, rfl, rfl, hg1, hown, hb⟩ := hrel
      have hsz := hb.size
      by_cases hlt : k < L.length
      · have p2 : (k : Int) < (L.length : Int) := by omega
        go_wp2_with fail
        refine (KT.out _ ((hA.below hb).more hsz)).mono ?_
        rintro e w2 ⟨rfl, hb2⟩
        rw [H.out]
        have hown2 := hown.below hb2 (Nat.le_refl _)
        have hb3 := hb.trans (hb2.mono hsz)
        have hs3 := hb3.size
        have hgl := owns_lt hown2 gb (by simp [Value.ownBlock])
        have HG := Lib.hid (fun i (hi : i < k) => hown2.cells.2.1 i hi)
        have HC := Lib.hid (fun (i : Nat) (hi : i < L.length) => show (∃ b off, A = some ⟨b, off, none⟩ ∧ w2.cell? ⟨b, off + i * 2, none⟩ = some (.int .i64 (X L i)) ∧ w2.cell? ⟨b, off + i * 2 + 1, none⟩ = some (.int .i64 (Y L i))) by
          obtain ⟨b, off, e, hlb, hc⟩ := hA (by omega)
          exact ⟨b, off, e, (hb3.cell (p := ⟨b, off + i * 2, none⟩) hlb).trans (hc i hi).1, (hb3.cell (p := ⟨b, off + i * 2 + 1, none⟩) hlb).trans (hc i hi).2⟩)
        clear hb hb2 hown
        go_wp2_with fail
        go_loopw [5] (fun a wr => ∃ j n : Nat, j ≤ k ∧ a = .int .i64 j ∧ Hid (posTo L (byR L k) k j = posTo L (byR L k) k k) ∧ wr = w2.drewN n) (fun a _ => (intOf a).toNat)
        case atStart => exact ⟨k, 0, by omega, rfl, Lib.hid rfl, rfl⟩
        case round =>
          obtain ⟨j, n, hj, rfl, hpos, rfl⟩ := hrel
          by_cases h0 : 0 < j
          · have c0 := HG.out (j - 1) (by omega)
            have z := byR_at (L := L) (k := k) (i := j - 1) (by omega)
            obtain ⟨b, off, rfl, c1, c2⟩ := HC.out k hlt
            obtain ⟨b', off', e, c3, c4⟩ := HC.out (Z (byR L k) (j - 1)).toNat (by omega)
            cases e
            obtain ⟨⟨n1, n2⟩, n3, n4⟩ := HN.out k hlt
            obtain ⟨⟨v1, v2⟩, v3, v4⟩ := HN.out (Z (byR L k) (j - 1)).toNat (by omega)
            have p0 : (0 : Int) < (j : Int) := by omega
            have p1 : (0 : Int) ≤ (j : Int) - 1 := by omega
            have p3 : (j : Int) - 1 < (k : Int) := by omega
            have p4 : ((j : Int) - 1).toNat = j - 1 := by omega
            have p5 : (1 : Int) ≤ (j : Int) := by omega
            have p6 : (0 : Int) ≤ (k : Int) := by omega
            obtain ⟨z1, z2'⟩ := z
            have z2 : Z (byR L k) (j - 1) < (L.length : Int) := by omega
            have hps : posTo L (byR L k) k j = if X L k * Y L (Z (byR L k) (j - 1)).toNat < X L (Z (byR L k) (j - 1)).toNat * Y L k then posTo L (byR L k) k (j - 1) else j := by
              obtain ⟨i, rfl⟩ : ∃ i, j = i + 1 := ⟨j - 1, by omega⟩
              rfl
            have HP := Lib.hid hps
            have m1 : 0 ≤ X L k * Y L (Z (byR L k) (j - 1)).toNat ∧ X L k * Y L (Z (byR L k) (j - 1)).toNat ≤ 81 := ⟨Int.mul_nonneg (by omega) v3, Int.mul_le_mul n2 v4 v3 (by omega)⟩
            have m2 : 0 ≤ X L (Z (byR L k) (j - 1)).toNat * Y L k ∧ X L (Z (byR L k) (j - 1)).toNat * Y L k ≤ 81 := ⟨Int.mul_nonneg (by omega) n3, Int.mul_le_mul v2 n4 n3 (by omega)⟩
            have q1 : IntKind.i64.wrap (X L k * Y L (Z (byR L k) (j - 1)).toNat) = X L k * Y L (Z (byR L k) (j - 1)).toNat := IntWalk.i64_in _ (by omega)
            have q2 : IntKind.i64.wrap (X L (Z (byR L k) (j - 1)).toNat * Y L k) = X L (Z (byR L k) (j - 1)).toNat * Y L k := IntWalk.i64_in _ (by omega)
            clear hps n1 n2 n3 n4 v1 v2 v3 v4 m1 m2
            by_cases hcnd : X L k * Y L (Z (byR L k) (j - 1)).toNat < X L (Z (byR L k) (j - 1)).toNat * Y L k
            · go_wp2_with fail
              go_quiet (fail)
              clear c0 c1 c2 c3 c4 q1 q2
              go_wp2_with fail
              go_roundw
              case rel =>
                refine ⟨j - 1, n + nq, by omega, by go_num, Lib.hid ?_, by first | rfl | simp [World.drewN]; omega⟩
                rw [← hpos.out, HP.out, if_pos hcnd]
              case measure => simp [intOf]; omega
            · have hins : byR L (k + 1) = (byR L k).take j ++ [(k : Int)] ++ (byR L k).drop j := by
                show insR L (byR L k) k = _
                have e : posTo L (byR L k) k (byR L k).length = j := by rw [byR_len, ← hpos.out, HP.out, if_neg hcnd]
                simp only [insR, e, List.append_assoc, List.singleton_append]
              go_wp2_with fail
              go_quiet (fail)
              have ownq : IO (w2.drewN (n + nq)) w.heap.size (.slice (some ⟨gb, 0, none⟩) k g) (byR L k) := hown2
              have hbq : Below w.heap.size w (w2.drewN (n + nq)) := by (repeat (first | exact hb3 | exact Below.refl _ _ | (with_reducible refine Below.drew ?_) | (with_reducible refine Below.drewN ?_ _) | (with_reducible refine Below.alloc ?_ ?_ _) | (with_reducible refine Below.setCell ?_ ?_ _) | (show _ ≤ _; focus (first | omega | (simp; done) | (simp; omega)))))
              try simp only [World.drewN_drewN] at *
              generalize w2.drewN (n + nq) = wq at *
              clear c0 c1 c2 c3 c4 q1 q2 HP
              have HBQ := Lib.hid hbq
              have HZQ := Lib.hid hbq.size
              have HINS := Lib.hid hins
              clear hbq hins
              have obl : (byR L k).length = k := byR_len L k
              generalize byR L k = ob at *
              have hIs := ownq.isOf.2
              have q0 : (ob.take j).length = j := by rw [List.length_take]; omega
              have HI1 := Lib.hid (hIs.takeI j)
              have h2 := hIs.dropI j
              rw [Nat.zero_add] at h2
              have HI2 := Lib.hid h2
              have q2 : (ob.drop j).length = k - j := by rw [List.length_drop]; omega
              have q3 : (ob.take j ++ [(k : Int)]).length + (k - j) = k + 1 := by rw [List.length_append, q0]; simp; omega
              have q9 : wq.heap.size ≤ (wq.alloc (.cells #[] 3)).heap.size := by simp
              have hba : Below wq.heap.size wq (wq.alloc (.cells #[] 3)) := by (repeat (first | exact rfl | exact Below.refl _ _ | (with_reducible refine Below.drew ?_) | (with_reducible refine Below.drewN ?_ _) | (with_reducible refine Below.alloc ?_ ?_ _) | (with_reducible refine Below.setCell ?_ ?_ _) | (show _ ≤ _; focus (first | omega | (simp; done) | (simp; omega)))))
              have hj2 : j ≤ k := by omega
              have hjg : j ≤ g := by omega
              clear hIs h2
              rcases Nat.lt_or_ge j g with hjl | hjl
              · go_wp2_with (first
                  | (refine app_IIn (by rfl) (.tmp 57) (.tmp 60) (by rfl) wq.heap.size (.slice (some ⟨wq.heap.size, 0, none⟩) 0 0) [] (ob.take j) (some ⟨gb, 0, none⟩) g wq.heap.size j j (by rfl) (IO.empty wq (Nat.le_refl _)) (by rfl) q0 (by simp) (HI1.out.below hba) (by omega) q9 ?_; intro G2 g2 w2 o2 hgr2 hb2; rw [List.nil_append] at o2; have hx2 : Below wq.heap.size wq w2 := hba.trans hb2; have hz2 := hx2.size; have q10 : wq.heap.size ≤ (w2.alloc (.cells #[.int .i64 (k : Int)] 3)).heap.size := by simp; omega)
                  | (refine app_In (by rfl) (.tmp 62) (.tmp 64) (by rfl) wq.heap.size (.slice G2 j g2) (ob.take j) (k : Int) w2.heap.size (j + 1) (by rfl) (o2.alloc _) (by rfl) (by rw [q0]) (heap_alloc_new _ _) (by omega) q10 ?_; intro g3 c3 w3 o3 hgr3 hb3; have hx3 : Below wq.heap.size wq w3 := (hx2.alloc hz2 _).trans hb3; have hz3 := hx3.size)
                  | (refine app_IIn (by rfl) (.tmp 66) (.tmp 69) (by rfl) wq.heap.size (.slice (some ⟨g3, 0, none⟩) (j + 1) c3) (ob.take j ++ [(k : Int)]) (ob.drop j) (some ⟨gb, j, none⟩) (g - j) wq.heap.size (k - j) (k + 1) (by rfl) o3 (by rfl) q2 q3 (HI2.out.below hx3) (by omega) hz3 ?_; intro G4 c4 w4 o4 hgr4 hb4))
                have hx4 : Below wq.heap.size wq w4 := hx3.trans hb4
                obtain ⟨A4, c5, e4, hc5, hA4⟩ := o4.formG
                rw [← HINS.out, byR_len] at e4 hc5 hA4
                rw [← HINS.out] at o4
                injection e4 with e5 e6 e7
                subst e5 e7
                obtain ⟨b4, rfl, -, -, -⟩ := hA4 (by omega)
                go_roundw
                case rel => exact ⟨k + 1, b4, c4, by omega, by go_num, rfl, by omega, o4.mono HZQ.out, HBQ.out.trans (hx4.mono HZQ.out)⟩
                case measure => simp [intOf]; omega
              · have e1 : g = j := by omega
                have e2 : k = j := by omega
                have q2' : (ob.drop k).length = 0 := by rw [List.length_drop]; omega
                have q3' : (ob.take k ++ [(k : Int)]).length + 0 = k + 1 := by rw [e2]; rw [List.length_append, q0]; simp
                subst e1
                subst e2
                go_wp2_with (first
                  | (refine app_IIn (by rfl) (.tmp 57) (.tmp 60) (by rfl) wq.heap.size (.slice (some ⟨wq.heap.size, 0, none⟩) 0 0) [] (ob.take k) (some ⟨gb, 0, none⟩) k wq.heap.size k k (by rfl) (IO.empty wq (Nat.le_refl _)) (by rfl) q0 (by simp) (HI1.out.below hba) (by omega) q9 ?_; intro G2 g2 w2 o2 hgr2 hb2; rw [List.nil_append] at o2; have hx2 : Below wq.heap.size wq w2 := hba.trans hb2; have hz2 := hx2.size; have q10 : wq.heap.size ≤ (w2.alloc (.cells #[.int .i64 (k : Int)] 3)).heap.size := by simp; omega)
                  | (refine app_In (by rfl) (.tmp 62) (.tmp 64) (by rfl) wq.heap.size (.slice G2 k g2) (ob.take k) (k : Int) w2.heap.size (k + 1) (by rfl) (o2.alloc _) (by rfl) (by rw [q0]) (heap_alloc_new _ _) (by omega) q10 ?_; intro g3 c3 w3 o3 hgr3 hb3; have hx3 : Below wq.heap.size wq w3 := (hx2.alloc hz2 _).trans hb3; have hz3 := hx3.size)
                  | (refine app_IIn (by rfl) (.tmp 66) (.tmp 69) (by rfl) wq.heap.size (.slice (some ⟨g3, 0, none⟩) (k + 1) c3) (ob.take k ++ [(k : Int)]) (ob.drop k) (some ⟨gb, 0, none⟩) 0 wq.heap.size 0 (k + 1) (by rfl) o3 (by rfl) q2' q3' (fun hp => absurd hp (by rw [q2']; omega)) (by omega) hz3 ?_; intro G4 c4 w4 o4 hgr4 hb4))
                have hx4 : Below wq.heap.size wq w4 := hx3.trans hb4
                obtain ⟨A4, c5, e4, hc5, hA4⟩ := o4.formG
                rw [← HINS.out, byR_len] at e4 hc5 hA4
                rw [← HINS.out] at o4
                injection e4 with e5 e6 e7
                subst e5 e7
                obtain ⟨b4, rfl, -, -, -⟩ := hA4 (by omega)
                go_roundw
                case rel => exact ⟨k + 1, b4, c4, by omega, by go_num, rfl, by omega, o4.mono HZQ.out, HBQ.out.trans (hx4.mono HZQ.out)⟩
                case measure => simp [intOf]; omega

          · have hj0 : j = 0 := by omega
            have hins : byR L (k + 1) = (byR L k).take j ++ [(k : Int)] ++ (byR L k).drop j := by
              show insR L (byR L k) k = _
              have e : posTo L (byR L k) k (byR L k).length = j := by rw [byR_len, ← hpos.out, hj0]; rfl
              simp only [insR, e, List.append_assoc, List.singleton_append]
            have h0' : ¬ (0 : Int) < (j : Int) := by omega
            have HJ0 := Lib.hid hj0
            clear hj0
            go_wp2_with fail
            go_quiet (fail)
            have ownq : IO (w2.drewN (n + nq)) w.heap.size (.slice (some ⟨gb, 0, none⟩) k g) (byR L k) := hown2
            have hbq : Below w.heap.size w (w2.drewN (n + nq)) := by (repeat (first | exact hb3 | exact Below.refl _ _ | (with_reducible refine Below.drew ?_) | (with_reducible refine Below.drewN ?_ _) | (with_reducible refine Below.alloc ?_ ?_ _) | (with_reducible refine Below.setCell ?_ ?_ _) | (show _ ≤ _; focus (first | omega | (simp; done) | (simp; omega)))))
            try simp only [World.drewN_drewN] at *
            generalize w2.drewN (n + nq) = wq at *
            have HBQ := Lib.hid hbq
            have HZQ := Lib.hid hbq.size
            have HINS := Lib.hid hins
            clear hbq hins
            have obl : (byR L k).length = k := byR_len L k
            generalize byR L k = ob at *
            have hIs := ownq.isOf.2
            have q0 : (ob.take j).length = j := by rw [List.length_take]; omega
            have HI1 := Lib.hid (hIs.takeI j)
            have h2 := hIs.dropI j
            rw [Nat.zero_add] at h2
            have HI2 := Lib.hid h2
            have q2 : (ob.drop j).length = k - j := by rw [List.length_drop]; omega
            have q3 : (ob.take j ++ [(k : Int)]).length + (k - j) = k + 1 := by rw [List.length_append, q0]; simp; omega
            have q9 : wq.heap.size ≤ (wq.alloc (.cells #[] 3)).heap.size := by simp
            have hba : Below wq.heap.size wq (wq.alloc (.cells #[] 3)) := by (repeat (first | exact rfl | exact Below.refl _ _ | (with_reducible refine Below.drew ?_) | (with_reducible refine Below.drewN ?_ _) | (with_reducible refine Below.alloc ?_ ?_ _) | (with_reducible refine Below.setCell ?_ ?_ _) | (show _ ≤ _; focus (first | omega | (simp; done) | (simp; omega)))))
            have hj2 : j ≤ k := by omega
            have hjg : j ≤ g := by omega
            clear hIs h2
            rcases Nat.lt_or_ge j g with hjl | hjl
            · go_wp2_with (first
                | (refine app_IIn (by rfl) (.tmp 57) (.tmp 60) (by rfl) wq.heap.size (.slice (some ⟨wq.heap.size, 0, none⟩) 0 0) [] (ob.take j) (some ⟨gb, 0, none⟩) g wq.heap.size j j (by rfl) (IO.empty wq (Nat.le_refl _)) (by rfl) q0 (by simp) (HI1.out.below hba) (by omega) q9 ?_; intro G2 g2 w2 o2 hgr2 hb2; rw [List.nil_append] at o2; have hx2 : Below wq.heap.size wq w2 := hba.trans hb2; have hz2 := hx2.size; have q10 : wq.heap.size ≤ (w2.alloc (.cells #[.int .i64 (k : Int)] 3)).heap.size := by simp; omega)
                | (refine app_In (by rfl) (.tmp 62) (.tmp 64) (by rfl) wq.heap.size (.slice G2 j g2) (ob.take j) (k : Int) w2.heap.size (j + 1) (by rfl) (o2.alloc _) (by rfl) (by rw [q0]) (heap_alloc_new _ _) (by omega) q10 ?_; intro g3 c3 w3 o3 hgr3 hb3; have hx3 : Below wq.heap.size wq w3 := (hx2.alloc hz2 _).trans hb3; have hz3 := hx3.size)
                | (refine app_IIn (by rfl) (.tmp 66) (.tmp 69) (by rfl) wq.heap.size (.slice (some ⟨g3, 0, none⟩) (j + 1) c3) (ob.take j ++ [(k : Int)]) (ob.drop j) (some ⟨gb, j, none⟩) (g - j) wq.heap.size (k - j) (k + 1) (by rfl) o3 (by rfl) q2 q3 (HI2.out.below hx3) (by omega) hz3 ?_; intro G4 c4 w4 o4 hgr4 hb4))
              have hx4 : Below wq.heap.size wq w4 := hx3.trans hb4
              obtain ⟨A4, c5, e4, hc5, hA4⟩ := o4.formG
              rw [← HINS.out, byR_len] at e4 hc5 hA4
              rw [← HINS.out] at o4
              injection e4 with e5 e6 e7
              subst e5 e7
              obtain ⟨b4, rfl, -, -, -⟩ := hA4 (by omega)
              go_roundw
              case rel => exact ⟨k + 1, b4, c4, by omega, by go_num, rfl, by omega, o4.mono HZQ.out, HBQ.out.trans (hx4.mono HZQ.out)⟩
              case measure => simp [intOf]; omega
            · have e1 : g = j := by omega
              have e2 : k = j := by omega
              have q2' : (ob.drop k).length = 0 := by rw [List.length_drop]; omega
              have q3' : (ob.take k ++ [(k : Int)]).length + 0 = k + 1 := by rw [e2]; rw [List.length_append, q0]; simp
              subst e1
              subst e2
              go_wp2_with (first
                | (refine app_IIn (by rfl) (.tmp 57) (.tmp 60) (by rfl) wq.heap.size (.slice (some ⟨wq.heap.size, 0, none⟩) 0 0) [] (ob.take k) (some ⟨gb, 0, none⟩) k wq.heap.size k k (by rfl) (IO.empty wq (Nat.le_refl _)) (by rfl) q0 (by simp) (HI1.out.below hba) (by omega) q9 ?_; intro G2 g2 w2 o2 hgr2 hb2; rw [List.nil_append] at o2; have hx2 : Below wq.heap.size wq w2 := hba.trans hb2; have hz2 := hx2.size; have q10 : wq.heap.size ≤ (w2.alloc (.cells #[.int .i64 (k : Int)] 3)).heap.size := by simp; omega)
                | (refine app_In (by rfl) (.tmp 62) (.tmp 64) (by rfl) wq.heap.size (.slice G2 k g2) (ob.take k) (k : Int) w2.heap.size (k + 1) (by rfl) (o2.alloc _) (by rfl) (by rw [q0]) (heap_alloc_new _ _) (by omega) q10 ?_; intro g3 c3 w3 o3 hgr3 hb3; have hx3 : Below wq.heap.size wq w3 := (hx2.alloc hz2 _).trans hb3; have hz3 := hx3.size)
                | (refine app_IIn (by rfl) (.tmp 66) (.tmp 69) (by rfl) wq.heap.size (.slice (some ⟨g3, 0, none⟩) (k + 1) c3) (ob.take k ++ [(k : Int)]) (ob.drop k) (some ⟨gb, 0, none⟩) 0 wq.heap.size 0 (k + 1) (by rfl) o3 (by rfl) q2' q3' (fun hp => absurd hp (by rw [q2']; omega)) (by omega) hz3 ?_; intro G4 c4 w4 o4 hgr4 hb4))
              have hx4 : Below wq.heap.size wq w4 := hx3.trans hb4
              obtain ⟨A4, c5, e4, hc5, hA4⟩ := o4.formG
              rw [← HINS.out, byR_len] at e4 hc5 hA4
              rw [← HINS.out] at o4
              injection e4 with e5 e6 e7
              subst e5 e7
              obtain ⟨b4, rfl, -, -, -⟩ := hA4 (by omega)
              go_roundw
              case rel => exact ⟨k + 1, b4, c4, by omega, by go_num, rfl, by omega, o4.mono HZQ.out, HBQ.out.trans (hx4.mono HZQ.out)⟩
              case measure => simp [intOf]; omega

      · have hlf : ¬ ((k : Int) < (L.length : Int)) := by omega
        go_wp2_with fail
        go_ret
        exact ⟨_, rfl, by rw [HV.out, show L.length = k by omega]; exact hown, hb⟩
  · have H := Lib.hid (show tOk L = false by simpa using ht)
    have HV := Lib.hid (ratioV_no H.out)
    by_cases hp : 0 < L.length
    · have hp' : (0 : Int) < (L.length : Int) := by omega
      clear ht
      go_enter Try.func31, Try.ntmps31
      go_wp2_with fail
      go_loopw [3, 4] (fun v i wr => v = .slice (some ⟨w.heap.size, 0, none⟩) 0 0 ∧ i = .int .i64 0 ∧ wr = w.alloc (.cells #[] 3)) (fun _ i _ => 0)
      case atStart => exact ⟨rfl, rfl, rfl⟩
      case round =>
        obtain ⟨rfl, rfl, rfl⟩ := hrel
        go_wp2_with fail
        refine (KT.out _ ((hA.below hb0).more (by simp))).mono ?_
        rintro e w2 ⟨rfl, hb2⟩
        rw [H.out]
        go_wp2_with fail
        go_ret
        exact ⟨_, rfl, by rw [HV.out]; exact own0.below hb2 (Nat.le_refl _), hb0.trans (hb2.mono (by simp))⟩
    · obtain rfl : L = [] := List.eq_nil_of_length_eq_zero (by omega)
      clear ht
      go_enter Try.func31, Try.ntmps31
      go_wp2_with fail
      go_loopw [3, 4] (fun v i wr => v = .slice (some ⟨w.heap.size, 0, none⟩) 0 0 ∧ i = .int .i64 0 ∧ wr = w.alloc (.cells #[] 3)) (fun _ i _ => 0)
      case atStart => exact ⟨rfl, rfl, rfl⟩
      case round =>
        obtain ⟨rfl, rfl, rfl⟩ := hrel
        go_wp2_with fail
        go_ret
        exact ⟨_, rfl, by rw [HV.out]; exact own0, hb0⟩

end Go.Proofs.Ytckebkaaokfonaa

