/- draws of tasks and of orders (ahead) -/
import Derived.Test.YtofjfhifldafcaaG2
import Derived.Test.YtofjfhifldafcaaO3
import Derived.Test.YtofjfhifldafcaaO4
import Derived.Test.YtofjfhifldafcaaM21
namespace Go.Proofs.Ytofjfhifldafcaa
set_option linter.unusedVariables false
open Go.RowKit
attribute [local go_sem ↓] Go.wp_at_zero Go.wp_at_succ

theorem Is.dropJ {w : World} {B b off : Nat} {xs : List Int} (h : Is w B (some ⟨b, off, none⟩) xs) (k : Nat) : Is w B (some ⟨b, off + k, none⟩) (xs.drop k) := by
  intro hp
  rw [List.length_drop] at hp
  obtain ⟨b', off', e, hlt, hc⟩ := h (by omega)
  cases e
  refine ⟨b, off + k, rfl, hlt, fun j hj => ?_⟩
  rw [List.length_drop] at hj
  have := hc (k + j) (by omega)
  rw [show off + k + j = off + (k + j) by omega, this]
  simp [Z]
theorem Is.takeJ {w : World} {B : Nat} {A : Option Addr} {xs : List Int} (h : Is w B A xs) (k : Nat) : Is w B A (xs.take k) := by
  intro hp
  rw [List.length_take] at hp
  obtain ⟨b', off', e, hlt, hc⟩ := h (by omega)
  refine ⟨b', off', e, hlt, fun j hj => ?_⟩
  rw [List.length_take] at hj
  rw [hc j (by omega)]
  simp [Z, show j < k by omega]

set_option maxRecDepth 4000 in
set_option maxHeartbeats 4000000 in
theorem c_l20Perm (base r p many : Nat) (w : World) (h : Rd w base r p) (hp : p ≤ 900000000) (hm : many ≤ 100) :
    Calls Try.prog 63 #[.pointer (some ⟨r, 0, none⟩), .int .i64 many] w fun e w' => ∃ o v, e = .returned v ∧ IO w' w.heap.size v o ∧ o.length = many ∧ w.grownBy w' (some r) ∧ ∃ p', p' ≤ p + many ∧ Rd w' base r p' := by
  have hrw := h.2.1
  have hbr := h.1
  go_enter Try.func63, Try.ntmps63
  go_wp2_with fail
  have hb0 : Below w.heap.size w (w.alloc (.cells #[] 3)) := by (repeat (first | exact rfl | exact Below.refl _ _ | (with_reducible refine Below.drew ?_) | (with_reducible refine Below.drewN ?_ _) | (with_reducible refine Below.alloc ?_ ?_ _) | (with_reducible refine Below.setCell ?_ ?_ _) | (show _ ≤ _; focus (first | omega | (simp; done) | (simp; omega)))))
  have g0 : w.grownBy (w.alloc (.cells #[] 3)) (some r) := World.grownBy_alloc _ _ _
  have r0 := h.keepB hb0 hrw (by omega)
  go_loopw [5, 6] (fun ov kv wr => ∃ (o : List Int) (k p' gb g : Nat), k ≤ many ∧ kv = .int .i64 k ∧ o.length = k ∧ p' ≤ p + k ∧ ov = .slice (some ⟨gb, 0, none⟩) k g ∧ k ≤ g ∧ IO wr w.heap.size (.slice (some ⟨gb, 0, none⟩) k g) o ∧ w.grownBy wr (some r) ∧ Rd wr base r p') (fun _ kv _ => many - (intOf kv).toNat)
  case atStart => exact ⟨[], 0, p, _, _, by omega, rfl, rfl, by omega, rfl, Nat.le_refl _, IO.empty _ (Nat.le_refl _), g0, r0⟩
  case round =>
    obtain ⟨o, k, p', gb, g, hk, rfl, hol, hp', rfl, hg0, hown, hgr, hrd⟩ := hrel
    have hsr := hgr.size
    by_cases hlt : k < many
    · have HP := Lib.hid (c_pickI base r p' ((k : Int) + 1) wr hrd (by omega) (by omega) (by omega))
      have hkm : (k : Int) < (many : Int) := by omega
      go_wp2_with fail
      refine HP.out.mono ?_
      rintro e w1 ⟨j, hj, rfl, hg1, hr1⟩
      have g1 := hgr.trans hg1
      have o1 := hown.grownR hg1 (fun b e => by cases e; exact hrw)
      have hs1 := g1.size
      have hw1 : wr.heap.size ≤ w1.heap.size := hg1.size
      clear HP hgr hown hrd hg1
      have hIs := o1.isOf.2
      have hj2 : j ≤ k := by omega
      have hjg : j ≤ g := by omega
      have q0 : (o.take j).length = j := by rw [List.length_take]; omega
      have HI1 := Lib.hid (hIs.takeJ j)
      have h2 := hIs.dropJ j
      rw [Nat.zero_add] at h2
      have HI2 := Lib.hid h2
      have q2 : (o.drop j).length = k - j := by rw [List.length_drop]; omega
      have q3 : (o.take j ++ [(k : Int)]).length + (k - j) = k + 1 := by rw [List.length_append, q0]; simp; omega
      clear h2
      have q9 : w1.heap.size ≤ (w1.alloc (.cells #[] 3)).heap.size := by simp
      have hba : Below w1.heap.size w1 (w1.alloc (.cells #[] 3)) := by (repeat (first | exact rfl | exact Below.refl _ _ | (with_reducible refine Below.drew ?_) | (with_reducible refine Below.drewN ?_ _) | (with_reducible refine Below.alloc ?_ ?_ _) | (with_reducible refine Below.setCell ?_ ?_ _) | (show _ ≤ _; focus (first | omega | (simp; done) | (simp; omega)))))
      clear hIs
      rcases Nat.lt_or_ge j g with hjl | hjl
      · go_wp2_with (first
          | (refine app_IIn (by rfl) (.tmp 19) (.tmp 22) (by rfl) w1.heap.size (.slice (some ⟨w1.heap.size, 0, none⟩) 0 0) [] (o.take j) (some ⟨gb, 0, none⟩) g w1.heap.size j j (by rfl) (IO.empty w1 (Nat.le_refl _)) (by rfl) q0 (by simp) (HI1.out.below hba) (by omega) q9 ?_; intro G2 g2 w2 o2 hgr2 hb2; rw [List.nil_append] at o2; have hx2 : Below w1.heap.size w1 w2 := hba.trans hb2; have hz2 := hx2.size; have q10 : w1.heap.size ≤ (w2.alloc (.cells #[.int .i64 (k : Int)] 3)).heap.size := by simp; omega)
          | (refine app_In (by rfl) (.tmp 24) (.tmp 26) (by rfl) w1.heap.size (.slice G2 j g2) (o.take j) (k : Int) w2.heap.size (j + 1) (by rfl) (o2.alloc _) (by rfl) (by rw [q0]) (heap_alloc_new _ _) (by omega) q10 ?_; intro g3 c3 w3 o3 hgr3 hb3; have hx3 : Below w1.heap.size w1 w3 := (hx2.alloc hz2 _).trans hb3; have hz3 := hx3.size)
          | (refine app_IIn (by rfl) (.tmp 28) (.tmp 31) (by rfl) w1.heap.size (.slice (some ⟨g3, 0, none⟩) (j + 1) c3) (o.take j ++ [(k : Int)]) (o.drop j) (some ⟨gb, j, none⟩) (g - j) w1.heap.size (k - j) (k + 1) (by rfl) o3 (by rfl) q2 q3 (HI2.out.below hx3) (by omega) hz3 ?_; intro G4 c4 w4 o4 hgr4 hb4))
        have hx4 : Below w1.heap.size w1 w4 := hx3.trans hb4
        have hol4 : (o.take j ++ [(k : Int)] ++ o.drop j).length = k + 1 := by rw [List.length_append, q2]; omega
        obtain ⟨A4, c5, e4, hc5, hA4⟩ := o4.formG
        injection e4 with e5 e6 e7
        subst e5 e7
        obtain ⟨b4, rfl, -, -, -⟩ := hA4 (by omega)
        go_roundw
        case rel => exact ⟨_, k + 1, p' + 1, b4, c4, by omega, by go_num, hol4, by omega, rfl, by omega, o4.mono (by omega), grown_thenB g1 (hx4.mono hs1), hr1.keepB hx4 (by omega) (by omega)⟩
        case measure => simp [intOf]; omega
      · have e1 : g = j := by omega
        have e2 : k = j := by omega
        have q2' : (o.drop k).length = 0 := by rw [List.length_drop]; omega
        have q3' : (o.take k ++ [(k : Int)]).length + 0 = k + 1 := by rw [e2]; rw [List.length_append, q0]; simp
        subst e1
        subst e2
        go_wp2_with (first
          | (refine app_IIn (by rfl) (.tmp 19) (.tmp 22) (by rfl) w1.heap.size (.slice (some ⟨w1.heap.size, 0, none⟩) 0 0) [] (o.take k) (some ⟨gb, 0, none⟩) k w1.heap.size k k (by rfl) (IO.empty w1 (Nat.le_refl _)) (by rfl) q0 (by simp) (HI1.out.below hba) (by omega) q9 ?_; intro G2 g2 w2 o2 hgr2 hb2; rw [List.nil_append] at o2; have hx2 : Below w1.heap.size w1 w2 := hba.trans hb2; have hz2 := hx2.size; have q10 : w1.heap.size ≤ (w2.alloc (.cells #[.int .i64 (k : Int)] 3)).heap.size := by simp; omega)
          | (refine app_In (by rfl) (.tmp 24) (.tmp 26) (by rfl) w1.heap.size (.slice G2 k g2) (o.take k) (k : Int) w2.heap.size (k + 1) (by rfl) (o2.alloc _) (by rfl) (by rw [q0]) (heap_alloc_new _ _) (by omega) q10 ?_; intro g3 c3 w3 o3 hgr3 hb3; have hx3 : Below w1.heap.size w1 w3 := (hx2.alloc hz2 _).trans hb3; have hz3 := hx3.size)
          | (refine app_IIn (by rfl) (.tmp 28) (.tmp 31) (by rfl) w1.heap.size (.slice (some ⟨g3, 0, none⟩) (k + 1) c3) (o.take k ++ [(k : Int)]) (o.drop k) (some ⟨gb, 0, none⟩) 0 w1.heap.size 0 (k + 1) (by rfl) o3 (by rfl) q2' q3' (fun hp => absurd hp (by rw [q2']; omega)) (by omega) hz3 ?_; intro G4 c4 w4 o4 hgr4 hb4))
        have hx4 : Below w1.heap.size w1 w4 := hx3.trans hb4
        have hol4 : (o.take k ++ [(k : Int)] ++ o.drop k).length = k + 1 := by rw [List.length_append, q2']; omega
        obtain ⟨A4, c5, e4, hc5, hA4⟩ := o4.formG
        injection e4 with e5 e6 e7
        subst e5 e7
        obtain ⟨b4, rfl, -, -, -⟩ := hA4 (by omega)
        go_roundw
        case rel => exact ⟨_, k + 1, p' + 1, b4, c4, by omega, by go_num, hol4, by omega, rfl, by omega, o4.mono (by omega), grown_thenB g1 (hx4.mono hs1), hr1.keepB hx4 (by omega) (by omega)⟩
        case measure => simp [intOf]; omega
    · have hlf : ¬ ((k : Int) < (many : Int)) := by omega
      go_wp2_with fail
      go_ret
      exact ⟨o, _, rfl, hown, by omega, hgr, p', by omega, hrd⟩

end Go.Proofs.Ytofjfhifldafcaa

