/- draws of tasks and of orders (ahead) -/
import Derived.Test.YtckebkaaokfonaaG2
import Derived.Test.YtckebkaaokfonaaO3
import Derived.Test.YtckebkaaokfonaaO4
import Derived.Test.YtckebkaaokfonaaM21
namespace Go.Proofs.Ytckebkaaokfonaa
set_option linter.unusedVariables false
open Go.RowKit
attribute [local go_sem ↓] Go.wp_at_zero Go.wp_at_succ

theorem Is.dropJ {w : World} {B b off : Nat} {xs : List Int} (h : Is w B (some ⟨b, off, none⟩) xs) (k : Nat) : Is w B (some ⟨b, off + k, none⟩) (xs.drop k) := by
  intro hp
  rw [List.length_drop] at hp
  obtain ⟨b', off', e, hlt, hc⟩ := h (by omega)
  cases e
  refine ⟨b, off + k, rfl, hlt, fun j hj => ?_⟩
  rw [List.length_drop] at hj
  have := hc (k + j) (by omega)
  rw [show off + k + j = off + (k + j) by omega, this]
  simp [Z]
theorem Is.takeJ {w : World} {B : Nat} {A : Option Addr} {xs : List Int} (h : Is w B A xs) (k : Nat) : Is w B A (xs.take k) := by
  intro hp
  rw [List.length_take] at hp
  obtain ⟨b', off', e, hlt, hc⟩ := h (by omega)
  refine ⟨b', off', e, hlt, fun j hj => ?_⟩
  rw [List.length_take] at hj
  rw [hc j (by omega)]
  simp [Z, show j < k by omega]

set_option maxRecDepth 4000 in
set_option maxHeartbeats 4000000 in
theorem c_l20Perm (base r p many : Nat) (w : World) (h : Rd w base r p) (hp : p ≤ 900000000) (hm : many ≤ 100) :
    Calls Try.prog 53 #[.pointer (some ⟨r, 0, none⟩), .int .i64 many] w fun e w' => ∃ o v, e = .returned v ∧ IO w' w.heap.size v o ∧ o.length = many ∧ w.grownBy w' (some r) ∧ ∃ p', p' ≤ p + many ∧ Rd w' base r p' := by
  have hrw := h.2.1
  have hbr := h.1
  go_enter Try.func53, Try.ntmps53
  go_wp2_with fail
  have hb0 : Below w.heap.size w (w.alloc (.cells #[] 3)) := by (repeat (first | exact rfl | exact Below.refl _ _ | (with_reducible refine Below.drew ?_) | (with_reducible refine Below.drewN ?_ _) | (with_reducible refine Below.alloc ?_ ?_ _) | (with_reducible refine Below.setCell ?_ ?_ _) | (show _ ≤ _; focus (first | omega | (simp; done) | (simp; omega)))))
  have g0 : w.grownBy (w.alloc (.cells #[] 3)) (some r) := World.grownBy_alloc _ _ _
  have r0 := h.keepB hb0 hrw (by omega)
  go_loopw [5, 6] (fun ov kv wr => ∃ (o : List Int) (k p' gb g : Nat), k ≤ many ∧ kv = .int .i64 k ∧ o.length = k ∧ p' ≤ p + k ∧ ov = .slice (some ⟨gb, 0, none⟩) k g ∧ k ≤ g ∧ IO wr w.heap.size (.slice (some ⟨gb, 0, none⟩) k g) o ∧ w.grownBy wr (some r) ∧ Rd wr base r p') (fun _ kv _ => many - (intOf kv).toNat)
  case atStart => exact ⟨[], 0, p, _, _, by omega, rfl, rfl, by omega, rfl, Nat.le_refl _, IO.empty _ (Nat.le_refl _), g0, r0⟩
  case round =>
    obtain ⟨o, k, p', gb, g, hk, rfl, hol, hp', rfl, hg0, hown, hgr, hrd⟩ := hrel
    have hsr := hgr.size
    by_cases hlt : k < many
    · have HP := Lib.hid (c_pickI base r p' ((k : Int) + 1) wr hrd (by omega) (by omega) (by omega))
      have hkm : (k : Int) < (many : Int) := by omega
      go_wp2_with fail
      refine HP.out.mono ?_
      rintro e w1 ⟨j, hj, rfl, hg1, hr1⟩
      have g1 := hgr.trans hg1
      have o1 := hown.grownR hg1 (fun b e => by cases e; exact hrw)
      have hs1 := g1.size
      have hw1 : wr.heap.size ≤ w1.heap.size := hg1.size
      clear HP hgr hown hrd hg1
      have hIs := o1.isOf.2
      have hj2 : j ≤ k := by omega
      have hjg : j ≤ g := by omega
      have q0 : (o.take j).length = j := by rw [List.length_take]; omega
      have HI1 := Lib.hid (hIs.takeJ j)
      have h2 := hIs.dropJ j
      rw [Nat.zero_add] at h2
      have HI2 := Lib.hid h2
      have q2 : (o.drop j).length = k - j := by rw [List.length_drop]; omega
      have q3 : (o.take j ++ [(k : Int)]).length + (k - j) = k + 1 := by rw [List.length_append, q0]; simp; omega
      clear h2
      have q9 : w1.heap.size ≤ (w1.alloc (.cells #[] 3)).heap.size := by simp
      have hba : Below w1.heap.size w1 (w1.alloc (.cells #[] 3)) := by (repeat (first | exact rfl | exact Below.refl _ _ | (with_reducible refine Below.drew ?_) | (with_reducible refine Below.drewN ?_ _) | (with_reducible refine Below.alloc ?_ ?_ _) | (with_reducible refine Below.setCell ?_ ?_ _) | (show _ ≤ _; focus (first | omega | (simp; done) | (simp; omega)))))
      clear hIs
      rcases Nat.lt_or_ge j g with hjl | hjl
      · go_wp2_with (first
          | (refine app_IIn (by rfl) (.tmp 19) (.tmp 22) (by rfl) w1.heap.size (.slice (some ⟨w1.heap.size, 0, none⟩) 0 0) [] (o.take j) (some ⟨gb, 0, none⟩) g w1.heap.size j j (by rfl) (IO.empty w1 (Nat.le_refl _)) (by rfl) q0 (by simp) (HI1.out.below hba) (by omega) q9 ?_; intro G2 g2 w2 o2 hgr2 hb2; rw [List.nil_append] at o2; have hx2 : Below w1.heap.size w1 w2 := hba.trans hb2; have hz2 := hx2.size; have q10 : w1.heap.size ≤ (w2.alloc (.cells #[.int .i64 (k : Int)] 3)).heap.size := by simp; omega)
          | (refine app_In (by rfl) (.tmp 24) (.tmp 26) (by rfl) w1.heap.size (.slice G2 j g2) (o.take j) (k : Int) w2.heap.size (j + 1) (by rfl) (o2.alloc _) (by rfl) (by rw [q0]) (heap_alloc_new _ _) (by omega) q10 ?_; intro g3 c3 w3 o3 hgr3 hb3; have hx3 : Below w1.heap.size w1 w3 := (hx2.alloc hz2 _).trans hb3; have hz3 := hx3.size)
          | (refine app_IIn (by rfl) (.tmp 28) (.tmp 31) (by rfl) w1.heap.size (.slice (some ⟨g3, 0, none⟩) (j + 1) c3) (o.take j ++ [(k : Int)]) (o.drop j) (some ⟨gb, j, none⟩) (g - j) w1.heap.size (k - j) (k + 1) (by rfl) o3 (by rfl) q2 q3 (HI2.out.below hx3) (by omega) hz3 ?_; intro G4 c4 w4 o4 hgr4 hb4))
        have hx4 : Below w1.heap.size w1 w4 := hx3.trans hb4
        have hol4 : (o.take j ++ [(k : Int)] ++ o.drop j).length = k + 1 := by rw [List.length_append, q2]; omega
        obtain ⟨A4, c5, e4, hc5, hA4⟩ := o4.formG
        injection e4 with e5 e6 e7
        subst e5 e7
        obtain ⟨b4, rfl, -, -, -⟩ := hA4 (by omega)
        go_roundw
        case rel => exact ⟨_, k + 1, p' + 1, b4, c4, by omega, by go_num, hol4, by omega, rfl, by omega, o4.mono (by omega), grown_thenB g1 (hx4.mono hs1), hr1.keepB hx4 (by omega) (by omega)⟩
        case measure => simp [intOf]; omega
      · have e1 : g = j := by omega
        have e2 : k = j := by omega
        have q2' : (o.drop k).length = 0 := by rw [List.length_drop]; omega
        have q3' : (o.take k ++ [(k : Int)]).length + 0 = k + 1 := by rw [e2]; rw [List.length_append, q0]; simp
        subst e1
        subst e2
        go_wp2_with (first
          | (refine app_IIn (by rfl) (.tmp 19) (.tmp 22) (by rfl) w1.heap.size (.slice (some ⟨w1.heap.size, 0, none⟩) 0 0) [] (o.take k) (some ⟨gb, 0, none⟩) k w1.heap.size k k (by rfl) (IO.empty w1 (Nat.le_refl _)) (by rfl) q0 (by simp) (HI1.out.below hba) (by omega) q9 ?_; intro G2 g2 w2 o2 hgr2 hb2; rw [List.nil_append] at o2; have hx2 : Below w1.heap.size w1 w2 := hba.trans hb2; have hz2 := hx2.size; have q10 : w1.heap.size ≤ (w2.alloc (.cells #[.int .i64 (k : Int)] 3)).heap.size := by simp; omega)
          | (refine app_In (by rfl) (.tmp 24) (.tmp 26) (by rfl) w1.heap.size (.slice G2 k g2) (o.take k) (k : Int) w2.heap.size (k + 1) (by rfl) (o2.alloc _) (by rfl) (by rw [q0]) (heap_alloc_new _ _) (by omega) q10 ?_; intro g3 c3 w3 o3 hgr3 hb3; have hx3 : Below w1.heap.size w1 w3 := (hx2.alloc hz2 _).trans hb3; have hz3 := hx3.size)
          | (refine app_IIn (by rfl) (.tmp 28) (.tmp 31) (by rfl) w1.heap.size (.slice (some ⟨g3, 0, none⟩) (k + 1) c3) (o.take k ++ [(k : Int)]) (o.drop k) (some ⟨gb, 0, none⟩) 0 w1.heap.size 0 (k + 1) (by rfl) o3 (by rfl) q2' q3' (fun hp => absurd hp (by rw [q2']; omega)) (by omega) hz3 ?_; intro G4 c4 w4 o4 hgr4 hb4))
        have hx4 : Below w1.heap.size w1 w4 := hx3.trans hb4
        have hol4 : (o.take k ++ [(k : Int)] ++ o.drop k).length = k + 1 := by rw [List.length_append, q2']; omega
        obtain ⟨A4, c5, e4, hc5, hA4⟩ := o4.formG
        injection e4 with e5 e6 e7
        subst e5 e7
        obtain ⟨b4, rfl, -, -, -⟩ := hA4 (by omega)
        go_roundw
        case rel => exact ⟨_, k + 1, p' + 1, b4, c4, by omega, by go_num, hol4, by omega, rfl, by omega, o4.mono (by omega), grown_thenB g1 (hx4.mono hs1), hr1.keepB hx4 (by omega) (by omega)⟩
        case measure => simp [intOf]; omega
    · have hlf : ¬ ((k : Int) < (many : Int)) := by omega
      go_wp2_with fail
      go_ret
      exact ⟨o, _, rfl, hown, by omega, hgr, p', by omega, hrd⟩

theorem TO.storeX {w : World} {base g n c : Nat} {L : List (Int × Int)} (h : TO w base (.slice (some ⟨g, 0, none⟩) n c) L) (hp : 0 < L.length) (x : Int) :
    TO (w.setCell ⟨g, 0, none⟩ (.int .i64 x)) base (.slice (some ⟨g, 0, none⟩) n c) (L.set 0 (x, Y L 0)) := by
  have hn := h.cells.1
  subst hn
  have h1 := (World.ownsRow.stored (g := g) (cap := c) h 0 (.int .i64 x)).1
  cases L with
  | nil => simp at hp
  | cons d L =>
    unfold TO
    simpa [flatC, Y] using h1
set_option maxHeartbeats 4000000 in
theorem c_l20Tasks (base r p n : Nat) (w : World) (h : Rd w base r p) (hp : p ≤ 900000000) (hn1 : 1 ≤ n) (hn2 : n ≤ 1000) :
    Calls Try.prog 44 #[.pointer (some ⟨r, 0, none⟩), .int .i64 n] w fun e w' => ∃ L v, e = .returned v ∧ TO w' w.heap.size v L ∧ L.length ≤ 6 ∧ w.grownBy w' (some r) ∧ ∃ p', p' ≤ p + 30 ∧ Rd w' base r p' := by
  have hrw := h.2.1
  have hbr := h.1
  go_enter Try.func44, Try.ntmps44
  go_wp2_with fail
  have hb0 : Below w.heap.size w ((w.alloc (.cells #[] 27)).alloc (.cells #[.int .i64 3, .int .i64 9] 3)) := by (repeat (first | exact rfl | exact Below.refl _ _ | (with_reducible refine Below.drew ?_) | (with_reducible refine Below.drewN ?_ _) | (with_reducible refine Below.alloc ?_ ?_ _) | (with_reducible refine Below.setCell ?_ ?_ _) | (show _ ≤ _; focus (first | omega | (simp; done) | (simp; omega)))))
  have g0 : w.grownBy ((w.alloc (.cells #[] 27)).alloc (.cells #[.int .i64 3, .int .i64 9] 3)) (some r) := (World.grownBy_alloc _ _ _).trans (World.grownBy_alloc _ _ _)
  have o0 : TO ((w.alloc (.cells #[] 27)).alloc (.cells #[.int .i64 3, .int .i64 9] 3)) w.heap.size (.slice (some ⟨w.heap.size, 0, none⟩) 0 0) [] := (TO.empty w (Nat.le_refl _)).alloc _
  have hz := heap_alloc_new (w.alloc (.cells #[] 27)) (.cells #[.int .i64 3, .int .i64 9] 3)
  rw [World.size_alloc] at hz
  have hz2 : ((w.alloc (.cells #[] 27)).alloc (.cells #[.int .i64 3, .int .i64 9] 3)).heap.size = w.heap.size + 2 := by simp
  refine (c_pickI base r p 2 _ (h.keepB hb0 hrw (by omega)) (by omega) (by omega) (by omega)).mono ?_
  rintro e w3 ⟨x3, hx3, rfl, hg3, hr3⟩
  obtain ⟨hi, hi1, hi2, hcell⟩ : ∃ hi : Nat, 1 ≤ hi ∧ hi ≤ 9 ∧ w3.cell? ⟨w.heap.size + 1, x3, none⟩ = some (.int .i64 hi) := by
    have hq := fun o => cell_of_row _ (w.heap.size + 1) o _ _ _ hz
    rcases (show x3 = 0 ∨ x3 = 1 by omega) with rfl | rfl
    · exact ⟨3, by omega, by omega, hg3.cell (hq 0) (by simp; omega)⟩
    · exact ⟨9, by omega, by omega, hg3.cell (hq 1) (by simp; omega)⟩
  have g3 := g0.trans hg3
  have o3 := o0.grownR hg3 (fun b e => by cases e; exact hrw)
  clear g0 o0 hg3 h hb0 hz
  have p0 : (x3 : Int) < 2 := hx3
  go_wp2_with fail
  refine (c_pickI base r (p + 1) 5 _ hr3 (by omega) (by omega) (by omega)).mono ?_
  rintro e w4 ⟨x4, hx4, rfl, hg4, hr4⟩
  have g4 := g3.trans hg4
  have o4 := o3.grownR hg4 (fun b e => by cases e; exact hrw)
  clear g3 o3 hg4 hr3 hcell
  go_wp2_with fail
  go_loopw [5, 7] (fun lv kv wr => ∃ (L : List (Int × Int)) (p' k : Nat), kv = .int .i64 k ∧ L.length + k ≤ 5 ∧ 1 ≤ L.length + k ∧ p' + 2 * k ≤ p + 20 ∧ TO wr w.heap.size lv L ∧ w.grownBy wr (some r) ∧ Rd wr base r p')
    (fun _ kv _ => (intOf kv).toNat)
  case atStart => exact ⟨[], p + 2, x4 + 1, by go_num, by simp; omega, by simp, by omega, o4, g4, hr4⟩
  case round =>
    obtain ⟨L, p', k, rfl, hLk, hL1, hp', hown, hgr, hrd⟩ := hrel
    by_cases hk : 0 < k
    · have hsr := hgr.size
      go_wp2_with fail
      refine (c_pickI base r p' _ _ hrd (by omega) (by omega) (by omega)).mono ?_
      rintro e w5 ⟨x5, hx5, rfl, hg5, hr5⟩
      have g5 := hgr.trans hg5
      have o5 := hown.grownR hg5 (fun b e => by cases e; exact hrw)
      have hs5 := g5.size
      clear hgr hown hg5 hrd
      have HP := Lib.hid (c_pickI base r (p' + 1) ((hi : Int) + 1) w5 hr5 (by omega) (by omega) (by omega))
      go_wp2_with fail
      refine HP.out.mono ?_
      rintro e w6 ⟨x6, hx6, rfl, hg6, hr6⟩
      have g6 := g5.trans hg6
      have o6 := o5.grownR hg6 (fun b e => by cases e; exact hrw)
      have hs6 := g6.size
      clear g5 o5 hg6 hr5 HP
      go_wp2_with (refine app_T (by rfl) (.tmp 21) (.tmp 31) (by rfl) w.heap.size u5 L (1 + (x5 : Int)) (x6 : Int) w6.heap.size (by rfl) (o6.alloc _) (by rfl) (heap_alloc_new _ _) (by omega) (by simp; omega) ?_; intro g cap w7 hown7 hgr7 hb7)
      have hb7' : Below w.heap.size w6 w7 := Below.trans (by (repeat (first | exact rfl | exact Below.refl _ _ | (with_reducible refine Below.drew ?_) | (with_reducible refine Below.drewN ?_ _) | (with_reducible refine Below.alloc ?_ ?_ _) | (with_reducible refine Below.setCell ?_ ?_ _) | (show _ ≤ _; focus (first | omega | (simp; done) | (simp; omega)))))) hb7
      go_roundw
      case rel => exact ⟨L ++ [(1 + (x5 : Int), (x6 : Int))], p' + 1 + 1, k - 1, by go_num, by simp; omega, by simp; omega, by omega, hown7, grown_thenB g6 hb7', hr6.keepB hb7' hrw (by omega)⟩
      case measure => simp [intOf]; omega
    · go_wp2_with fail
      refine (c_odd base r p' n _ hrd (by omega) hn1 hn2).mono ?_
      rintro e w5 ⟨bo, rfl, hg5, hr5⟩
      have g5 := hgr.trans hg5
      have o5 := hown.grownR hg5 (fun b e => by cases e; exact hrw)
      have hs5 := g5.size
      clear hgr hown hg5 hrd o4 g4 hr4
      cases bo with
      | false =>
        go_wp2_with fail
        go_ret
        exact ⟨L, _, rfl, o5, by omega, g5, _, by omega, hr5⟩
      | true =>
        go_wp2_with fail
        refine (c_pickI base r (p' + 1) _ _ hr5 (by omega) (by omega) (by omega)).mono ?_
        rintro e w6 ⟨x6, hx6, rfl, hg6, hr6⟩
        have g6 := g5.trans hg6
        have o6 := o5.grownR hg6 (fun b e => by cases e; exact hrw)
        have hs6 := g6.size
        clear g5 o5 hg6 hr5
        rcases (show x6 = 0 ∨ x6 = 1 ∨ x6 = 2 by omega) with rfl | rfl | rfl
        · go_wp2_with fail
          go_ret
          refine ⟨[], _, rfl, TO.empty w6 hs6, by simp, ?_, p' + 2, by omega, ?_⟩
          · exact grown_thenB g6 (by (repeat (first | exact rfl | exact Below.refl _ _ | (with_reducible refine Below.drew ?_) | (with_reducible refine Below.drewN ?_ _) | (with_reducible refine Below.alloc ?_ ?_ _) | (with_reducible refine Below.setCell ?_ ?_ _) | (show _ ≤ _; focus (first | omega | (simp; done) | (simp; omega))))))
          · exact hr6.keepB (B := w6.heap.size) (by (repeat (first | exact rfl | exact Below.refl _ _ | (with_reducible refine Below.drew ?_) | (with_reducible refine Below.drewN ?_ _) | (with_reducible refine Below.alloc ?_ ?_ _) | (with_reducible refine Below.setCell ?_ ?_ _) | (show _ ≤ _; focus (first | omega | (simp; done) | (simp; omega)))))) (by omega) (by omega)
        · have hlp : 0 < L.length := by omega
          obtain ⟨gb, c, rfl, hgb1, hgb2⟩ := World.ownsRow.form o6 hlp
          obtain ⟨-, cs, fz⟩ := o6.cells
          have c0 := (cs 0 hlp).1
          rw [Nat.zero_mul] at c0
          have f0 := fz 0
          have o7 := o6.storeX hlp 0
          have hb7 : Below w.heap.size w6 (w6.setCell ⟨gb, 0, none⟩ (.int .i64 0)) := (Below.refl _ _).setCell (p := ⟨gb, 0, none⟩) hgb1 _
          have hl0 : (0 : Int) < (L.length : Int) := by omega
          clear cs fz
          go_wp2_with fail
          go_ret
          exact ⟨L.set 0 (0, Y L 0), _, rfl, by simpa using o7, by simp; omega, grown_thenB g6 hb7, p' + 2, by omega, hr6.keepB hb7 hrw (by omega)⟩
        · go_wp2_with (refine app_T (by rfl) (.tmp 38) (.tmp 40) (by rfl) w.heap.size u5 L 1 10 w6.heap.size (by rfl) (o6.alloc _) (by rfl) (heap_alloc_new _ _) (by omega) (by simp; omega) ?_; intro g cap w7 hown7 hgr7 hb7)
          go_ret
          have hb7' : Below w.heap.size w6 w7 := Below.trans (by (repeat (first | exact rfl | exact Below.refl _ _ | (with_reducible refine Below.drew ?_) | (with_reducible refine Below.drewN ?_ _) | (with_reducible refine Below.alloc ?_ ?_ _) | (with_reducible refine Below.setCell ?_ ?_ _) | (show _ ≤ _; focus (first | omega | (simp; done) | (simp; omega)))))) hb7
          exact ⟨L ++ [(1, 10)], _, rfl, by simpa [TO] using hown7, by simp; omega, grown_thenB g6 hb7', p' + 2, by omega, hr6.keepB hb7' hrw (by omega)⟩

end Go.Proofs.Ytckebkaaokfonaa

