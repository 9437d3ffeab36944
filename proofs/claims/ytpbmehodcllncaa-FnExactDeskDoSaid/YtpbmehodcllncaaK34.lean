/- spec.l12Made (ahead of the landing) -/
import Derived.Test.YtpbmehodcllncaaS7
import Derived.Test.YtpbmehodcllncaaK33
namespace Go.Proofs.Ytpbmehodcllncaa
set_option linter.unusedVariables false
open Go.RowKit
attribute [local go_sem ↓] Go.wp_at_zero Go.wp_at_succ

theorem made_0 (L : List (Int × Int)) (a b : Int) : madeV L ⟨0, a, b⟩ = (L ++ [(a, b)], cOk (L ++ [(a, b)])) := by rw [madeV, if_pos rfl]
theorem made_go {L : List (Int × Int)} (h : 0 < L.length) : madeV L ⟨1, 0, 0⟩ = (L.take (L.length - 1), true) := by rw [madeV, if_neg (by simp), if_pos ⟨rfl, h⟩]
theorem made_2 (L : List (Int × Int)) (a : Int) : madeV L ⟨2, a, 0⟩ = (moreR L a, moreOk L a) := by rw [madeV, if_neg (by simp), if_neg (by simp), if_pos ⟨rfl, rfl⟩]
theorem made_3 {L : List (Int × Int)} {a : Int} (ha : 0 < a) (h : 0 < L.length) : madeV L ⟨3, a, 0⟩ = (laterR L a, laterOk L a) := by rw [madeV, if_neg (by simp), if_neg (by simp), if_neg (by simp), if_pos ⟨rfl, rfl, ha, h⟩]
theorem made_no {L : List (Int × Int)} {k a b : Int} (h0 : k ≠ 0) (h1 : ¬ ((k = 1 ∧ a = 0 ∧ b = 0) ∧ 0 < L.length)) (h2 : ¬ (k = 2 ∧ b = 0)) (h3 : ¬ (k = 3 ∧ b = 0 ∧ 0 < a ∧ 0 < L.length)) : madeV L ⟨k, a, b⟩ = (L, false) := by
  rw [madeV, if_neg h0, if_neg (by simpa using h1), if_neg h2, if_neg h3]

theorem heap_newK (w : World) (o p : Obj) : ((w.alloc o).alloc p).heap[w.heap.size + 1]? = some p := by
  have h := heap_alloc_new (w.alloc o) p
  rwa [show (w.alloc o).heap.size = w.heap.size + 1 by simp] at h
def MadeP (L : List (Int × Int)) (d : DV) (w : World) (e : Ending) (w' : World) : Prop :=
  ∃ v, e = .returned (.tuple #[v, .bool (madeV L d).2]) ∧ ((madeV L d).2 = true → CO w' w.heap.size v (madeV L d).1) ∧ Below w.heap.size w w'

set_option maxRecDepth 8000 in
set_option maxHeartbeats 8000000 in
theorem c_sMadeCome (L : List (Int × Int)) (A : Option Addr) (c : Nat) (a b : Int) (w : World) (hA : Cs w w.heap.size A L) (hok : cOk L = true) :
    Calls Try.prog 54 #[.slice A L.length c, .agg #[.int .i64 0, .int .i64 a, .int .i64 b]] w (MadeP L ⟨0, a, b⟩ w) := by
  have hlen := cOk_len hok
  have HM := Lib.hid (made_0 L a b)
  have c0 := World.cell?_alloc_mark w #[.int .i64 0, .int .i64 a, .int .i64 b] 40 (0, 0) 0
  have c1 := World.cell?_alloc_mark w #[.int .i64 0, .int .i64 a, .int .i64 b] 40 (0, 0) 1
  have c2 := World.cell?_alloc_mark w #[.int .i64 0, .int .i64 a, .int .i64 b] 40 (0, 0) 2
  obtain ⟨w1, hw1⟩ : ∃ w1, w.alloc (.cells #[.int .i64 0, .int .i64 a, .int .i64 b] 40) = w1 := ⟨_, rfl⟩
  have hb1 : Below w.heap.size w w1 := by rw [← hw1]; exact (Below.refl _ w).alloc (Nat.le_refl _) _
  have hz1 : w.heap.size < w1.heap.size := by rw [← hw1]; simp
  rw [hw1] at c0 c1 c2
  have HR := Lib.hid (fun (w' : World) (hb : Below w1.heap.size w1 w') => show w'.cell? ⟨w.heap.size, 1, none⟩ = some (.int .i64 a) ∧ w'.cell? ⟨w.heap.size, 2, none⟩ = some (.int .i64 b) from ⟨(hb.cell (p := ⟨w.heap.size, 1, none⟩) hz1).trans c1, (hb.cell (p := ⟨w.heap.size, 2, none⟩) hz1).trans c2⟩)
  have hA1 := hA.below hb1
  clear hok
  go_enter Try.func54, Try.ntmps54
  go_wp2_with fail
  clear hw1
  have hd0 : Below w1.heap.size w1 w1.drew := (Below.refl _ w1).drew
  refine Code.wp_mono (Q := fun e a' W => e = .normal ∧ ∃ (t11 t13 t19 : Value) (g cc : Nat) , a' = { tmps := #[.slice A L.length c, .agg #[.int .i64 0, .int .i64 a, .int .i64 b], undef, .pointer (some ⟨w.heap.size, 0, none⟩), .slice none 0 0, .bool false, .slice (some ⟨g, 0, none⟩) (L.length + 1) cc, .bool true, .pointer (some ⟨w.heap.size, 0, none⟩), .int .i64 0, .bool true, t11, .slice A L.length c, t13, .pointer (some ⟨w.heap.size, 1, none⟩), .int .i64 a, .pointer (some ⟨w.heap.size, 2, none⟩), .int .i64 b, .agg #[.int .i64 a, .int .i64 b], t19, .slice (some ⟨g, 0, none⟩) (L.length + 1) cc, undef, undef, undef, undef, undef, undef, undef, undef, undef, undef, undef, undef, undef, undef, undef, undef, undef, undef, undef, undef, undef, undef, undef, undef, undef, undef, undef, undef, undef, undef, undef, undef, undef, undef, undef, undef, undef, undef, undef, undef, undef, undef, undef, undef, undef, undef, undef, undef, undef, undef, undef, undef, undef, undef, undef, undef, undef, undef, undef, undef], defers := [] } ∧
    CO W w1.heap.size (.slice (some ⟨g, 0, none⟩) (L.length + 1) cc) (L ++ [(a, b)]) ∧ Below w1.heap.size w1 W) ?imp ?reg
  case reg =>
    go_region_held3 (fun w' => w'.cell? ⟨w.heap.size, 1, none⟩ = some (.int .i64 a) ∧ w'.cell? ⟨w.heap.size, 2, none⟩ = some (.int .i64 b))
      (first
        | go_keep
        | exact HR.out _ (hd0.alloc (Nat.le_refl _) _)
        | exact HR.out _ ((hd0.alloc (Nat.le_refl _) _).alloc (by simp) _)
        | exact HR.out _ hx6
        | exact HR.out _ (hx6.alloc hx6.size _)
        | exact HR.out _ hx7)
      (first
        | (refine step_KC (by rfl) (.tmp 11) (.tmp 12) (by rfl) w1.heap.size (.slice (some ⟨w1.heap.size, 0, none⟩) 0 0) [] L A c w.heap.size L.length L.length (by rfl) (by first | exact CO.empty w1.drew (Nat.le_refl _) | exact (CO.empty w1.drew (Nat.le_refl _)).alloc _) (by rfl) (by rfl) (by simp) (hA1.below (by first | exact ((hd0.alloc (Nat.le_refl _) _).mono (by omega)) | exact (((hd0.alloc (Nat.le_refl _) _).alloc (by simp) _).mono (by omega)))) (by omega) (by first | (simp; done) | (simp; omega)) ?_; intro G6 c6 w6 o6 hgr6 hb6; rw [List.nil_append] at o6; have hgr6 : World.grownBy _ w6 (some (w1.heap.size)) := hgr6; have hx6 : Below w1.heap.size w1 w6 := (by first | exact (hd0.alloc (Nat.le_refl _) _).trans hb6 | exact ((hd0.alloc (Nat.le_refl _) _).alloc (by simp) _).trans hb6))
        | (refine step_KC (by rfl) (.tmp 11) (.tmp 12) (by rfl) w1.heap.size (.slice (some ⟨w1.heap.size + 1, 0, none⟩) 0 0) [] L A c w.heap.size L.length L.length (by rfl) (by have K := CO.empty (w1.drew.alloc (.cells #[.int .i64 a, .int .i64 b] 30)) (base := w1.heap.size) (by simp); rw [World.size_alloc] at K; exact K) (by rfl) (by rfl) (by simp) (hA1.below (by first | exact ((hd0.alloc (Nat.le_refl _) _).mono (by omega)) | exact (((hd0.alloc (Nat.le_refl _) _).alloc (by simp) _).mono (by omega)))) (by omega) (by first | (simp; done) | (simp; omega)) ?_; intro G6 c6 w6 o6 hgr6 hb6; rw [List.nil_append] at o6; have hgr6 : World.grownBy _ w6 (some (w1.heap.size + 1)) := hgr6; have hx6 : Below w1.heap.size w1 w6 := (by first | exact (hd0.alloc (Nat.le_refl _) _).trans hb6 | exact ((hd0.alloc (Nat.le_refl _) _).alloc (by simp) _).trans hb6))
        | (refine step_C (by rfl) (.tmp 13) (.tmp 19) (by rfl) w1.heap.size (.slice G6 L.length c6) L a b w6.heap.size (by rfl) (o6.alloc _) (by rfl) (heap_alloc_new _ _) (by omega) (by have := hx6.size; simp; omega) ?_; intro g7 c7 w7 o7 hgr7 hb7; have hx7 : Below w1.heap.size w1 w7 := (hx6.alloc hx6.size _).trans hb7)
        | (refine step_C (by rfl) (.tmp 13) (.tmp 19) (by rfl) w1.heap.size (.slice G6 L.length c6) L a b (w1.heap.size + 1) (by rfl) o6 (by rfl) ((hgr6.block (w1.heap.size + 1) (by simp) (by simp)).trans (heap_newK w1 _ _)) (by omega) hx6.size ?_; intro g7 c7 w7 o7 hgr7 hb7; have hx7 : Below w1.heap.size w1 w7 := hx6.trans hb7)
        | (refine step_C (by rfl) (.tmp 13) (.tmp 19) (by rfl) w1.heap.size (.slice G6 L.length c6) L a b w1.heap.size (by rfl) o6 (by rfl) ((hgr6.block w1.heap.size (by simp; omega) (by simp)).trans ((Below.heap_alloc _ _ _ (by simp)).trans (heap_alloc_new w1 _))) (by omega) hx6.size ?_; intro g7 c7 w7 o7 hgr7 hb7; have hx7 : Below w1.heap.size w1 w7 := hx6.trans hb7))
    all_goals exact ⟨rfl, _, _, _, _, _, rfl, o7, hx7⟩
  case imp =>
    rintro e a' W2 ⟨rfl, t11, t13, t19, g, cc, rfl, o2, hx2⟩
    have hsz := hx2.size
    have hbw : Below w.heap.size w W2 := hb1.trans (hx2.mono (by omega))
    have hcs := o2.isOf.2
    have HC := Lib.hid (show Calls Try.prog 47 #[.slice (some ⟨g, 0, none⟩) (L.length + 1) cc] W2 fun e w' => e = .returned (.bool (cOk (L ++ [(a, b)]))) ∧ Below W2.heap.size W2 w' from by
      have K := c_sCustomersOk (L ++ [(a, b)]) (some ⟨g, 0, none⟩) cc W2 hcs (by simp; omega)
      rw [List.length_append, List.length_singleton] at K
      exact K)
    clear HR c0 c1 c2 hcs
    go_wp2_with fail
    refine HC.out.mono ?_
    rintro e w3 ⟨rfl, hb3⟩
    go_wp2_with fail
    go_ret2
    refine ⟨_, by rw [HM.out]; rfl, fun _ => ?_, hbw.trans (hb3.mono (by omega))⟩
    rw [HM.out]
    exact (o2.below hb3 (Nat.le_refl _)).mono (by omega)

set_option maxRecDepth 8000 in
set_option maxHeartbeats 8000000 in
theorem c_sMade (L : List (Int × Int)) (A : Option Addr) (c : Nat) (k a b : Int) (w : World) (hA : Cs w w.heap.size A L) (hcap : L.length ≤ c) (hok : cOk L = true) :
    Calls Try.prog 54 #[.slice A L.length c, .agg #[.int .i64 k, .int .i64 a, .int .i64 b]] w (MadeP L ⟨k, a, b⟩ w) := by
  by_cases k0 : k = 0
  · subst k0; exact c_sMadeCome L A c a b w hA hok
  have e0 : (k == 0) = false := beq_eq_false_iff_ne.2 k0
  have hlen := cOk_len hok
  have c0 := World.cell?_alloc_mark w #[.int .i64 k, .int .i64 a, .int .i64 b] 40 (0, 0) 0
  have c1 := World.cell?_alloc_mark w #[.int .i64 k, .int .i64 a, .int .i64 b] 40 (0, 0) 1
  have c2 := World.cell?_alloc_mark w #[.int .i64 k, .int .i64 a, .int .i64 b] 40 (0, 0) 2
  obtain ⟨w1, hw1⟩ : ∃ w1, w.alloc (.cells #[.int .i64 k, .int .i64 a, .int .i64 b] 40) = w1 := ⟨_, rfl⟩
  have hb1 : Below w.heap.size w w1 := by rw [← hw1]; exact (Below.refl _ w).alloc (Nat.le_refl _) _
  have hz1 : w.heap.size < w1.heap.size := by rw [← hw1]; simp
  rw [hw1] at c0 c1 c2
  have hA1 := hA.below hb1
  by_cases hgo : k = 1 ∧ a = 0 ∧ b = 0
  · obtain ⟨rfl, rfl, rfl⟩ := hgo
    by_cases hp : 0 < L.length
    · have HM := Lib.hid (made_go hp)
      have p1 : (0 : Int) < (L.length : Int) := by omega
      have p2 : (1 : Int) ≤ (L.length : Int) := by omega
      have p3 : (0 : Int) ≤ (L.length : Int) - 1 := by omega
      have p4 : ((L.length : Int) - 1).toNat = L.length - 1 := by omega
      have p5 : (L.length : Int) - 1 ≤ (c : Int) := by omega
      have q1 : IntKind.i64.wrap ((L.length : Int) - 1) = (L.length : Int) - 1 := IntWalk.i64_in _ (by omega)
      have q3 : Below w1.heap.size w1 (w1.alloc (.cells #[] 30)) := (Below.refl _ w1).alloc (Nat.le_refl _) _
      have hz3 : w1.heap.size < (w1.alloc (.cells #[] 30)).heap.size := by simp
      have hN2 := (hA1.below (q3.mono (by omega))).take (L.length - 1)
      have htl : (L.take (L.length - 1)).length = L.length - 1 := by rw [List.length_take]; omega
      clear hok
      go_enter Try.func54, Try.ntmps54
      go_wp2_with (refine app_KC ?_ (.tmp 33) (.tmp 38) ?_ w1.heap.size (.slice (some ⟨w1.heap.size, 0, none⟩) 0 0) [] (L.take (L.length - 1)) A c w.heap.size (L.length - 1) (L.length - 1) ?_ ?_ ?_ ?_ ?_ ?_ ?_ ?_ ?_; rfl; rfl; rfl; exact (CO.empty w1 (Nat.le_refl _)); rfl; exact htl; (simp); exact hN2; omega; exact (Nat.le_of_lt hz3); intro G2 c2' w2 o2 hgr2 hb2)
      go_ret2
      rw [List.nil_append] at o2
      exact ⟨_, by rw [HM.out]; rfl, fun _ => by rw [HM.out]; exact o2.mono (Nat.le_of_lt hz1), hb1.trans ((q3.trans hb2).mono (Nat.le_of_lt hz1))⟩
    · have HM := Lib.hid (made_no (L := L) (k := 1) (a := 0) (b := 0) (by omega) (fun h => hp h.2) (by omega) (by omega))
      have p1 : ¬ (0 : Int) < (L.length : Int) := by omega
      clear hp
      clear hok
      go_enter Try.func54, Try.ntmps54
      go_wp2_with fail
      go_ret2
      refine ⟨_, by rw [HM.out]; rfl, ?_, hb1⟩
      intro h
      rw [HM.out] at h; cases h
  · by_cases k2 : k = 2
    · subst k2
      by_cases hb : b = 0
      · subst hb
        have HM := Lib.hid (made_2 L a)
        clear hgo
        have HC := Lib.hid (c_sNeedingMore L A c a w1 ((hA1).more (Nat.le_of_lt hz1)) (by omega))
        clear hok
        go_enter Try.func54, Try.ntmps54
        go_wp2_with fail
        refine HC.out.mono ?_
        rintro e w2 ⟨v, rfl, o2, hb2⟩
        simp only [laterV]
        go_wp2_with fail
        go_ret2
        exact ⟨_, by rw [HM.out]; rfl, fun _ => by rw [HM.out]; exact o2.mono (Nat.le_of_lt hz1), hb1.trans (hb2.mono (Nat.le_of_lt hz1))⟩
      · have eb : (b == 0) = false := beq_eq_false_iff_ne.2 hb
        have HM := Lib.hid (made_no (L := L) (k := 2) (a := a) (b := b) (by omega) (fun h => hgo h.1) (by omega) (by omega))
        clear hgo
        clear hok
        go_enter Try.func54, Try.ntmps54
        go_wp2_with fail
        go_ret2
        refine ⟨_, by rw [HM.out]; rfl, ?_, hb1⟩
        intro h
        rw [HM.out] at h; cases h
    · have e2 : (k == 2) = false := beq_eq_false_iff_ne.2 k2
      by_cases k3 : k = 3
      · subst k3
        by_cases hb : b = 0
        · subst hb
          by_cases ha : 0 < a
          · by_cases hp : 0 < L.length
            · have HM := Lib.hid (made_3 ha hp)
              have p1 : (0 : Int) < (L.length : Int) := by omega
              clear hgo
              have HC := Lib.hid (c_sLaterBy L A c a w1 ((hA1).more (Nat.le_of_lt hz1)) (by omega))
              clear hok
              go_enter Try.func54, Try.ntmps54
              go_wp2_with fail
              refine HC.out.mono ?_
              rintro e w2 ⟨v, rfl, o2, hb2⟩
              simp only [laterV]
              go_wp2_with fail
              go_ret2
              exact ⟨_, by rw [HM.out]; rfl, fun _ => by rw [HM.out]; exact o2.mono (Nat.le_of_lt hz1), hb1.trans (hb2.mono (Nat.le_of_lt hz1))⟩
            · have HM := Lib.hid (made_no (L := L) (k := 3) (a := a) (b := 0) (by omega) (fun h => hgo h.1) (by omega) (by omega))
              have p1 : ¬ (0 : Int) < (L.length : Int) := by omega
              clear hgo
              clear hok
              go_enter Try.func54, Try.ntmps54
              go_wp2_with fail
              go_ret2
              refine ⟨_, by rw [HM.out]; rfl, ?_, hb1⟩
              intro h
              rw [HM.out] at h; cases h
          · have HM := Lib.hid (made_no (L := L) (k := 3) (a := a) (b := 0) (by omega) (fun h => hgo h.1) (by omega) (by omega))
            clear hgo
            clear hok
            go_enter Try.func54, Try.ntmps54
            go_wp2_with fail
            go_ret2
            refine ⟨_, by rw [HM.out]; rfl, ?_, hb1⟩
            intro h
            rw [HM.out] at h; cases h
        · have eb : (b == 0) = false := beq_eq_false_iff_ne.2 hb
          have HM := Lib.hid (made_no (L := L) (k := 3) (a := a) (b := b) (by omega) (fun h => hgo h.1) (by omega) (by omega))
          clear hgo
          clear hok
          go_enter Try.func54, Try.ntmps54
          go_wp2_with fail
          go_ret2
          refine ⟨_, by rw [HM.out]; rfl, ?_, hb1⟩
          intro h
          rw [HM.out] at h; cases h
      · have e3 : (k == 3) = false := beq_eq_false_iff_ne.2 k3
        have HM := Lib.hid (made_no (L := L) (k := k) (a := a) (b := b) k0 (fun h => hgo h.1) (by omega) (by omega))
        clear hok
        go_enter Try.func54, Try.ntmps54
        go_wp2_with fail
        all_goals
          go_ret2
          refine ⟨_, by rw [HM.out]; rfl, ?_, hb1⟩
          intro h
          rw [HM.out] at h; cases h

end Go.Proofs.Ytpbmehodcllncaa

