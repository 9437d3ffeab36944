/- Chapter 12's functions of the program: what a deed changes, DeskDo, DeskRun. -/
import Derived.Test.YtpbmehodcllncaaU27
import Derived.Test.YtpbmehodcllncaaO8
namespace Go.Proofs.Ytpbmehodcllncaa
set_option linter.unusedVariables false
open Go.RowKit
attribute [local go_sem ↓] Go.wp_at_zero Go.wp_at_succ

set_option maxRecDepth 8000 in
set_option maxHeartbeats 4000000 in
theorem c_withBehind (D : KV) (vn vp : Value) (a b : Int) (w : World) (hK : Ks w w.heap.size vn vp D) (hs : SmallK D) :
    Calls Try.prog 84 #[.agg #[vn, vp], .agg #[.int .i64 a, .int .i64 b]] w (MadeP D.now ⟨0, a, b⟩ w) := by
  obtain ⟨⟨An, cn, rfl, hcn, hN⟩, Ap, cp, rfl, -, -⟩ := hK
  have hs1 := hs.1
  have HM := Lib.hid (made_0 D.now a b)
  have HC := Lib.hid (fun (W : World) (hb : Below w.heap.size w W) => c_cloneC D.now An cn W ((hN.below hb).more hb.size) (by omega))
  have hl : (D.now ++ [(a, b)]).length = D.now.length + 1 := by simp
  have HKO := Lib.hid (fun (g c2 : Nat) (W : World) (hI : Cs W W.heap.size (some ⟨g, 0, none⟩) (D.now ++ [(a, b)])) => show Calls Try.prog 20 #[.slice (some ⟨g, 0, none⟩) (D.now.length + 1) c2] W fun e w' => e = .returned (.bool (cOk (D.now ++ [(a, b)]))) ∧ Below W.heap.size W w' from by
    have K := c_iCustomersOk (D.now ++ [(a, b)]) (some ⟨g, 0, none⟩) c2 W hI (by omega)
    rwa [hl] at K)
  obtain ⟨w0, hw0⟩ : ∃ w0, (w.alloc (.cells #[.slice An D.now.length cn, .slice Ap D.past.length cp] 26)).alloc (.cells #[.int .i64 a, .int .i64 b] 30) = w0 := ⟨_, rfl⟩
  have hz0 : w0.heap.size = w.heap.size + 2 := by rw [← hw0]; simp
  have hb0 : Below w.heap.size w w0 := by rw [← hw0]; exact ((Below.refl _ w).alloc (Nat.le_refl _) _).alloc (by simp) _
  have bD : w0.heap[w.heap.size]? = some (.cells #[.slice An D.now.length cn, .slice Ap D.past.length cp] 26 (0, 0)) := by rw [← hw0]; exact (Below.heap_alloc _ _ _ (by simp)).trans (heap_alloc_new _ _)
  have bC : w0.heap[w.heap.size + 1]? = some (.cells #[.int .i64 a, .int .i64 b] 30 (0, 0)) := by rw [← hw0]; exact heap_newK _ _ _
  have HS := Lib.hid (fun (W : World) (hb : Below w0.heap.size w0 W) => show W.cell? ⟨w.heap.size, 0, none⟩ = some (.slice An D.now.length cn) ∧ W.cell? ⟨w.heap.size + 1, 0, none⟩ = some (.int .i64 a) ∧ W.cell? ⟨w.heap.size + 1, 1, none⟩ = some (.int .i64 b) from by
    have b1 := (hb.block w.heap.size (by omega)).trans bD
    have b2 := (hb.block (w.heap.size + 1) (by omega)).trans bC
    exact ⟨cell_of_row _ w.heap.size 0 _ _ _ b1, cell_of_row _ (w.heap.size + 1) 0 _ _ _ b2, cell_of_row _ (w.heap.size + 1) 1 _ _ _ b2⟩)
  have hd0 : Below w0.heap.size w0 w0.drew := (Below.refl _ w0).drew
  have hd1 := hd0.alloc (Nat.le_refl _) (.cells #[.int .i64 a, .int .i64 b] 30)
  obtain ⟨c0, c1, c2⟩ := HS.out _ (Below.refl _ w0)
  have hb0' := Lib.hid (fun (W : World) (h : Below w0.heap.size w0 W) => hb0.trans (h.mono (show w.heap.size ≤ w0.heap.size by omega)))
  have hle0 : w.heap.size + 2 ≤ w0.heap.size := by omega
  clear hN bD bC hz0
  go_enter Try.func84, Try.ntmps84
  go_wp2_with fail
  clear hw0
  go_region_held3 (fun W => W.cell? ⟨w.heap.size, 0, none⟩ = some (.slice An D.now.length cn) ∧ W.cell? ⟨w.heap.size + 1, 0, none⟩ = some (.int .i64 a) ∧ W.cell? ⟨w.heap.size + 1, 1, none⟩ = some (.int .i64 b))
    (first
      | exact HS.out _ hx7
      | exact HS.out _ (hx6.alloc hx6.size _)
      | exact HS.out _ hx6
      | exact HS.out _ hd1
      | go_keep)
    (first
      | (go_at_call 49; refine (HC.out w0.drew (hb0'.out _ hd0)).mono ?_; rintro e w6 ⟨v6, rfl, o6, hb6⟩; obtain ⟨G6, c6, rfl, -, -⟩ := o6.formG; have hx6 : Below w0.heap.size w0 w6 := hd0.trans hb6; have o6 : CO w6 w0.heap.size (.slice G6 D.now.length c6) D.now := o6)
      | (go_at_call 49; refine (HC.out _ (hb0'.out _ hd1)).mono ?_; rintro e w6 ⟨v6, rfl, o6, hb6⟩; obtain ⟨G6, c6, rfl, -, -⟩ := o6.formG; have bX : w6.heap[w0.heap.size]? = some (.cells #[.int .i64 a, .int .i64 b] 30 (0, 0)) := (hb6.block w0.heap.size (by simp)).trans (heap_alloc_new w0.drew _); have hx6 : Below w0.heap.size w0 w6 := hd1.trans (hb6.mono (by simp)); have o6 : CO w6 w0.heap.size (.slice G6 D.now.length c6) D.now := o6.mono (by simp))
      | (refine step_C (by rfl) (.tmp 9) (.tmp 11) (by rfl) w0.heap.size (.slice G6 D.now.length c6) D.now a b w6.heap.size ?_ ?_ ?_ ?_ ?_ ?_ ?_; rfl; exact (o6.alloc _); rfl; exact (heap_alloc_new _ _); omega; (have := hx6.size; simp; omega); intro g7 c7 w7 o7 hgr7 hb7; have hx7 : Below w0.heap.size w0 w7 := (hx6.alloc hx6.size _).trans hb7)
      | (refine step_C (by rfl) (.tmp 9) (.tmp 11) (by rfl) w0.heap.size (.slice G6 D.now.length c6) D.now a b w0.heap.size ?_ ?_ ?_ ?_ ?_ ?_ ?_; rfl; exact o6; rfl; exact bX; omega; exact hx6.size; intro g7 c7 w7 o7 hgr7 hb7; have hx7 : Below w0.heap.size w0 w7 := hx6.trans hb7)
      | fail)
  all_goals
    have hI := o7.isOf.2
    have HK := Lib.hid (HKO.out g7 c7 w7 hI)
    have HO7 := Lib.hid (o7.mono (show w.heap.size ≤ w0.heap.size by omega))
    have HB := Lib.hid (hb0'.out _ hx7)
    clear hI o7 o6 hb6 hb7 hx7 hx6 hd0 hd1
    go_wp2_with fail
    refine HK.out.mono ?_
    rintro e w8 ⟨rfl, hb8⟩
    go_wp2_with fail
    go_ret2
    exact ⟨_, by rw [HM.out]; rfl, fun _ => by rw [HM.out]; exact HO7.out.below hb8 (Nat.le_refl _), HB.out.trans (hb8.mono HB.out.size)⟩

set_option maxHeartbeats 2000000 in
theorem c_withoutLast (D : KV) (vn vp : Value) (w : World) (hK : Ks w w.heap.size vn vp D) (hs : SmallK D) :
    Calls Try.prog 85 #[.agg #[vn, vp]] w (MadeP D.now ⟨1, 0, 0⟩ w) := by
  obtain ⟨⟨An, cn, rfl, hcn, hN⟩, Ap, cp, rfl, -, -⟩ := hK
  have hs1 := hs.1
  obtain ⟨w0, hw0, hz0, hb0, -, hS⟩ := one_box w (.slice An D.now.length cn) (.slice Ap D.past.length cp)
  obtain ⟨c0, c1⟩ := hS _ (Below.refl _ w0)
  clear hS hz0
  by_cases hp : 0 < D.now.length
  · have HM := Lib.hid (made_go hp)
    have p1 : ((D.now.length : Int) == 0) = false := beq_eq_false_iff_ne.2 (by omega)
    have ht : (D.now.take (D.now.length - 1)).length = D.now.length - 1 := by simp
    have HC := Lib.hid (by have K := c_cloneC (D.now.take (D.now.length - 1)) An cn w0 ((Cs_take (hN.below hb0) _).more hb0.size) (by rw [ht]; omega); rw [ht] at K; exact K)
    have p2 : (0 : Int) ≤ (D.now.length : Int) - 1 := by omega
    have p3 : ((D.now.length : Int) - 1).toNat = D.now.length - 1 := by omega
    have p4 : D.now.length - 1 ≤ cn := by omega
    go_enter Try.func85, Try.ntmps85
    go_wp2_with fail
    refine HC.out.mono ?_
    rintro e w1 ⟨v1, rfl, o1, hb1⟩
    go_wp2_with fail
    go_ret2
    exact ⟨_, by rw [HM.out]; rfl, fun _ => by rw [HM.out]; exact o1.mono hb0.size, hb0.trans (hb1.mono hb0.size)⟩
  · have p1 : D.now.length = 0 := by omega
    have HM := Lib.hid (show madeV D.now ⟨1, 0, 0⟩ = (D.now, false) from made_no (by omega) (by omega) (by omega) (by omega))
    have p2 : ((D.now.length : Int) == 0) = true := beq_iff_eq.2 (by omega)
    clear p1
    go_enter Try.func85, Try.ntmps85
    go_wp2_with fail
    go_ret2
    exact ⟨.slice none 0 0, by rw [HM.out]; rfl, (fun h => by rw [HM.out] at h; cases h), hb0⟩

set_option maxHeartbeats 2000000 in
theorem c_withLater (D : KV) (vn vp : Value) (a : Int) (w : World) (hK : Ks w w.heap.size vn vp D) (hs : SmallK D) :
    Calls Try.prog 87 #[.agg #[vn, vp], .int .i64 a] w (MadeP D.now ⟨3, a, 0⟩ w) := by
  obtain ⟨⟨An, cn, rfl, hcn, hN⟩, Ap, cp, rfl, -, -⟩ := hK
  have hs1 := hs.1
  obtain ⟨w0, hw0, hz0, hb0, -, hS⟩ := one_box w (.slice An D.now.length cn) (.slice Ap D.past.length cp)
  obtain ⟨c0, c1⟩ := hS _ (Below.refl _ w0)
  clear hS hz0
  have HC := Lib.hid (c_iLaterBy D.now An cn a w0 ((hN.below hb0).more hb0.size) (by omega))
  by_cases hp : 0 < D.now.length
  · have p1 : ((D.now.length : Int) == 0) = false := beq_eq_false_iff_ne.2 (by omega)
    by_cases ha : a = 0
    · subst ha
      have HM := Lib.hid (show madeV D.now ⟨3, 0, 0⟩ = (D.now, false) from made_no (by omega) (by omega) (by omega) (by omega))
      go_enter Try.func87, Try.ntmps87
      go_wp2_with fail
      go_ret2
      exact ⟨.slice none 0 0, by rw [HM.out]; rfl, (fun h => by rw [HM.out] at h; cases h), hb0⟩
    · have p2 : (a == 0) = false := beq_eq_false_iff_ne.2 ha
      have HM := Lib.hid (show (madeV D.now ⟨3, a, 0⟩).2 = laterOk D.now a ∧ (laterOk D.now a = true → (madeV D.now ⟨3, a, 0⟩).1 = laterR D.now a) by
        by_cases h0 : 0 < a
        · rw [made_3 h0 hp]; exact ⟨rfl, fun _ => rfl⟩
        · have e : laterOk D.now a = false := by
            cases e : laterOk D.now a with
            | false => rfl
            | true => have := (laterOk_parts e).2.1; omega
          rw [made_no (by omega) (by omega) (by omega) (by omega), e]
          exact ⟨rfl, fun h => by cases h⟩)
      go_enter Try.func87, Try.ntmps87
      go_wp2_with fail
      refine HC.out.mono ?_
      rintro e w1 ⟨v1, rfl, o1, hb1⟩
      rw [laterV]
      go_wp2_with fail
      go_ret2
      exact ⟨_, by rw [HM.out.1]; rfl, fun h => by rw [HM.out.2 (by rw [← HM.out.1]; exact h)]; exact o1.mono hb0.size, hb0.trans (hb1.mono hb0.size)⟩
  · have p1 : D.now.length = 0 := by omega
    have HM := Lib.hid (show madeV D.now ⟨3, a, 0⟩ = (D.now, false) from made_no (by omega) (by omega) (by omega) (by omega))
    have p2 : ((D.now.length : Int) == 0) = true := beq_iff_eq.2 (by omega)
    clear p1
    go_enter Try.func87, Try.ntmps87
    go_wp2_with fail
    go_ret2
    exact ⟨.slice none 0 0, by rw [HM.out]; rfl, (fun h => by rw [HM.out] at h; cases h), hb0⟩

set_option maxHeartbeats 4000000 in
theorem c_changedBy (D : KV) (vn vp : Value) (k a b : Int) (w : World) (hK : Ks w w.heap.size vn vp D) (hs : SmallK D) (hf : formOk k a b = true) (h4 : k ≠ 4) :
    Calls Try.prog 75 #[.agg #[vn, vp], .agg #[.int .i64 k, .int .i64 a, .int .i64 b]] w (MadeP D.now ⟨k, a, b⟩ w) := by
  have hcs : k = 0 ∨ (k = 1 ∧ a = 0 ∧ b = 0) ∨ (k = 2 ∧ b = 0) ∨ (k = 3 ∧ b = 0) := by
    simp only [formOk, Bool.or_eq_true, Bool.and_eq_true, decide_eq_true_eq] at hf
    omega
  clear hf h4
  have hbx : ∀ x : Int, Below w.heap.size w ((w.alloc (.cells #[vn, vp] 26)).alloc (.cells #[.int .i64 x, .int .i64 a, .int .i64 b] 40)) := fun x => ((Below.refl _ w).alloc (Nat.le_refl _) _).alloc (by simp) _
  rcases hcs with rfl | ⟨rfl, rfl, rfl⟩ | ⟨rfl, rfl⟩ | ⟨rfl, rfl⟩
  · have HC := Lib.hid (fun (W : World) (hb : Below w.heap.size w W) => c_withBehind D vn vp a b W ((hK.below hb).more hb.size) hs)
    clear hK hs
    go_enter Try.func75, Try.ntmps75
    go_wp2_with fail
    refine (HC.out _ (hbx _)).mono ?_
    rintro e w1 ⟨v1, rfl, o1, hb1⟩
    go_wp2_with fail
    go_ret2
    have hy := hbx 0
    exact ⟨_, rfl, fun h => (o1 h).mono hy.size, hy.trans (hb1.mono hy.size)⟩
  · have HC := Lib.hid (fun (W : World) (hb : Below w.heap.size w W) => c_withoutLast D vn vp W ((hK.below hb).more hb.size) hs)
    clear hK hs
    go_enter Try.func75, Try.ntmps75
    go_wp2_with fail
    refine (HC.out _ (hbx _)).mono ?_
    rintro e w1 ⟨v1, rfl, o1, hb1⟩
    go_wp2_with fail
    go_ret2
    have hy := hbx 1
    exact ⟨_, rfl, fun h => (o1 h).mono hy.size, hy.trans (hb1.mono hy.size)⟩
  · obtain ⟨⟨An, cn, rfl, hcn, hN⟩, -⟩ := hK
    have hs1 := hs.1
    have HC := Lib.hid (fun (W : World) (hb : Below w.heap.size w W) => c_iNeedingMore D.now An cn a W ((hN.below hb).more hb.size) (by omega))
    have HM := Lib.hid (made_2 D.now a)
    clear hN hs
    go_enter Try.func75, Try.ntmps75
    go_wp2_with fail
    refine (HC.out _ (hbx _)).mono ?_
    rintro e w1 ⟨v1, rfl, o1, hb1⟩
    rw [laterV]
    go_wp2_with fail
    go_ret2
    have hy := hbx 2
    exact ⟨_, by rw [HM.out]; rfl, fun _ => by rw [HM.out]; exact o1.mono hy.size, hy.trans (hb1.mono hy.size)⟩
  · have HC := Lib.hid (fun (W : World) (hb : Below w.heap.size w W) => c_withLater D vn vp a W ((hK.below hb).more hb.size) hs)
    clear hK hs
    go_enter Try.func75, Try.ntmps75
    go_wp2_with fail
    refine (HC.out _ (hbx _)).mono ?_
    rintro e w1 ⟨v1, rfl, o1, hb1⟩
    go_wp2_with fail
    go_ret2
    have hy := hbx 3
    exact ⟨_, rfl, fun h => (o1 h).mono hy.size, hy.trans (hb1.mono hy.size)⟩

theorem run_maxA (a b : Int) (t : Array TypeId) (ty : TypeId) (w : World) : (Builtin.max_ t ty #[.int .i64 a, .int .i64 b]).run Try.prog w = .ok (.int .i64 (max a b)) w := by
  by_cases h : b > a
  · rw [show max a b = b by omega]; simp [Builtin.max_, Builtin.max2, h]
  · rw [show max a b = a by omega]; simp [Builtin.max_, Builtin.max2, h]
/-- the customers of before with those of now behind them, as they are read out of a row of headers that was made for them -/
theorem css_all {w : World} {base g c : Nat} {hs : List Value} {Ls : List (List (Int × Int))} {n : Nat} (h : HO w base (.slice (some ⟨g, 0, none⟩) n c) hs) (hr : RdH w w.heap.size hs Ls) : n = Ls.length ∧ Ls.length ≤ c ∧ Css w w.heap.size (some ⟨g, 0, none⟩) Ls := by
  obtain ⟨A, c', e, h1, h2, -⟩ := h.css hr
  injection e with e1 e2 e3
  subst e1 e2 e3
  exact ⟨rfl, h1, h2⟩

attribute [local go_sem ↓] run_maxA

set_option maxRecDepth 8000 in
set_option maxHeartbeats 8000000 in
theorem c_with (D : KV) (vn vp nv : Value) (w : World) (hK : Ks w w.heap.size vn vp D) (hs : SmallK D) (h8 : D.past.length ≤ 8) (hnv : ∃ A n c, nv = .slice A n c) :
    Calls Try.prog 76 #[.agg #[vn, vp], nv] w fun e w' => ∃ up us, e = .returned (.agg #[nv, up]) ∧ COO w' (w.heap.size + 2) up (pushP D.past D.now) us ∧ Below w.heap.size w w' := by
  obtain ⟨⟨An, cn, rfl, hcn, hN⟩, Ap, cp, rfl, hcp, hP⟩ := hK
  obtain ⟨hs1, hs2, hs3⟩ := hs
  obtain ⟨A, nn, nc, rfl⟩ := hnv
  have hl : (D.past ++ [D.now]).length = D.past.length + 1 := by simp
  have hl3 : ∀ k, k < (D.past ++ [D.now]).length → (LL (D.past ++ [D.now]) k).length ≤ 100000000 := fun k hk => by
    rw [hl] at hk
    rw [LL_app _ hk]
    split
    · omega
    · have := hs3 k (by omega); omega
  obtain ⟨w0, hw0, hz0, hb0, bR, hS⟩ := two_boxes w (.slice An D.now.length cn) (.slice Ap D.past.length cp)
  have hle0 : w.heap.size + 2 ≤ w0.heap.size := by omega
  have HC := Lib.hid (fun (W : World) (hb : Below w.heap.size w W) => c_cloneCC D.past Ap cp w.heap.size W hb.size (hP.below hb) (by omega))
  have HS := Lib.hid (fun (W : World) (hb : Below w0.heap.size w0 W) => hS W (hb.mono (by omega)))
  have HB0 := Lib.hid (fun (W : World) (h : Below w0.heap.size w0 W) => hb0.trans (h.mono (show w.heap.size ≤ w0.heap.size by omega)))
  have HN := Lib.hid hN
  have HP2 := Lib.hid (fun (g c2 : Nat) (W : World) (hI : Css W W.heap.size (some ⟨g, 0, none⟩) (D.past ++ [D.now])) => show Calls Try.prog 79 #[.slice (some ⟨g, 0, none⟩) (D.past.length + 1) c2] W fun e w' => ∃ v vs, e = .returned v ∧ COO w' W.heap.size v (D.past ++ [D.now]) vs ∧ Below W.heap.size W w' from by
    have K := c_copiesOf (D.past ++ [D.now]) (some ⟨g, 0, none⟩) c2 W hI (by omega) hl3
    rwa [hl] at K)
  have HP3 := Lib.hid (fun (g c2 : Nat) (W : World) (hI : Css W W.heap.size (some ⟨g, 0, none⟩) (D.past ++ [D.now])) => show Calls Try.prog 79 #[.slice (some ⟨g, 1, none⟩) D.past.length (c2 - 1)] W fun e w' => ∃ v vs, e = .returned v ∧ COO w' W.heap.size v ((D.past ++ [D.now]).drop 1) vs ∧ Below W.heap.size W w' from by
    have hd : ((D.past ++ [D.now]).drop 1).length = D.past.length := by rw [List.length_drop, hl]; omega
    have K := c_copiesOf ((D.past ++ [D.now]).drop 1) (some ⟨g, 0 + 1, none⟩) (c2 - 1) W (hI.drop 1) (by omega) (fun k hk => by
      have e : LL ((D.past ++ [D.now]).drop 1) k = LL (D.past ++ [D.now]) (1 + k) := by simp [LL, List.getD_eq_getElem?_getD, Nat.add_comm]
      rw [e]; exact hl3 (1 + k) (by rw [hd] at hk; omega))
    rwa [hd] at K)
  have hd0 : Below w0.heap.size w0 w0.drew := (Below.refl _ w0).drew
  have hd1 := hd0.alloc (Nat.le_refl _) (.cells #[.slice An D.now.length cn] 23)
  obtain ⟨c0, c1⟩ := HS.out _ (Below.refl _ w0)
  clear hN hP hs3 hl3 hS hz0
  go_enter Try.func76, Try.ntmps76
  go_wp2_with fail
  clear hw0
  go_region_held3 (fun W => W.cell? ⟨w.heap.size, 0, none⟩ = some (.slice An D.now.length cn) ∧ W.cell? ⟨w.heap.size, 1, none⟩ = some (.slice Ap D.past.length cp))
    (first
      | exact HS.out _ hx7
      | exact HS.out _ (hx6.alloc hx6.size _)
      | exact HS.out _ hx6
      | exact HS.out _ hd1
      | go_keep)
    (first
      | (go_at_call 88; refine (HC.out w0.drew (HB0.out _ hd0)).mono ?_; rintro e w6 ⟨v6, hs6, rfl, o6, hr6, hb6⟩; have hq6 := hr6.1; have HR6 : RdH w6 w.heap.size hs6 D.past := hr6.below (hb6.mono (by show w.heap.size ≤ w0.heap.size; omega)); obtain ⟨G6, c6, rfl, -, -, -⟩ := o6.form; rw [hq6] at o6 ⊢; have hx6 : Below w0.heap.size w0 w6 := hd0.trans hb6; have o6 : HO w6 w0.heap.size (.slice G6 D.past.length c6) hs6 := o6)
      | (go_at_call 88; refine (HC.out _ (HB0.out _ hd1)).mono ?_; rintro e w6 ⟨v6, hs6, rfl, o6, hr6, hb6⟩; have hq6 := hr6.1; have HR6 : RdH w6 w.heap.size hs6 D.past := hr6.below (hb6.mono (by simp; omega)); have bX : w6.heap[w0.heap.size]? = some (.cells #[.slice An D.now.length cn] 23 (0, 0)) := (hb6.block w0.heap.size (by simp)).trans (heap_alloc_new w0.drew _); obtain ⟨G6, c6, rfl, -, -, -⟩ := o6.form; rw [hq6] at o6 ⊢; have hx6 : Below w0.heap.size w0 w6 := hd1.trans (hb6.mono (by simp)); have o6 : HO w6 w0.heap.size (.slice G6 D.past.length c6) hs6 := o6.mono (by simp))
      | (refine step_H1 (by rfl) (.tmp 9) (.tmp 12) (by rfl) w0.heap.size (.slice G6 D.past.length c6) hs6 (.slice An D.now.length cn) w6.heap.size (D.past.length + 1) ?_ ?_ ?_ ?_ ?_ ?_ ?_ ?_ ?_; rfl; exact (o6.alloc _); rfl; rfl; exact (heap_alloc_new _ _); omega; omega; (have := hx6.size; simp; omega); intro g7 c7 w7 o7 hgr7 hb7; have h67 : Below w0.heap.size w6 w7 := ((Below.refl _ w6).alloc hx6.size _).trans hb7; have hx7 : Below w0.heap.size w0 w7 := (hx6.alloc hx6.size _).trans hb7)
      | (refine step_H1 (by rfl) (.tmp 9) (.tmp 12) (by rfl) w0.heap.size (.slice G6 D.past.length c6) hs6 (.slice An D.now.length cn) w0.heap.size (D.past.length + 1) ?_ ?_ ?_ ?_ ?_ ?_ ?_ ?_ ?_; rfl; exact o6; rfl; rfl; exact bX; omega; omega; exact hx6.size; intro g7 c7 w7 o7 hgr7 hb7; have h67 : Below w0.heap.size w6 w7 := hb7; have hx7 : Below w0.heap.size w0 w7 := hx6.trans hb7)
      | fail)
  all_goals
    have hw7 := HB0.out _ hx7
    obtain ⟨-, hc7, hI⟩ := css_all o7 (((HR6.below (h67.mono (by omega))).snoc hcn (HN.out.below hw7)).more hw7.size)
    rw [hl] at hc7
    have HI2 := Lib.hid (HP2.out g7 c7 w7 hI)
    have HI3 := Lib.hid (HP3.out g7 c7 w7 hI)
    have b7 := Lib.hid ((hx7.block (w.heap.size + 1) (by omega)).trans bR)
    have HW := Lib.hid hw7
    have HX := Lib.hid (show w0.heap.size ≤ w7.heap.size from hx7.size)
    clear hI o7 o6 hb6 hb7 hx7 hx6 hd0 hd1 h67 HR6 hr6 hw7 c0 c1
    have q0 : IntKind.i64.wrap ((D.past.length : Int) + 1 - 8) = (D.past.length : Int) + 1 - 8 := IntWalk.i64_in _ (by omega)
    by_cases hq : D.past.length + 1 ≤ 8
    · have q1 : max (0 : Int) ((D.past.length : Int) + 1 - 8) = 0 := by omega
      have HPu := Lib.hid (pushP_no (P := D.past) (L := D.now) (by omega))
      go_wp2_with fail
      refine HI2.out.mono ?_
      rintro e w8 ⟨up, us, rfl, o8, hb8⟩
      obtain ⟨Gp, gp, rfl, -, -, -⟩ := o8.form
      rw [hl] at o8 ⊢
      have hX := HX.out
      have b8 := (hb8.block (w.heap.size + 1) (by omega)).trans b7.out
      have r0 := cell_of_row _ (w.heap.size + 1) 0 _ _ _ b8
      have r1 := cell_of_row _ (w.heap.size + 1) 1 _ _ _ b8
      have f0 : w8.frozen? ⟨w.heap.size + 1, 0, none⟩ = false := unfrozen_of b8
      have f1 : w8.frozen? ⟨w.heap.size + 1, 1, none⟩ = false := unfrozen_of b8
      go_wp2_with fail
      obtain ⟨k0, k1⟩ := put2 (.slice A nn nc) (.slice Gp (D.past.length + 1) gp) b8
      refine bodyPost_ret (v := .agg #[.slice A nn nc, .slice Gp (D.past.length + 1) gp]) (by simp [results, Try.f76, go_sem, k0, k1]) rfl ?_
      refine ⟨_, us, rfl, ?_, ((HW.out.trans (hb8.mono (by omega))).setCell (p := ⟨w.heap.size + 1, 0, none⟩) (by simp) _).setCell (p := ⟨w.heap.size + 1, 1, none⟩) (by simp) _⟩
      rw [HPu.out]
      exact ((o8.mono (show w.heap.size + 2 ≤ w7.heap.size by omega)).keptLow (grown_set1 w8 (w.heap.size + 1) 0 _) (by omega)).keptLow (grown_set1 _ (w.heap.size + 1) 1 _) (by omega)
    · have q1 : max (0 : Int) ((D.past.length : Int) + 1 - 8) = 1 := by omega
      have q2 : 1 < c7 := by omega
      have q3 : ¬ c7 = 1 := by omega
      have HPu := Lib.hid (pushP_cut (P := D.past) (L := D.now) (by omega))
      go_wp2_with fail
      refine HI3.out.mono ?_
      rintro e w8 ⟨up, us, rfl, o8, hb8⟩
      obtain ⟨Gp, gp, rfl, -, -, -⟩ := o8.form
      rw [show ((D.past ++ [D.now]).drop 1).length = D.past.length by rw [List.length_drop, hl]; omega] at o8 ⊢
      have hX := HX.out
      have b8 := (hb8.block (w.heap.size + 1) (by omega)).trans b7.out
      have r0 := cell_of_row _ (w.heap.size + 1) 0 _ _ _ b8
      have r1 := cell_of_row _ (w.heap.size + 1) 1 _ _ _ b8
      have f0 : w8.frozen? ⟨w.heap.size + 1, 0, none⟩ = false := unfrozen_of b8
      have f1 : w8.frozen? ⟨w.heap.size + 1, 1, none⟩ = false := unfrozen_of b8
      go_wp2_with fail
      obtain ⟨k0, k1⟩ := put2 (.slice A nn nc) (.slice Gp D.past.length gp) b8
      refine bodyPost_ret (v := .agg #[.slice A nn nc, .slice Gp D.past.length gp]) (by simp [results, Try.f76, go_sem, k0, k1]) rfl ?_
      refine ⟨_, us, rfl, ?_, ((HW.out.trans (hb8.mono (by omega))).setCell (p := ⟨w.heap.size + 1, 0, none⟩) (by simp) _).setCell (p := ⟨w.heap.size + 1, 1, none⟩) (by simp) _⟩
      rw [HPu.out]
      exact ((o8.mono (show w.heap.size + 2 ≤ w7.heap.size by omega)).keptLow (grown_set1 w8 (w.heap.size + 1) 0 _) (by omega)).keptLow (grown_set1 _ (w.heap.size + 1) 1 _) (by omega)

end Go.Proofs.Ytpbmehodcllncaa

