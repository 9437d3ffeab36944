/- Chapter 12's functions of the program: clones, copies of desks, DeskOk, DeskNew. -/
import Derived.Test.YtpbmehodcllncaaA
import Derived.Test.YtpbmehodcllncaaO14
import Derived.Test.YtpbmehodcllncaaK36
namespace Go.Proofs.Ytpbmehodcllncaa
set_option linter.unusedVariables false
open Go.RowKit
attribute [local go_sem ↓] Go.wp_at_zero Go.wp_at_succ

set_option maxHeartbeats 2000000 in
theorem c_cloneC (L : List (Int × Int)) (A : Option Addr) (c : Nat) (w : World) (hA : Cs w w.heap.size A L) (hn : L.length ≤ 1000000000) :
    Calls Try.prog 49 #[.slice A L.length c] w fun e w' => ∃ v, e = .returned v ∧ CO w' w.heap.size v L ∧ Below w.heap.size w w' := by
  have hb0 : Below w.heap.size w (w.alloc (.cells #[] 30)) := by (repeat (first | exact rfl | exact Below.refl _ _ | (with_reducible refine Below.drew ?_) | (with_reducible refine Below.drewN ?_ _) | (with_reducible refine Below.alloc ?_ ?_ _) | (with_reducible refine Below.setCell ?_ ?_ _) | (show _ ≤ _; focus (first | omega | (simp; done) | (simp; omega)))))
  have HA := Lib.hid (hA.below hb0)
  cases A with
  | none =>
    have h0 : L = [] := by
      cases L with
      | nil => rfl
      | cons x l => obtain ⟨b, off, h, -⟩ := hA (by simp); cases h
    subst h0
    have hnil := Lib.run_eql_slice_nil (P := Try.prog) w 23 30 none 0 c 0 0 Try.underlying23
    clear hA
    show Calls Try.prog 49 #[.slice none 0 c] w _
    go_enter Try.func49, Try.ntmps49
    go_wp2_with fail
    go_ret
    exact ⟨_, rfl, CO.nil _ _, Below.refl _ _⟩
  | some a =>
    have hnil := Lib.run_eql_slice_nil (P := Try.prog) w 23 30 (some a) L.length c 0 0 Try.underlying23
    clear hA
    go_enter Try.func49, Try.ntmps49
    go_wp2_with (refine app_KC ?_ (.tmp 5) (.tmp 6) ?_ w.heap.size (.slice (some ⟨w.heap.size, 0, none⟩) 0 0) [] L (some a) c w.heap.size L.length L.length ?_ ?_ ?_ ?_ ?_ ?_ ?_ ?_ ?_; rfl; rfl; rfl; exact (CO.empty w (Nat.le_refl _)); rfl; rfl; (simp); exact HA.out; omega; (simp); intro G7 cap w7 o7 hgr7 hb7)
    go_ret
    rw [List.nil_append] at o7
    exact ⟨_, rfl, o7, hb0.trans hb7⟩

set_option maxHeartbeats 2000000 in
theorem c_cloneCC (Ls : List (List (Int × Int))) (A : Option Addr) (c B : Nat) (w : World) (hB : B ≤ w.heap.size) (hA : Css w B A Ls) (hn : Ls.length ≤ 100000000) :
    Calls Try.prog 88 #[.slice A Ls.length c] w fun e w' => ∃ v hs, e = .returned v ∧ HO w' w.heap.size v hs ∧ RdH w B hs Ls ∧ Below w.heap.size w w' := by
  have hb0 : Below w.heap.size w (w.alloc (.cells #[] 23)) := by (repeat (first | exact rfl | exact Below.refl _ _ | (with_reducible refine Below.drew ?_) | (with_reducible refine Below.drewN ?_ _) | (with_reducible refine Below.alloc ?_ ?_ _) | (with_reducible refine Below.setCell ?_ ?_ _) | (show _ ≤ _; focus (first | omega | (simp; done) | (simp; omega)))))
  cases A with
  | none =>
    have h0 : Ls = [] := by
      cases Ls with
      | nil => rfl
      | cons x l => obtain ⟨b, off, h, -⟩ := hA (by simp); cases h
    subst h0
    have hnil := Lib.run_eql_slice_nil (P := Try.prog) w 24 23 none 0 c 0 0 Try.underlying24
    clear hA
    show Calls Try.prog 88 #[.slice none 0 c] w _
    go_enter Try.func88, Try.ntmps88
    go_wp2_with fail
    go_ret
    exact ⟨_, [], rfl, HO.nil _ _, RdH.nil _ _, Below.refl _ _⟩
  | some a =>
    have hnil := Lib.run_eql_slice_nil (P := Try.prog) w 24 23 (some a) Ls.length c 0 0 Try.underlying24
    obtain ⟨hs, hr, hc⟩ := (hA.below (hb0.mono hB)).hdrs
    obtain ⟨hs2, hr2, -⟩ := hA.hdrs
    have hl := hr.1
    have HO1 := Lib.hid hr.one
    have HC := Lib.hid hc
    have HR := Lib.hid (show RdH w B hs Ls from ⟨hr.1, fun k hk => by
      obtain ⟨A1, c1, e1, l1, -⟩ := hr.2 k hk
      obtain ⟨b, off, e, hlt, hcc⟩ := hA (by omega)
      obtain ⟨Ak, ck, e2, l2, hk2⟩ := hcc k hk
      cases e
      obtain ⟨b', off', e', hnews⟩ := hc (by omega)
      cases e'
      have h1 := hnews k _ (List.getElem?_eq_getElem (show k < hs.length by omega))
      have e3 : (⟨b, off, none⟩ : Addr).add k = ⟨b, off + k, none⟩ := by by_cases e : k = 0 <;> simp [Addr.add, e]
      rw [e3, hb0.cell (p := ⟨b, off + k, none⟩) (show b < w.heap.size by omega), e2] at h1
      have h4 : hs.getD k undef = .slice Ak (LL Ls k).length ck := by
        rw [List.getD_eq_getElem?_getD, List.getElem?_eq_getElem (show k < hs.length by omega), Option.getD_some]
        exact (Option.some.inj h1).symm
      exact ⟨Ak, ck, h4, l2, hk2⟩⟩)
    clear hA hr hr2 hc
    go_enter Try.func88, Try.ntmps88
    go_wp2_with (refine app_HN ?_ (.tmp 5) (.tmp 6) ?_ w.heap.size (.slice (some ⟨w.heap.size, 0, none⟩) 0 0) [] hs (some a) c Ls.length Ls.length ?_ ?_ ?_ ?_ ?_ ?_ ?_ ?_ ?_ ?_; rfl; rfl; rfl; exact (HO.empty w (Nat.le_refl _)); rfl; exact hl; (simp); exact HC.out; exact HO1.out; omega; (simp); intro G7 cap w7 o7 hgr7 hb7)
    go_ret
    rw [List.nil_append] at o7
    exact ⟨_, hs, rfl, o7, HR.out, hb0.trans hb7⟩

set_option maxHeartbeats 4000000 in
/-- copies of rows, all in fresh memory -/
theorem c_copiesOf (Ls : List (List (Int × Int))) (A : Option Addr) (c : Nat) (w : World) (hA : Css w w.heap.size A Ls) (hn : Ls.length ≤ 100000000) (hs : ∀ k, k < Ls.length → (LL Ls k).length ≤ 100000000) :
    Calls Try.prog 79 #[.slice A Ls.length c] w fun e w' => ∃ v vs, e = .returned v ∧ COO w' w.heap.size v Ls vs ∧ Below w.heap.size w w' := by
  have HS := Lib.hid hs
  have HA := Lib.hid hA
  clear hs hA
  go_enter Try.func79, Try.ntmps79
  go_wp2_with fail
  go_loopw [3, 8] (fun o i wr => ∃ (k : Nat) (vs : List Value), k ≤ Ls.length ∧ i = .int .i64 k ∧ COO wr w.heap.size o (Ls.take k) vs ∧ Below w.heap.size w wr)
    (fun _ i _ => Ls.length - (intOf i).toNat)
  case atStart => exact ⟨0, [], by omega, rfl, COO.nil _ _, Below.refl _ _⟩
  case round =>
    obtain ⟨k, vs, hk, rfl, hown, hb⟩ := hrel
    have hsz := hb.size
    have hkt : (Ls.take k).length = k := by rw [List.length_take]; omega
    by_cases hlt : k < Ls.length
    · obtain ⟨b, off, rfl, hlb, hc⟩ := HA.out (by omega)
      obtain ⟨Ak, ck, e1, hck, hAk⟩ := hc k hlt
      have c1 := (hb.cell (p := ⟨b, off + k, none⟩) hlb).trans e1
      have HK := Lib.hid (c_cloneC (LL Ls k) Ak ck wr ((hAk.below hb).more hsz) (by have := HS.out k hlt; omega))
      have HT := Lib.hid (take_LL hlt)
      clear hc e1 hAk
      go_wp2_with fail
      refine HK.out.mono ?_
      rintro e w5 ⟨sl, rfl, o5, hb5⟩
      have hs5 := hb5.size
      obtain ⟨G5, g5, rfl, hg5, -⟩ := o5.formG
      have hw5 := hb.trans (hb5.mono hsz)
      have ob := owns_base o5
      have HOwn := Lib.hid hown
      clear hown
      go_wp2_with (refine app_CO (by rfl) (.tmp 12) (.tmp 15) (by rfl) w.heap.size u3 (Ls.take k) vs wr (.slice G5 (LL Ls k).length g5) (LL Ls k) w5.heap.size (by rfl) HOwn.out (hb5.alloc hs5 _) ((o5.mono hsz).alloc _) ob (by rfl) (by rfl) (heap_alloc_new _ _) (by rw [hkt]; omega) (by simp; omega) ?_; intro g cap w6 o6 hgr6 hor6 hb6)
      rw [hkt] at o6
      go_roundw
      case rel => exact ⟨k + 1, _, by omega, by go_num, by rw [HT.out]; exact o6, hw5.trans (((Below.refl _ w5).alloc (by omega) _).trans hb6)⟩
      case measure => simp [intOf]; omega
    · obtain rfl : k = Ls.length := by omega
      rw [List.take_length] at hown
      go_wp2_with fail
      go_ret
      exact ⟨_, vs, rfl, hown, hb⟩

/-- a desk's box and a result's block behind it -/
theorem two_boxes (w : World) (x y : Value) : ∃ w0, (w.alloc (.cells #[x, y] 26)).alloc (.cells #[.slice none 0 0, .slice none 0 0] 26) = w0 ∧ w0.heap.size = w.heap.size + 2 ∧ Below w.heap.size w w0 ∧
    w0.heap[w.heap.size + 1]? = some (.cells #[.slice none 0 0, .slice none 0 0] 26 (0, 0)) ∧
    (∀ W, Below (w.heap.size + 1) w0 W → W.cell? ⟨w.heap.size, 0, none⟩ = some x ∧ W.cell? ⟨w.heap.size, 1, none⟩ = some y) := by
  have bD : ((w.alloc (.cells #[x, y] 26)).alloc (.cells #[.slice none 0 0, .slice none 0 0] 26)).heap[w.heap.size]? = some (.cells #[x, y] 26 (0, 0)) := (Below.heap_alloc _ _ _ (by simp)).trans (heap_alloc_new _ _)
  have bR : ((w.alloc (.cells #[x, y] 26)).alloc (.cells #[.slice none 0 0, .slice none 0 0] 26)).heap[w.heap.size + 1]? = some (.cells #[.slice none 0 0, .slice none 0 0] 26 (0, 0)) := by
    have h := heap_alloc_new (w.alloc (.cells #[x, y] 26)) (.cells #[.slice none 0 0, .slice none 0 0] 26)
    rwa [show (w.alloc (.cells #[x, y] 26)).heap.size = w.heap.size + 1 by simp] at h
  refine ⟨_, rfl, by simp, ((Below.refl _ w).alloc (Nat.le_refl _) _).alloc (by simp) _, bR, fun W hb => ?_⟩
  have b := (hb.block w.heap.size (by omega)).trans bD
  exact ⟨cell_of_row _ w.heap.size 0 _ _ _ b, cell_of_row _ w.heap.size 1 _ _ _ b⟩
theorem one_box (w : World) (x y : Value) : ∃ w0, w.alloc (.cells #[x, y] 26) = w0 ∧ w0.heap.size = w.heap.size + 1 ∧ Below w.heap.size w w0 ∧ w0.heap[w.heap.size]? = some (.cells #[x, y] 26 (0, 0)) ∧
    (∀ W, Below (w.heap.size + 1) w0 W → W.cell? ⟨w.heap.size, 0, none⟩ = some x ∧ W.cell? ⟨w.heap.size, 1, none⟩ = some y) := by
  have bD := heap_alloc_new w (.cells #[x, y] 26)
  refine ⟨_, rfl, by simp, (Below.refl _ w).alloc (Nat.le_refl _) _, bD, fun W hb => ?_⟩
  have b := (hb.block w.heap.size (by omega)).trans bD
  exact ⟨cell_of_row _ w.heap.size 0 _ _ _ b, cell_of_row _ w.heap.size 1 _ _ _ b⟩
theorem put2 {w : World} {R : Nat} {t : TypeId} {p q : Value} (x y : Value) (h : w.heap[R]? = some (.cells #[p, q] t (0, 0))) : ((w.setCell ⟨R, 0, none⟩ x).setCell ⟨R, 1, none⟩ y).cell? ⟨R, 0, none⟩ = some x ∧ ((w.setCell ⟨R, 0, none⟩ x).setCell ⟨R, 1, none⟩ y).cell? ⟨R, 1, none⟩ = some y := by
  have b := set2b y (set2a x h)
  exact ⟨cell_of_row _ R 0 _ _ _ b, cell_of_row _ R 1 _ _ _ b⟩

set_option maxRecDepth 8000 in
set_option maxHeartbeats 4000000 in
/-- a copy of a desk -/
theorem c_copied (D : KV) (vn vp : Value) (w : World) (hK : Ks w w.heap.size vn vp D) (hs : SmallK D) :
    Calls Try.prog 59 #[.agg #[vn, vp]] w fun e w' => ∃ un up us, e = .returned (.agg #[un, up]) ∧ KO w' w.heap.size un up D us ∧ Below w.heap.size w w' := by
  obtain ⟨⟨An, cn, rfl, hcn, hN⟩, Ap, cp, rfl, hcp, hP⟩ := hK
  obtain ⟨hs1, hs2, hs3⟩ := hs
  obtain ⟨w0, hw0, hz0, hb0, bR, hS⟩ := two_boxes w (.slice An D.now.length cn) (.slice Ap D.past.length cp)
  have HC := Lib.hid (fun (W : World) (hb : Below w.heap.size w W) => c_cloneC D.now An cn W ((hN.below hb).more hb.size) (by omega))
  have HP := Lib.hid (fun (W : World) (hb : Below w.heap.size w W) => c_copiesOf D.past Ap cp W ((hP.below hb).more hb.size) (by omega) (fun k hk => by have := hs3 k hk; omega))
  have HS := Lib.hid hS
  have hd0 : Below w0.heap.size w0 w0.drew := (Below.refl _ w0).drew
  clear hN hP hs3 hS
  go_enter Try.func59, Try.ntmps59
  have c01 := HS.out _ (Below.refl _ w0)
  obtain ⟨c0, c1⟩ := c01
  go_wp2_with fail
  go_region_held3 (fun W => W.cell? ⟨w.heap.size, 0, none⟩ = some (.slice An D.now.length cn) ∧ W.cell? ⟨w.heap.size, 1, none⟩ = some (.slice Ap D.past.length cp))
    (first
      | go_keep
      | exact HS.out _ hy7
      | exact HS.out _ (hx6.mono (by omega))
      | exact HS.out _ (hx5.mono (by omega)))
    (first
      | (go_at_call 49; refine (HC.out _ (hb0.trans (hd0.mono (by omega)))).mono ?_; rintro e w5 ⟨un, rfl, o5, hb5⟩; obtain ⟨Gn, gn, rfl, -, -⟩ := o5.formG; have hx5 : Below w0.heap.size w0 w5 := hd0.trans hb5)
      | (go_at_call 79; refine (HP.out w5 (hb0.trans (hx5.mono (by omega)))).mono ?_; rintro e w6 ⟨up, us, rfl, o6, hb6⟩; obtain ⟨Gp, gp, rfl, -, -, -⟩ := o6.form; have hz5 := hx5.size; have hx6 : Below w0.heap.size w0 w6 := hx5.trans (hb6.mono hz5); have b6 := (hx6.block (w.heap.size + 1) (by omega)).trans bR; have r0 := cell_of_row _ (w.heap.size + 1) 0 _ _ _ b6; have r1 := cell_of_row _ (w.heap.size + 1) 1 _ _ _ b6; have f0 : w6.frozen? ⟨w.heap.size + 1, 0, none⟩ = false := unfrozen_of b6; have f1 : w6.frozen? ⟨w.heap.size + 1, 1, none⟩ = false := unfrozen_of b6; have hy7 : Below (w.heap.size + 1) w0 ((w6.setCell ⟨w.heap.size + 1, 0, none⟩ (.slice Gn D.now.length gn)).setCell ⟨w.heap.size + 1, 1, none⟩ (.slice Gp D.past.length gp)) := ((hx6.mono (show w.heap.size + 1 ≤ w0.heap.size by omega)).setCell (p := ⟨w.heap.size + 1, 0, none⟩) (Nat.le_refl _) _).setCell (p := ⟨w.heap.size + 1, 1, none⟩) (Nat.le_refl _) _))
  have hz0d : w0.drew.heap.size = w0.heap.size := rfl
  have hz6 := hb6.size
  have l5 := owns_lt o5
  have ko := ((KCO.mk (o5.below hb6 (Nat.le_refl _)) (o6.mono hz5) (fun r hr e => by have := l5 r hr; have := o6.base r e; omega) (fun k hk r hr e => by have := l5 r e; have := (o6.inner_lt hk hr).2; omega)).ko.keptLow (W2_grown w6 (w.heap.size + 1) (.slice Gn D.now.length gn) (.slice Gp D.past.length gp)) (by omega)).mono (show w.heap.size ≤ w0.drew.heap.size by omega)
  go_wp2_with fail
  have k01 := put2 (.slice Gn D.now.length gn) (.slice Gp D.past.length gp) b6
  obtain ⟨k0, k1⟩ := k01
  refine bodyPost_ret (v := .agg #[.slice Gn D.now.length gn, .slice Gp D.past.length gp]) (by simp [results, Try.f59, go_sem, k0, k1]) rfl ?_
  exact ⟨_, _, us, rfl, ko, hb0.trans (hy7.mono (by omega))⟩

theorem c_notOk (L : List (Int × Int)) (A : Option Addr) (c : Nat) (w : World) (hA : Cs w w.heap.size A L) (hn : L.length ≤ 140737488351232) :
    Calls Try.prog 46 #[.slice A L.length c] w fun e w' => e = .returned (.bool (!cOk L)) ∧ Below w.heap.size w w' := by
  have HC := Lib.hid (c_iCustomersOk L A c w hA hn)
  go_enter Try.func46, Try.ntmps46
  go_wp2_with fail
  refine HC.out.mono ?_
  rintro e w1 ⟨rfl, hb1⟩
  go_wp2_with fail
  go_ret
  exact ⟨rfl, hb1⟩

set_option maxHeartbeats 2000000 in
theorem c_indexRow (Ls : List (List (Int × Int))) (A : Option Addr) (c : Nat) (w : World) (hA : Css w w.heap.size A Ls) (hn : Ls.length ≤ 100000000) (hs : ∀ k, k < Ls.length → (LL Ls k).length ≤ 100000000) :
    Calls Try.prog 70 #[.slice A Ls.length c, .func (.func 46) #[] #[]] w fun e w' => (∃ i : Int, e = .returned (.int .i64 i) ∧ decide (0 ≤ i) = !Ls.all cOk) ∧ Below w.heap.size w w' := by
  have HS := Lib.hid hs
  have HA := Lib.hid hA
  clear hs hA
  go_enter Try.func70, Try.ntmps70
  go_wp2_with fail
  go_loopw [8] (fun i wr => ∃ k : Nat, k ≤ Ls.length ∧ i = .int .i64 k ∧ Hid (∀ j, j < k → cOk (LL Ls j) = true) ∧ Below w.heap.size w wr) (fun i _ => Ls.length - (intOf i).toNat)
  case atStart => exact ⟨0, by omega, rfl, Lib.hid (fun j hj => by omega), Below.refl _ _⟩
  case round =>
    obtain ⟨k, hk, rfl, HN, hb⟩ := hrel
    have hsz := hb.size
    by_cases hlt : k < Ls.length
    · obtain ⟨b, off, rfl, hlb, hc⟩ := HA.out (by omega)
      obtain ⟨Ak, ck, e1, hck, hAk⟩ := hc k hlt
      have c1 := (hb.cell (p := ⟨b, off + k, none⟩) hlb).trans e1
      have HK := Lib.hid (c_notOk (LL Ls k) Ak ck wr ((hAk.below hb).more hsz) (by have := HS.out k hlt; omega))
      have p1 : (0 : Int) ≤ (k : Int) := by omega
      have p2 : (k : Int) < (Ls.length : Int) := by omega
      clear hc e1 hAk
      cases hz : cOk (LL Ls k) with
      | false =>
        have HB := Lib.hid (show decide ((0 : Int) ≤ (k : Int)) = !Ls.all cOk by rw [all_bad hlt hz]; simp)
        have HZ := Lib.hid hz
        clear hz
        go_wp2_with fail
        refine HK.out.mono ?_
        rintro e w1 ⟨rfl, hb1⟩
        rw [HZ.out]
        go_wp2_with fail
        go_ret
        exact ⟨⟨_, rfl, HB.out⟩, hb.trans (hb1.mono hsz)⟩
      | true =>
        have HB := Lib.hid (show ∀ j, j < k + 1 → cOk (LL Ls j) = true from fun j hj => by
          rcases Nat.lt_succ_iff_lt_or_eq.1 hj with h | rfl
          · exact HN.out j h
          · exact hz)
        have HZ := Lib.hid hz
        clear hz
        go_wp2_with fail
        refine HK.out.mono ?_
        rintro e w1 ⟨rfl, hb1⟩
        rw [HZ.out]
        go_wp2_with fail
        go_roundw
        case rel => exact ⟨k + 1, by omega, by go_num, HB, hb.trans (hb1.mono hsz)⟩
        case measure => simp [intOf]; omega
    · have hlf : ¬ ((k : Int) < (Ls.length : Int)) := by omega
      obtain rfl : k = Ls.length := by omega
      go_wp2_with fail
      go_ret
      exact ⟨⟨_, rfl, by rw [all_to HN.out]; rfl⟩, hb⟩

theorem c_containsRow (Ls : List (List (Int × Int))) (A : Option Addr) (c : Nat) (w : World) (hA : Css w w.heap.size A Ls) (hn : Ls.length ≤ 100000000) (hs : ∀ k, k < Ls.length → (LL Ls k).length ≤ 100000000) :
    Calls Try.prog 45 #[.slice A Ls.length c, .func (.func 46) #[] #[]] w fun e w' => e = .returned (.bool (!Ls.all cOk)) ∧ Below w.heap.size w w' := by
  have HI := Lib.hid (c_indexRow Ls A c w hA hn hs)
  go_enter Try.func45, Try.ntmps45
  go_wp2_with fail
  refine HI.out.mono ?_
  rintro e w1 ⟨⟨i, rfl, hi⟩, hb1⟩
  go_wp2_with fail
  go_ret
  rw [← hi]
  exact ⟨rfl, hb1⟩

set_option maxHeartbeats 2000000 in
theorem c_iDeskOk (D : KV) (vn vp : Value) (w : World) (hK : Ks w w.heap.size vn vp D) (hs : SmallK D) :
    Calls Try.prog 12 #[.agg #[vn, vp]] w fun e w' => e = .returned (.bool (deskOk D)) ∧ Below w.heap.size w w' := by
  obtain ⟨⟨An, cn, rfl, hcn, hN⟩, Ap, cp, rfl, hcp, hP⟩ := hK
  obtain ⟨hs1, hs2, hs3⟩ := hs
  obtain ⟨w0, hw0, hz0, hb0, -, hS⟩ := one_box w (.slice An D.now.length cn) (.slice Ap D.past.length cp)
  have hv : deskOk D = (D.past.all cOk && (cOk D.now && decide (D.past.length ≤ 8))) := rfl
  have HC := Lib.hid (c_iCustomersOk D.now An cn w0 ((hN.below hb0).more hb0.size) (by omega))
  have HP := Lib.hid (fun (W : World) (hb : Below w.heap.size w W) => c_containsRow D.past Ap cp W ((hP.below hb).more hb.size) (by omega) (fun k hk => by have := hs3 k hk; omega))
  have HS := Lib.hid hS
  obtain ⟨c0, c1⟩ := hS _ (Below.refl _ w0)
  clear hN hP hs3 hS
  cases h1 : cOk D.now with
  | false =>
    have HV := Lib.hid (show deskOk D = false by rw [hv, h1]; simp)
    have H1 := Lib.hid h1
    clear hv h1
    go_enter Try.func12, Try.ntmps12
    go_wp2_with fail
    refine HC.out.mono ?_
    rintro e w1 ⟨rfl, hb1⟩
    rw [H1.out]
    clear c0 c1
    go_wp2_with fail
    go_ret
    exact ⟨by rw [HV.out]; rfl, hb0.trans (hb1.mono hb0.size)⟩
  | true =>
    have H1 := Lib.hid h1
    by_cases h8 : D.past.length ≤ 8
    · have p8 : ¬ (8 : Int) < (D.past.length : Int) := by omega
      have HV := Lib.hid (show deskOk D = !(!D.past.all cOk) by rw [hv, h1]; simp [h8])
      clear hv h1
      go_enter Try.func12, Try.ntmps12
      go_wp2_with fail
      refine HC.out.mono ?_
      rintro e w1 ⟨rfl, hb1⟩
      rw [H1.out]
      obtain ⟨d0, d1⟩ := HS.out _ (hb1.mono (by omega))
      clear c0 c1
      have hx1 := hb0.trans (hb1.mono hb0.size)
      go_wp2_with fail
      refine (HP.out _ hx1).mono ?_
      rintro e w2 ⟨rfl, hb2⟩
      go_wp2_with fail
      go_ret
      exact ⟨by rw [HV.out, Bool.not_not]; rfl, hx1.trans (hb2.mono hx1.size)⟩
    · have p8 : (8 : Int) < (D.past.length : Int) := by omega
      have HV := Lib.hid (show deskOk D = false by rw [hv]; simp [h8])
      clear hv h1
      go_enter Try.func12, Try.ntmps12
      go_wp2_with fail
      refine HC.out.mono ?_
      rintro e w1 ⟨rfl, hb1⟩
      rw [H1.out]
      obtain ⟨d0, d1⟩ := HS.out _ (hb1.mono (by omega))
      clear c0 c1
      go_wp2_with fail
      go_ret
      exact ⟨by rw [HV.out]; rfl, hb0.trans (hb1.mono hb0.size)⟩

set_option maxHeartbeats 2000000 in
theorem c_iDeskNew (L : List (Int × Int)) (A : Option Addr) (c : Nat) (w : World) (hA : Cs w w.heap.size A L) (hcap : L.length ≤ c) (hn : L.length ≤ 140737488351232) :
    Calls Try.prog 16 #[.slice A L.length c] w fun e w' => ∃ vn vp vs, e = .returned (.tuple #[.agg #[vn, vp], .bool (cOk L)]) ∧ KO w' w.heap.size vn vp (newV L) vs ∧ Below w.heap.size w w' := by
  obtain ⟨w0, hw0, hz0, hb0, bR, -⟩ := one_box w (.slice none 0 0) (.slice none 0 0)
  have HC := Lib.hid (c_iCustomersOk L A c w0 ((hA.below hb0).more hb0.size) hn)
  cases ho : cOk L with
  | false =>
    have H := Lib.hid ho
    have HV := Lib.hid (newV_no ho)
    clear ho
    go_enter Try.func16, Try.ntmps16
    go_wp2_with fail
    refine HC.out.mono ?_
    rintro e w1 ⟨rfl, hb1⟩
    rw [H.out]
    have b1 := (hb1.block w.heap.size (by omega)).trans bR
    have r0 := cell_of_row _ w.heap.size 0 _ _ _ b1
    have r1 := cell_of_row _ w.heap.size 1 _ _ _ b1
    have f0 : w1.frozen? ⟨w.heap.size, 0, none⟩ = false := unfrozen_of b1
    have f1 : w1.frozen? ⟨w.heap.size, 1, none⟩ = false := unfrozen_of b1
    go_wp2_with fail
    obtain ⟨k0, k1⟩ := put2 (.slice none 0 0) (.slice none 0 0) b1
    refine bodyPost_ret (v := .tuple #[.agg #[.slice none 0 0, .slice none 0 0], .bool false]) (by simp [results, Try.f16, go_sem, k0, k1]) rfl ?_
    exact ⟨_, _, [], rfl, by rw [HV.out]; exact KO.zero _ _, ((hb0.trans (hb1.mono hb0.size)).setCell (p := ⟨w.heap.size, 0, none⟩) (Nat.le_refl _) _).setCell (p := ⟨w.heap.size, 1, none⟩) (Nat.le_refl _) _⟩
  | true =>
    have H := Lib.hid ho
    have HV := Lib.hid (newV_yes ho)
    have hlen := cOk_len ho
    have HK := Lib.hid (fun (W : World) (hb : Below w.heap.size w W) => c_cloneC L A c W ((hA.below hb).more hb.size) (by omega))
    clear ho
    go_enter Try.func16, Try.ntmps16
    go_wp2_with fail
    refine HC.out.mono ?_
    rintro e w1 ⟨rfl, hb1⟩
    rw [H.out]
    have hz1 := hb1.size
    go_wp2_with fail
    refine (HK.out _ (hb0.trans (hb1.mono hb0.size))).mono ?_
    rintro e w2 ⟨v, rfl, o2, hb2⟩
    obtain ⟨Gn, gn, rfl, -, -⟩ := o2.formG
    have b1 := (hb2.block w.heap.size (by omega)).trans ((hb1.block w.heap.size (by omega)).trans bR)
    have r0 := cell_of_row _ w.heap.size 0 _ _ _ b1
    have r1 := cell_of_row _ w.heap.size 1 _ _ _ b1
    have f0 : w2.frozen? ⟨w.heap.size, 0, none⟩ = false := unfrozen_of b1
    have f1 : w2.frozen? ⟨w.heap.size, 1, none⟩ = false := unfrozen_of b1
    go_wp2_with fail
    obtain ⟨k0, k1⟩ := put2 (.slice Gn L.length gn) (.slice none 0 0) b1
    refine bodyPost_ret (v := .tuple #[.agg #[.slice Gn L.length gn, .slice none 0 0], .bool true]) (by simp [results, Try.f16, go_sem, k0, k1]) rfl ?_
    refine ⟨_, _, [], rfl, ?_, ((hb0.trans ((hb1.trans (hb2.mono hz1)).mono hb0.size)).setCell (p := ⟨w.heap.size, 0, none⟩) (Nat.le_refl _) _).setCell (p := ⟨w.heap.size, 1, none⟩) (Nat.le_refl _) _⟩
    rw [HV.out]
    exact (KO.keptLow ⟨o2, PL.nil _ _, fun r hr e => by simp [Value.ownBlock] at e, fun j hj => by simp at hj⟩ (W2_grown w2 w.heap.size (.slice Gn L.length gn) (.slice none 0 0)) (by omega)).mono (by omega)

end Go.Proofs.Ytpbmehodcllncaa

