/- walks of the laws of chapter 7, second part: FnEachOnce -/
import Derived.Test.YtckebkaaokfonaaKN
import Derived.Test.YtckebkaaokfonaaI6
import Derived.Test.YtckebkaaokfonaaH
namespace Go.Proofs.Ytckebkaaokfonaa
set_option linter.unusedVariables false
open Go.RowKit
attribute [local go_sem ↓] Go.wp_at_zero Go.wp_at_succ

theorem backI_succ {xs : List Int} {i : Nat} (h : i < xs.length) : xs.reverse.take (i + 1) = xs.reverse.take i ++ [Z xs (xs.length - 1 - i)] := by
  rw [List.take_succ_eq_append_getElem (by simpa using h)]
  congr 2
  rw [List.getElem_reverse]
  simp [Z, show xs.length - 1 - i < xs.length by omega]

theorem c_hasInt (o : List Int) (k : Int) (O : Option Addr) (B d : Nat) (w : World) (hO : Is w B O o) (ho : o.length ≤ 140737488351232) :
    Calls Try.prog 22 #[.slice O o.length d, .int .i64 k] w fun e w' => e = .returned (.bool (hasN o k o.length)) ∧ w = w' := by
  go_enter Try.func22, Try.ntmps22
  go_wp2_with fail
  go_loopw [5] (fun i wr => ∃ j : Nat, j ≤ o.length ∧ i = .int .i64 j ∧ Hid (hasN o k j = false) ∧ wr = w) (fun i _ => o.length - (intOf i).toNat)
  case atStart => exact ⟨0, by omega, rfl, rfl, rfl⟩
  case round =>
    obtain ⟨j, hj, rfl, HN, rfl⟩ := hrel
    by_cases hlt : j < o.length
    · obtain ⟨ob, oo, rfl, hob, hoc⟩ := hO (by omega)
      have c0 := hoc j hlt
      have q1 : (0 : Int) ≤ (j : Int) := by omega
      have q2 : (j : Int) < (o.length : Int) := by omega
      clear hoc
      by_cases he : Z o j = k
      · have heb : (Z o j == k) = true := beq_iff_eq.2 he
        have HX := Lib.hid (show hasN o k o.length = true from hasN_iff.2 ⟨j, hlt, he⟩)
        clear he
        go_wp2_with fail
        go_ret
        exact ⟨by rw [HX.out]; rfl, rfl⟩
      · have heb : (Z o j == k) = false := beq_eq_false_iff_ne.2 he
        have HX := Lib.hid (show hasN o k (j + 1) = false by
          show (hasN o k j || decide (Z o j = k)) = false
          rw [HN.out, decide_eq_false he]; rfl)
        clear he
        go_wp2_with fail
        go_roundw
        case rel => exact ⟨j + 1, by omega, by go_num, HX, trivial⟩
        case measure => simp [intOf]; omega
    · have hlf : ¬ ((j : Int) < (o.length : Int)) := by omega
      obtain rfl : j = o.length := by omega
      go_wp2_with fail
      go_ret
      exact ⟨by rw [HN.out]; rfl, rfl⟩

set_option maxHeartbeats 4000000 in
theorem w_FnEachOnce (A : Option Addr) (n c : Nat) (w : World) (h : Bs w w.heap.size A n) (hc : n ≤ c) :
    Calls Try.prog 4 #[.slice A n c] w fun e w' => e = .returned (.bool true) ∧ Below w.heap.size w w' := by
  by_cases hn : n ≤ 1048576
  · go_enter Try.func4, Try.ntmps4
    go_wp2_with fail
    refine (c_DrawEachOnce A n c _ h hn hc).mono ?_
    rintro e w1 ⟨o, v, t, rfl, hv, hl, ht, hb1⟩
    obtain ⟨D, d, rfl, hd1, hd2, hD⟩ := hv.form
    have hs1 := hb1.size
    clear hv h
    go_wp2_with fail
    refine (c_iEachOnce o D d t _ hD (by omega)).mono ?_
    rintro e w2 ⟨rfl, hb2⟩
    have k2 := hb1.trans (hb2.mono hs1)
    have hs2 := k2.size
    have hD2 := (hD.below hb2).more hb2.size
    clear hb1 hb2 hD
    go_wp2_with fail
    refine (c_sEachOnce o D d t _ hD2 (by omega)).mono ?_
    rintro e w3 ⟨rfl, hb3⟩
    have k3 := k2.trans (hb3.mono hs2)
    have hs3 := k3.size
    have hD3 := (hD2.below hb3).more hb3.size
    have hne : (eachV o t != eachV o t) = false := by simp
    clear k2 hb3 hD2
    have HB := Lib.hid (each_back (o := o) (n := t))
    have HH := Lib.hid (fun (he : eachV o t = true) (k : Nat) (hk : (k : Int) < t) => show hasN o k o.length = true from by
      have hnt : t = ((t.toNat : Nat) : Int) := by omega
      rw [hnt] at he hk
      exact hasN_mem.2 (each_has he ⟨by omega, hk⟩))
    have hb0 : Below w3.heap.size w3 (w3.alloc (.cells #[] 3)) := by (repeat (first | exact rfl | exact Below.refl _ _ | (with_reducible refine Below.drew ?_) | (with_reducible refine Below.drewN ?_ _) | (with_reducible refine Below.alloc ?_ ?_ _) | (with_reducible refine Below.setCell ?_ ?_ _) | (show _ ≤ _; focus (first | omega | (simp; done) | (simp; omega)))))
    go_wp2_with fail
    go_loopw [6, 7] (fun lv kv wr => ∃ i : Nat, i ≤ o.length ∧ kv = .int .i64 ((o.length : Int) - 1 - i) ∧ IO wr w3.heap.size lv (o.reverse.take i) ∧ Below w3.heap.size w3 wr) (fun _ kv _ => (intOf kv + 1).toNat)
    case atStart => exact ⟨0, by omega, by simp, IO.empty w3 (Nat.le_refl _), hb0⟩
    case round =>
      obtain ⟨i, hi, rfl, hown, hb⟩ := hrel
      have hsz := hb.size
      by_cases hlt : i < o.length
      · obtain ⟨b, off, rfl, hlb, hcc⟩ := hD3 (by omega)
        have c1 := (hb.cell (p := ⟨b, off + (o.length - 1 - i), none⟩) hlb).trans (hcc _ (by omega))
        have p0 : (0 : Int) ≤ (o.length : Int) - 1 - (i : Int) := by omega
        have p1 : (o.length : Int) - 1 - (i : Int) < (o.length : Int) := by omega
        have p2 : ((o.length : Int) - 1 - (i : Int)).toNat = o.length - 1 - i := by omega
        have ql : (o.reverse.take i).length = i := by rw [List.length_take, List.length_reverse]; omega
        have q5 : (o.reverse.take i).length ≤ 1000000000000 := by omega
        have QL := Lib.hid ql
        clear ql
        have HE := Lib.hid (backI_succ hlt)
        clear hcc
        go_wp2_with (refine app_I (by rfl) (.tmp 33) (.tmp 38) (by rfl) w3.heap.size u6 (o.reverse.take i) (Z o (o.length - 1 - i)) wr.heap.size (by rfl) (hown.alloc _) (by rfl) (heap_alloc_new _ _) q5 (by simp; omega) ?_; intro g cap w7 hown7 hgr7 hb7)
        go_roundw
        case rel => exact ⟨i + 1, by omega, by go_num, by rw [HE.out]; rw [QL.out] at hown7; exact hown7, hb.trans (Below.trans (by (repeat (first | exact rfl | exact Below.refl _ _ | (with_reducible refine Below.drew ?_) | (with_reducible refine Below.drewN ?_ _) | (with_reducible refine Below.alloc ?_ ?_ _) | (with_reducible refine Below.setCell ?_ ?_ _) | (show _ ≤ _; focus (first | omega | (simp; done) | (simp; omega)))))) hb7)⟩
        case measure => simp [intOf]; omega
      · obtain rfl : i = o.length := by omega
        have hk9 : (o.length : Int) - 1 - (o.length : Int) = -1 := by omega
        rw [List.take_of_length_le (by simp)] at hown
        obtain ⟨G, g, rfl, hg1, hg2, hG⟩ := hown.form
        rw [List.length_reverse] at hg1 ⊢
        have kr := k3.trans (hb.mono hs3)
        have hDr := (hD3.below hb).more hsz
        rw [hk9]
        clear hown hk9
        go_wp2_with fail
        obtain ⟨wz, hwz⟩ : ∃ x, x = wr := ⟨_, rfl⟩
        rw [← hwz] at hG kr hDr ⊢
        clear hwz hb hsz
        have hst := kr.size
        go_loopw [8] (fun kv wq => ∃ k : Nat, kv = .int .i64 k ∧ ((k : Int) ≤ t) ∧ wq = wz) (fun kv _ => t.toNat - (intOf kv).toNat)
        case atStart => exact ⟨0, rfl, by omega, rfl⟩
        case round =>
          obtain ⟨k, rfl, hk, rfl⟩ := hrel
          cases hok : eachV o t with
          | true =>
            by_cases hkt : (k : Int) < t
            · have HK := Lib.hid (c_hasInt o (k : Int) D _ d wr hDr (by omega))
              have HX := Lib.hid (HH.out hok k hkt)
              clear hok
              go_wp2_with fail
              refine HK.out.mono ?_
              rintro e w5 ⟨rfl, rfl⟩
              rw [HX.out]
              go_wp2_with fail
              go_roundw
              case rel => exact ⟨k + 1, by go_num, by omega, trivial⟩
              case measure => simp [intOf]; omega
            · have HG := Lib.hid (fun (W : World) (hW : Below wr.heap.size wr W) => show Calls Try.prog 20 #[.slice G o.length g, .int .i64 t] W fun e w' => e = .returned (.bool true) ∧ Below W.heap.size W w' from by
                have K := c_iEachOnce o.reverse G g t W ((hG.below hW).more hW.size) (by rw [List.length_reverse]; omega)
                rw [HB.out, List.length_reverse, hok] at K
                exact K)
              have e1 : eachV [0] 1 = true := by decide
              have e2 : eachV [] 0 = false := by decide
              have hx0 := Below.refl wr.heap.size wr
              clear hok
              go_wp2_with fail
              refine (HG.out _ hx0).mono ?_
              rintro e w5 ⟨rfl, hb5⟩
              have ht1 := c_iEachOnce [0] (some ⟨w5.heap.size, 0, none⟩) 1 1 (w5.alloc (.cells #[.int .i64 0] 3)) ((Is.one w5 0).more (by simp)) (by simp)
              rw [e1] at ht1
              have HT1 := Lib.hid ht1
              clear ht1 e1
              go_wp2_with fail
              refine HT1.out.mono ?_
              rintro e w6 ⟨rfl, hb6⟩
              have hz6 := hb6.size
              simp only [World.size_alloc] at hz6
              have hx6 : Below wr.heap.size wr w6 := (hb5.alloc hb5.size _).trans (hb6.mono (by have := hb5.size; simp; omega))
              have hk0 : Is (w6.alloc (.cells #[] 3)) (w6.alloc (.cells #[] 3)).heap.size (some ⟨w6.heap.size, 0, none⟩) [] := fun hp => absurd hp (by simp)
              have ht2 := c_iEachOnce [] (some ⟨w6.heap.size, 0, none⟩) 0 0 _ hk0 (by simp)
              rw [e2] at ht2
              have HT2 := Lib.hid ht2
              clear ht2 e2 hk0 hb5 hb6
              go_wp2_with fail
              refine HT2.out.mono ?_
              rintro e w7 ⟨rfl, hb7⟩
              have hx7 : Below wr.heap.size wr w7 := (hx6.alloc hx6.size _).trans (hb7.mono (by have := hx6.size; simp; omega))
              go_wp2_with fail
              refine (c_alive _).mono ?_
              rintro e w8 ⟨rfl, hb8⟩
              go_wp2_with fail
              go_ret
              exact ⟨rfl, (kr.trans (hx7.mono hst)).trans (hb8.mono (Nat.le_trans hst hx7.size))⟩

          | false =>
            by_cases hkt : (k : Int) < t
            · have HG := Lib.hid (fun (W : World) (hW : Below wr.heap.size wr W) => show Calls Try.prog 20 #[.slice G o.length g, .int .i64 t] W fun e w' => e = .returned (.bool false) ∧ Below W.heap.size W w' from by
                have K := c_iEachOnce o.reverse G g t W ((hG.below hW).more hW.size) (by rw [List.length_reverse]; omega)
                rw [HB.out, List.length_reverse, hok] at K
                exact K)
              have e1 : eachV [0] 1 = true := by decide
              have e2 : eachV [] 0 = false := by decide
              have hx0 := Below.refl wr.heap.size wr
              clear hok
              go_wp2_with fail
              refine (HG.out _ hx0).mono ?_
              rintro e w5 ⟨rfl, hb5⟩
              have ht1 := c_iEachOnce [0] (some ⟨w5.heap.size, 0, none⟩) 1 1 (w5.alloc (.cells #[.int .i64 0] 3)) ((Is.one w5 0).more (by simp)) (by simp)
              rw [e1] at ht1
              have HT1 := Lib.hid ht1
              clear ht1 e1
              go_wp2_with fail
              refine HT1.out.mono ?_
              rintro e w6 ⟨rfl, hb6⟩
              have hz6 := hb6.size
              simp only [World.size_alloc] at hz6
              have hx6 : Below wr.heap.size wr w6 := (hb5.alloc hb5.size _).trans (hb6.mono (by have := hb5.size; simp; omega))
              have hk0 : Is (w6.alloc (.cells #[] 3)) (w6.alloc (.cells #[] 3)).heap.size (some ⟨w6.heap.size, 0, none⟩) [] := fun hp => absurd hp (by simp)
              have ht2 := c_iEachOnce [] (some ⟨w6.heap.size, 0, none⟩) 0 0 _ hk0 (by simp)
              rw [e2] at ht2
              have HT2 := Lib.hid ht2
              clear ht2 e2 hk0 hb5 hb6
              go_wp2_with fail
              refine HT2.out.mono ?_
              rintro e w7 ⟨rfl, hb7⟩
              have hx7 : Below wr.heap.size wr w7 := (hx6.alloc hx6.size _).trans (hb7.mono (by have := hx6.size; simp; omega))
              go_wp2_with fail
              refine (c_alive _).mono ?_
              rintro e w8 ⟨rfl, hb8⟩
              go_wp2_with fail
              go_ret
              exact ⟨rfl, (kr.trans (hx7.mono hst)).trans (hb8.mono (Nat.le_trans hst hx7.size))⟩

            · have HG := Lib.hid (fun (W : World) (hW : Below wr.heap.size wr W) => show Calls Try.prog 20 #[.slice G o.length g, .int .i64 t] W fun e w' => e = .returned (.bool false) ∧ Below W.heap.size W w' from by
                have K := c_iEachOnce o.reverse G g t W ((hG.below hW).more hW.size) (by rw [List.length_reverse]; omega)
                rw [HB.out, List.length_reverse, hok] at K
                exact K)
              have e1 : eachV [0] 1 = true := by decide
              have e2 : eachV [] 0 = false := by decide
              have hx0 := Below.refl wr.heap.size wr
              clear hok
              go_wp2_with fail
              refine (HG.out _ hx0).mono ?_
              rintro e w5 ⟨rfl, hb5⟩
              have ht1 := c_iEachOnce [0] (some ⟨w5.heap.size, 0, none⟩) 1 1 (w5.alloc (.cells #[.int .i64 0] 3)) ((Is.one w5 0).more (by simp)) (by simp)
              rw [e1] at ht1
              have HT1 := Lib.hid ht1
              clear ht1 e1
              go_wp2_with fail
              refine HT1.out.mono ?_
              rintro e w6 ⟨rfl, hb6⟩
              have hz6 := hb6.size
              simp only [World.size_alloc] at hz6
              have hx6 : Below wr.heap.size wr w6 := (hb5.alloc hb5.size _).trans (hb6.mono (by have := hb5.size; simp; omega))
              have hk0 : Is (w6.alloc (.cells #[] 3)) (w6.alloc (.cells #[] 3)).heap.size (some ⟨w6.heap.size, 0, none⟩) [] := fun hp => absurd hp (by simp)
              have ht2 := c_iEachOnce [] (some ⟨w6.heap.size, 0, none⟩) 0 0 _ hk0 (by simp)
              rw [e2] at ht2
              have HT2 := Lib.hid ht2
              clear ht2 e2 hk0 hb5 hb6
              go_wp2_with fail
              refine HT2.out.mono ?_
              rintro e w7 ⟨rfl, hb7⟩
              have hx7 : Below wr.heap.size wr w7 := (hx6.alloc hx6.size _).trans (hb7.mono (by have := hx6.size; simp; omega))
              go_wp2_with fail
              refine (c_alive _).mono ?_
              rintro e w8 ⟨rfl, hb8⟩
              go_wp2_with fail
              go_ret
              exact ⟨rfl, (kr.trans (hx7.mono hst)).trans (hb8.mono (Nat.le_trans hst hx7.size))⟩

  · go_enter Try.func4, Try.ntmps4
    go_wp2_with fail
    go_ret
    exact ⟨rfl, Below.refl _ _⟩

end Go.Proofs.Ytckebkaaokfonaa

