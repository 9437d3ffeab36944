/- walks of the laws of chapter 7, first part: FnTasksOk, FnEachOnce -/
import Derived.Test.YtckebkaaokfonaaKN
import Derived.Test.YtckebkaaokfonaaI6
import Derived.Test.YtckebkaaokfonaaH
namespace Go.Proofs.Ytckebkaaokfonaa
set_option linter.unusedVariables false
open Go.RowKit
attribute [local go_sem ↓] Go.wp_at_zero Go.wp_at_succ

theorem cellsT1 (w : World) (x y : Int) : Cs (w.alloc (.cells #[.int .i64 x, .int .i64 y] 27)) (w.alloc (.cells #[.int .i64 x, .int .i64 y] 27)).heap.size (some ⟨w.heap.size, 0, none⟩) [(x, y)] := by
  intro _
  refine ⟨w.heap.size, 0, rfl, by simp, fun k hk => ?_⟩
  obtain rfl : k = 0 := by simpa using hk
  have hz := heap_alloc_new w (.cells #[.int .i64 x, .int .i64 y] 27)
  have hq := fun o => cell_of_row _ w.heap.size o _ _ _ hz
  exact ⟨hq 0, hq 1⟩
theorem backTo_succ {L : List (Int × Int)} {i : Nat} (h : i < L.length) : L.reverse.take (i + 1) = L.reverse.take i ++ [(X L (L.length - 1 - i), Y L (L.length - 1 - i))] := by
  rw [List.take_succ_eq_append_getElem (by simpa using h)]
  congr 2
  rw [List.getElem_reverse]
  simp [X, Y, show L.length - 1 - i < L.length by omega]

set_option maxHeartbeats 4000000 in
theorem w_FnTasksOk (A : Option Addr) (n c : Nat) (w : World) (h : Bs w w.heap.size A n) (hc : n ≤ c) :
    Calls Try.prog 3 #[.slice A n c] w fun e w' => e = .returned (.bool true) ∧ Below w.heap.size w w' := by
  by_cases hn : n ≤ 1048576
  · go_enter Try.func3, Try.ntmps3
    go_wp2_with fail
    refine (c_DrawTasksOk A n c _ h hn hc).mono ?_
    rintro e w1 ⟨L, v, rfl, hv, hl, hb1⟩
    obtain ⟨D, d, rfl, hd1, hd2, hD⟩ := hv.form
    have hs1 := hb1.size
    clear hv h
    go_wp2_with fail
    refine (c_iTasksOk L D d _ hD (by omega)).mono ?_
    rintro e w2 ⟨rfl, hb2⟩
    have k2 := hb1.trans (hb2.mono hs1)
    have hs2 := k2.size
    have hD2 := (hD.below hb2).more hb2.size
    clear hb1 hb2 hD
    go_wp2_with fail
    refine (c_sTasksOk L D d _ hD2 (by omega)).mono ?_
    rintro e w3 ⟨rfl, hb3⟩
    have k3 := k2.trans (hb3.mono hs2)
    have hs3 := k3.size
    have hD3 := (hD2.below hb3).more hb3.size
    have hne : (tOk L != tOk L) = false := by simp
    clear k2 hb3 hD2
    have HB := Lib.hid (tOk_back L)
    have hb0 : Below w3.heap.size w3 (w3.alloc (.cells #[] 27)) := by (repeat (first | exact rfl | exact Below.refl _ _ | (with_reducible refine Below.drew ?_) | (with_reducible refine Below.drewN ?_ _) | (with_reducible refine Below.alloc ?_ ?_ _) | (with_reducible refine Below.setCell ?_ ?_ _) | (show _ ≤ _; focus (first | omega | (simp; done) | (simp; omega)))))
    go_wp2_with fail
    go_loopw [5, 6] (fun lv kv wr => ∃ i : Nat, i ≤ L.length ∧ kv = .int .i64 ((L.length : Int) - 1 - i) ∧ TO wr w3.heap.size lv (L.reverse.take i) ∧ Below w3.heap.size w3 wr) (fun _ kv _ => (intOf kv + 1).toNat)
    case atStart => exact ⟨0, by omega, by simp, TO.empty w3 (Nat.le_refl _), hb0⟩
    case round =>
      obtain ⟨i, hi, rfl, hown, hb⟩ := hrel
      have hsz := hb.size
      by_cases hlt : i < L.length
      · obtain ⟨b, off, rfl, hlb, hcc⟩ := hD3 (by omega)
        have c1 := (hb.cell (p := ⟨b, off + (L.length - 1 - i) * 2, none⟩) hlb).trans (hcc _ (by omega)).1
        have c2 := (hb.cell (p := ⟨b, off + (L.length - 1 - i) * 2 + 1, none⟩) hlb).trans (hcc _ (by omega)).2
        have p0 : (0 : Int) ≤ (L.length : Int) - 1 - (i : Int) := by omega
        have p1 : (L.length : Int) - 1 - (i : Int) < (L.length : Int) := by omega
        have p2 : ((L.length : Int) - 1 - (i : Int)).toNat = L.length - 1 - i := by omega
        have ql : (L.reverse.take i).length = i := by rw [List.length_take, List.length_reverse]; omega
        have q5 : (L.reverse.take i).length ≤ 1000000000000 := by omega
        have QL := Lib.hid ql
        clear ql
        have HE := Lib.hid (backTo_succ hlt)
        clear hcc
        go_wp2_with (refine app_T (by rfl) (.tmp 26) (.tmp 31) (by rfl) w3.heap.size u5 (L.reverse.take i) (X L (L.length - 1 - i)) (Y L (L.length - 1 - i)) wr.heap.size (by rfl) (hown.alloc _) (by rfl) (heap_alloc_new _ _) q5 (by simp; omega) ?_; intro g cap w7 hown7 hgr7 hb7)
        go_roundw
        case rel => exact ⟨i + 1, by omega, by go_num, by rw [HE.out]; rw [QL.out] at hown7; exact hown7, hb.trans (Below.trans (by (repeat (first | exact rfl | exact Below.refl _ _ | (with_reducible refine Below.drew ?_) | (with_reducible refine Below.drewN ?_ _) | (with_reducible refine Below.alloc ?_ ?_ _) | (with_reducible refine Below.setCell ?_ ?_ _) | (show _ ≤ _; focus (first | omega | (simp; done) | (simp; omega)))))) hb7)⟩
        case measure => simp [intOf]; omega
      · obtain rfl : i = L.length := by omega
        have hk9 : (L.length : Int) - 1 - (L.length : Int) = -1 := by omega
        rw [List.take_of_length_le (by simp)] at hown
        obtain ⟨G, g, rfl, hg1, hg2, hG⟩ := hown.form
        have kr := k3.trans (hb.mono hs3)
        have hb5 : Below wr.heap.size wr (wr.alloc (.cells #[.int .i64 1, .int .i64 0] 27)) := by (repeat (first | exact rfl | exact Below.refl _ _ | (with_reducible refine Below.drew ?_) | (with_reducible refine Below.drewN ?_ _) | (with_reducible refine Below.alloc ?_ ?_ _) | (with_reducible refine Below.setCell ?_ ?_ _) | (show _ ≤ _; focus (first | omega | (simp; done) | (simp; omega)))))
        have e1 : tOk [(1, 0)] = true := by decide
        have HT := Lib.hid (c_iTasksOk [(1, 0)] _ 1 _ (cellsT1 wr 1 0) (by simp))
        have HG := Lib.hid (fun (W : World) (hW : Below wr.heap.size wr W) => show Calls Try.prog 16 #[.slice G L.length g] W fun e w' => e = .returned (.bool (tOk L)) ∧ Below W.heap.size W w' from by
          have K := c_iTasksOk L.reverse G g W ((hG.below hW).more hW.size) (by rw [List.length_reverse]; omega)
          rw [HB.out, List.length_reverse] at K
          exact K)
        rw [hk9]
        clear hown hk9
        go_wp2_with fail
        refine HT.out.mono ?_
        rintro e w5 ⟨rfl, hb6⟩
        rw [e1]
        have hx5 := hb5.trans (hb6.mono hb5.size)
        clear hb6
        go_wp2_with fail
        refine (HG.out _ hx5).mono ?_
        rintro e w6 ⟨rfl, hb7⟩
        have hx6 := hx5.trans (hb7.mono hx5.size)
        cases hok : tOk L with
        | true =>
          go_wp2_with fail
          refine (c_alive _).mono ?_
          rintro e w7 ⟨rfl, hb8⟩
          go_wp2_with fail
          go_ret
          exact ⟨rfl, (kr.trans (hx6.mono kr.size)).trans (hb8.mono (Nat.le_trans kr.size hx6.size))⟩
        | false =>
          go_wp2_with fail
          refine (c_alive _).mono ?_
          rintro e w7 ⟨rfl, hb8⟩
          go_wp2_with fail
          go_ret
          exact ⟨rfl, (kr.trans (hx6.mono kr.size)).trans (hb8.mono (Nat.le_trans kr.size hx6.size))⟩
  · go_enter Try.func3, Try.ntmps3
    go_wp2_with fail
    go_ret
    exact ⟨rfl, Below.refl _ _⟩

end Go.Proofs.Ytckebkaaokfonaa

