/- impl.NeedOf, fold, spec.NeedOf · impl.comeUpTo, impl.ComeBy, spec.ComeBy · gapTo, impl.GapsOf, spec.GapsOf · later, impl.LaterBy, spec.LaterBy, spec.LastLeave -/
import Derived.Test.YtmimcgjobgfgfaaA
import Derived.Test.YtmimcgjobgfgfaaB
import Derived.Test.YtmimcgjobgfgfaaM
import Derived.Test.YtmimcgjobgfgfaaO
namespace Go.Proofs.Ytmimcgjobgfgfaa
set_option linter.unusedVariables false
open Go.RowKit

end Go.Proofs.Ytmimcgjobgfgfaa

namespace Go.Proofs.Ytmimcgjobgfgfaa
set_option linter.unusedVariables false
open Go.RowKit

set_option maxHeartbeats 1000000 in
theorem c_comeUpTo (L : List (Int × Int)) (A : Option Addr) (c : Nat) (t : Int) (w : World) (hA : Cs w w.heap.size A L) (hn : L.length ≤ c) (hc' : L.length ≤ 140737488351232) :
    Calls Try.prog 76 #[.slice A L.length c, .int .i64 t] w fun e w' => e = .returned (.slice A (cnt L t) c) ∧ Below w.heap.size w w' := by
  go_enter Try.func76, Try.ntmps76
  go_wp2_with fail
  go_loopw [9] (fun i wr => ∃ k : Nat, k ≤ L.length ∧ i = .int .i64 k ∧ Hid (∀ j, j < k → X L j ≤ t) ∧ Below w.heap.size w wr)
      (fun i _ => L.length - (intOf i).toNat)
  case atStart => exact ⟨0, Nat.zero_le _, rfl, fun j h => by omega, Below.refl _ _⟩
  case round =>
    obtain ⟨k, hk, rfl, hall, hb⟩ := hrel
    by_cases hlt : k < L.length
    · obtain ⟨b, off, rfl, hlb, hc⟩ := hA (by omega)
      have c1 := (hb.cell (p := ⟨b, off + k * 2, none⟩) hlb).trans (hc k hlt).1
      have c2 := (hb.cell (p := ⟨b, off + k * 2 + 1, none⟩) hlb).trans (hc k hlt).2
      clear hc
      have hsz := hb.size
      by_cases ht : t < X L k
      · go_wp2_with fail
        go_ret
        refine ⟨?_, by (repeat (first | exact hb | exact Below.refl _ _ | (with_reducible refine Below.drew ?_) | (with_reducible refine Below.drewN ?_ _) | (with_reducible refine Below.alloc ?_ ?_ _) | (with_reducible refine Below.setCell ?_ ?_ _) | (show _ ≤ _; focus (first | omega | (simp; done) | (simp; omega)))))⟩
        rw [cnt_of (n := k) (by omega) hall.out (fun _ => ht)]
        rfl
      · go_wp2_with fail
        go_roundw
        case rel =>
          refine ⟨k + 1, by omega, by go_num, ?_, by (repeat (first | exact hb | exact Below.refl _ _ | (with_reducible refine Below.drew ?_) | (with_reducible refine Below.drewN ?_ _) | (with_reducible refine Below.alloc ?_ ?_ _) | (with_reducible refine Below.setCell ?_ ?_ _) | (show _ ≤ _; focus (first | omega | (simp; done) | (simp; omega)))))⟩
          intro j hj
          by_cases e : j = k
          · subst e; omega
          · exact hall.out j (by omega)
        case measure => simp [intOf]; omega
    · go_wp2_with fail
      go_ret
      obtain rfl : k = L.length := by omega
      refine ⟨?_, hb⟩
      rw [cnt_of (n := L.length) (by omega) hall.out (fun h => by omega)]
      rfl

end Go.Proofs.Ytmimcgjobgfgfaa

namespace Go.Proofs.Ytmimcgjobgfgfaa
set_option linter.unusedVariables false
open Go.RowKit
attribute [local go_sem ↓] Go.wp_at_zero Go.wp_at_succ

set_option maxHeartbeats 400000 in
theorem c_gapTo (x y p q : Int) (w : World) (h1 : -1000 ≤ x) (h2 : x ≤ 1000) (h3 : -1000 ≤ p) (h4 : p ≤ 1000) :
    Calls Try.prog 85 #[.agg #[.int .i64 x, .int .i64 y], .agg #[.int .i64 p, .int .i64 q]] w fun e w' => e = .returned (.int .i64 (p - x)) ∧ Below w.heap.size w w' := by
  go_enter Try.func85, Try.ntmps85
  go_wp2
  go_ret
  exact ⟨rfl, by (repeat (first | exact rfl | exact Below.refl _ _ | (with_reducible refine Below.drew ?_) | (with_reducible refine Below.drewN ?_ _) | (with_reducible refine Below.alloc ?_ ?_ _) | (with_reducible refine Below.setCell ?_ ?_ _) | (show _ ≤ _; focus (first | omega | (simp; done) | (simp; omega)))))⟩

end Go.Proofs.Ytmimcgjobgfgfaa

namespace Go.Proofs.Ytmimcgjobgfgfaa
set_option linter.unusedVariables false
open Go.RowKit
attribute [local go_sem ↓] Go.wp_at_zero Go.wp_at_succ

def laterV (v : Value) (b : Bool) : Value := .tuple #[v, .bool b]

set_option maxHeartbeats 4000000 in
theorem c_sLastLeave (L : List (Int × Int)) (A : Option Addr) (c : Nat) (w : World) (hA : Cs w w.heap.size A L) (hn : L.length ≤ 140737488351232) :
    Calls Try.prog 55 #[.slice A L.length c] w fun e w' => e = .returned (.int .i64 (lastLeave L)) ∧ Below w.heap.size w w' := by
  by_cases h : cOk L = true
  · have Hs := Lib.hid (sumB_bd h)
    have Hb := Lib.hid (bestB_bd h)
    have Hbd := Lib.hid (fun k => @cOk_bd L k h)
    have hlen := cOk_len h
    have H := Lib.hid h; clear h
    go_enter Try.func55, Try.ntmps55
    go_wp2_with fail
    refine (c_sCustomersOk L A c _ hA hn).mono ?_
    rintro e w1 ⟨rfl, hb1⟩
    rw [H.out]
    go_wp2_with fail
    go_loop [3, 4, 5] (fun b s i => ∃ k j : Nat, k + j = L.length ∧ i = .int .i64 ((k : Int) - 1) ∧ s = .int .i64 (sumB L j) ∧ b = .int .i64 (bestB L j))
      (fun _ _ i => (intOf i + 1).toNat)
    case atStart => exact ⟨L.length, 0, by omega, rfl, rfl, rfl⟩
    case round =>
      obtain ⟨k, j, hkj, rfl, rfl, rfl⟩ := hrel
      by_cases hlt : 0 < k
      · obtain ⟨b, off, rfl, hlb, hc⟩ := hA (by omega)
        have c1 := (hb1.cell (p := ⟨b, off + (k - 1) * 2, none⟩) hlb).trans (hc (k - 1) (by omega)).1
        have c2 := (hb1.cell (p := ⟨b, off + (k - 1) * 2 + 1, none⟩) hlb).trans (hc (k - 1) (by omega)).2
        clear hc
        have e0 : L.length - 1 - j = k - 1 := by omega
        have h1 := Hs.out j (by omega)
        have h2 := Hs.out (j + 1) (by omega)
        have h3 := Hb.out j (by omega)
        have h4 := Hbd.out (k - 1) (by omega)
        have E1 := Lib.hid (show sumB L (j + 1) = sumB L j + Y L (k - 1) by simp only [sumB, e0])
        have E2 := Lib.hid (show bestB L (j + 1) = max (bestB L j) (X L (k - 1) + (sumB L j + Y L (k - 1))) by simp only [bestB, sumB, e0])
        rw [E1.out] at h2
        clear e0
        have hk0' : (0 : Int) ≤ (k : Int) - 1 := by omega
        have hk1' : (k : Int) - 1 < (L.length : Int) := by omega
        go_wp2_with fail
        go_round
        case rel => exact ⟨k - 1, j + 1, by omega, by go_num, by rw [E1.out], by rw [E2.out]; congr 1; split <;> omega⟩
        case measure => simp [intOf]; omega
      · go_wp2_with fail
        go_ret
        obtain rfl : j = L.length := by omega
        exact ⟨by rw [lastLeave_yes H.out]; rfl, hb1⟩
  · have hno : cOk L = false := by simpa using h
    have H := Lib.hid hno; clear h hno
    go_enter Try.func55, Try.ntmps55
    go_wp2_with fail
    refine (c_sCustomersOk L A c _ hA hn).mono ?_
    rintro e w1 ⟨rfl, hb1⟩
    rw [H.out]
    go_wp2_with fail
    go_ret
    exact ⟨by rw [lastLeave_no H.out]; rfl, hb1⟩

end Go.Proofs.Ytmimcgjobgfgfaa

