/- impl.NeedOf, fold, spec.NeedOf · impl.comeUpTo, impl.ComeBy, spec.ComeBy · gapTo, impl.GapsOf, spec.GapsOf · later, impl.LaterBy, spec.LaterBy, spec.LastLeave -/
import Derived.Test.YtecoefjkobpbgaaA
import Derived.Test.YtecoefjkobpbgaaB
import Derived.Test.YtecoefjkobpbgaaM
import Derived.Test.YtecoefjkobpbgaaO
namespace Go.Proofs.Ytecoefjkobpbgaa
set_option linter.unusedVariables false
open Go.RowKit

end Go.Proofs.Ytecoefjkobpbgaa

namespace Go.Proofs.Ytecoefjkobpbgaa
set_option linter.unusedVariables false
open Go.RowKit

end Go.Proofs.Ytecoefjkobpbgaa

namespace Go.Proofs.Ytecoefjkobpbgaa
set_option linter.unusedVariables false
open Go.RowKit
attribute [local go_sem ↓] Go.wp_at_zero Go.wp_at_succ

end Go.Proofs.Ytecoefjkobpbgaa

namespace Go.Proofs.Ytecoefjkobpbgaa
set_option linter.unusedVariables false
open Go.RowKit
attribute [local go_sem ↓] Go.wp_at_zero Go.wp_at_succ

def laterV (v : Value) (b : Bool) : Value := .tuple #[v, .bool b]

set_option maxHeartbeats 4000000 in
theorem c_sLastLeave (L : List (Int × Int)) (A : Option Addr) (c : Nat) (w : World) (hA : Cs w w.heap.size A L) (hn : L.length ≤ 140737488351232) :
    Calls Try.prog 40 #[.slice A L.length c] w fun e w' => e = .returned (.int .i64 (lastLeave L)) ∧ Below w.heap.size w w' := by
  by_cases h : cOk L = true
  · have Hs := Lib.hid (sumB_bd h)
    have Hb := Lib.hid (bestB_bd h)
    have Hbd := Lib.hid (fun k => @cOk_bd L k h)
    have hlen := cOk_len h
    have H := Lib.hid h; clear h
    go_enter Try.func40, Try.ntmps40
    go_wp2_with fail
    refine (c_sCustomersOk L A c _ hA hn).mono ?_
    rintro e w1 ⟨rfl, hb1⟩
    rw [H.out]
    go_wp2_with fail
    go_loop [3, 4, 5] (fun b s i => ∃ k j : Nat, k + j = L.length ∧ i = .int .i64 ((k : Int) - 1) ∧ s = .int .i64 (sumB L j) ∧ b = .int .i64 (bestB L j))
      (fun _ _ i => (intOf i + 1).toNat)
    case atStart => exact ⟨L.length, 0, by omega, rfl, rfl, rfl⟩
    case round =>
      obtain ⟨k, j, hkj, rfl, rfl, rfl⟩ := hrel
      by_cases hlt : 0 < k
      · obtain ⟨b, off, rfl, hlb, hc⟩ := hA (by omega)
        have c1 := (hb1.cell (p := ⟨b, off + (k - 1) * 2, none⟩) hlb).trans (hc (k - 1) (by omega)).1
        have c2 := (hb1.cell (p := ⟨b, off + (k - 1) * 2 + 1, none⟩) hlb).trans (hc (k - 1) (by omega)).2
        clear hc
        have e0 : L.length - 1 - j = k - 1 := by omega
        have h1 := Hs.out j (by omega)
        have h2 := Hs.out (j + 1) (by omega)
        have h3 := Hb.out j (by omega)
        have h4 := Hbd.out (k - 1) (by omega)
        have E1 := Lib.hid (show sumB L (j + 1) = sumB L j + Y L (k - 1) by simp only [sumB, e0])
        have E2 := Lib.hid (show bestB L (j + 1) = max (bestB L j) (X L (k - 1) + (sumB L j + Y L (k - 1))) by simp only [bestB, sumB, e0])
        rw [E1.out] at h2
        clear e0
        have hk0' : (0 : Int) ≤ (k : Int) - 1 := by omega
        have hk1' : (k : Int) - 1 < (L.length : Int) := by omega
        go_wp2_with fail
        go_round
        case rel => exact ⟨k - 1, j + 1, by omega, by go_num, by rw [E1.out], by rw [E2.out]; congr 1; split <;> omega⟩
        case measure => simp [intOf]; omega
      · go_wp2_with fail
        go_ret
        obtain rfl : j = L.length := by omega
        exact ⟨by rw [lastLeave_yes H.out]; rfl, hb1⟩
  · have hno : cOk L = false := by simpa using h
    have H := Lib.hid hno; clear h hno
    go_enter Try.func40, Try.ntmps40
    go_wp2_with fail
    refine (c_sCustomersOk L A c _ hA hn).mono ?_
    rintro e w1 ⟨rfl, hb1⟩
    rw [H.out]
    go_wp2_with fail
    go_ret
    exact ⟨by rw [lastLeave_no H.out]; rfl, hb1⟩

end Go.Proofs.Ytecoefjkobpbgaa

