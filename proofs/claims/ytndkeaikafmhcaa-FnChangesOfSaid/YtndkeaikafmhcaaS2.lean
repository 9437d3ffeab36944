/- impl.WaitsOf, spec.WaitsOf -/
import Derived.Test.YtndkeaikafmhcaaS1
import Derived.Test.YtndkeaikafmhcaaO
namespace Go.Proofs.Ytndkeaikafmhcaa
set_option linter.unusedVariables false
open Go.RowKit
attribute [local go_sem ↓] Go.wp_at_zero Go.wp_at_succ

theorem Z_waitsTo {L : List (Int × Int)} {n k : Nat} (h : k < n) : Z (waitsTo L n) k = waitAt L k := by simp [Z, waitsTo, h]
theorem Z_leavesTo {L : List (Int × Int)} {n k : Nat} (h : k < n) : Z (leavesTo L n) k = leaveAt L k := by simp [Z, leavesTo, h]
theorem Z_gapsTo {L : List (Int × Int)} {n k : Nat} (h : k < n - 1) : Z (gapsTo L n) k = X L (k + 1) - X L k := by simp [Z, gapsTo, h]

set_option maxHeartbeats 2000000 in
theorem c_iWaitsOf (L : List (Int × Int)) (A : Option Addr) (c : Nat) (w : World) (hA : Cs w w.heap.size A L) (hn : L.length ≤ 140737488351232) :
    Calls Try.prog 60 #[.slice A L.length c] w fun e w' => ∃ v, e = .returned v ∧ IO w' w.heap.size v (waits L) ∧ Below w.heap.size w w' := by
  by_cases h : cOk L = true
  · have Hg := Lib.hid (waits_yes h)
    have hlen := cOk_len h
    have H := Lib.hid h; clear h
    go_enter Try.func60, Try.ntmps60
    go_wp2_with fail
    refine (c_iCustomersOk L A c _ hA hn).mono ?_
    rintro e w1 ⟨rfl, hb1⟩
    rw [H.out]
    have hs1 := hb1.size
    go_wp2_with fail
    have hsz : (((w1.alloc (.cells #[.int .i64 0] 3)).alloc (.cells #[.int .i64 0, .int .i64 0] 39)).alloc (.cells #[] 3)).heap.size = w1.heap.size + 3 := by simp
    have hW : Below w1.heap.size w1 (((w1.alloc (.cells #[.int .i64 0] 3)).alloc (.cells #[.int .i64 0, .int .i64 0] 39)).alloc (.cells #[] 3)) := by (repeat (first | exact rfl | exact Below.refl _ _ | (with_reducible refine Below.drew ?_) | (with_reducible refine Below.drewN ?_ _) | (with_reducible refine Below.alloc ?_ ?_ _) | (with_reducible refine Below.setCell ?_ ?_ _) | (show _ ≤ _; focus (first | omega | (simp; done) | (simp; omega)))))
    have hI : WInv L w w.heap.size w1.heap.size (w1.heap.size + 1) (w1.heap.size + 2) 0 (.slice (some ⟨w1.heap.size + 1 + 1, 0, none⟩) 0 0) (((w1.alloc (.cells #[.int .i64 0] 3)).alloc (.cells #[.int .i64 0, .int .i64 0] 39)).alloc (.cells #[] 3)) := by
      refine ⟨hb1.trans (hW.mono hs1), hs1, by omega, by omega, by rw [hsz]; omega, ?_, ?_, ?_⟩
      · rw [Below.heap_alloc _ _ _ (by simp; omega), Below.heap_alloc _ _ _ (by simp)]
        exact heap_alloc_new _ _
      · rw [Below.heap_alloc _ _ _ (by simp)]
        have := heap_alloc_new (w1.alloc (.cells #[.int .i64 0] 3)) (.cells #[.int .i64 0, .int .i64 0] 39)
        simpa [prevOf, ay] using this
      · have := IO.empty ((w1.alloc (.cells #[.int .i64 0] 3)).alloc (.cells #[.int .i64 0, .int .i64 0] 39)) (base := w1.heap.size + 2) (by simp)
        simpa [waitsTo] using this
    refine (c_foldCL (WInv L w w.heap.size w1.heap.size (w1.heap.size + 1) (w1.heap.size + 2)) #[.pointer (some ⟨w1.heap.size, 0, none⟩), .pointer (some ⟨w1.heap.size + 1, 0, none⟩)] w.heap.size L A c _ w _ hA hn (fun k v W W' h1 h2 => h1.keep h2) (fun k v W h1 => h1.below) (fun k v W hk h1 => c_waitStep L H.out w W _ _ _ _ k v hk h1) hI).mono ?_
    rintro e w2 ⟨v, rfl, hI2⟩
    go_wp2_with fail
    go_ret
    exact ⟨_, rfl, by rw [Hg.out]; exact hI2.own.mono (by omega), hI2.below⟩
  · have hno : cOk L = false := by simpa using h
    have Hg := Lib.hid (waits_no hno)
    have H := Lib.hid hno; clear h hno
    go_enter Try.func60, Try.ntmps60
    go_wp2_with fail
    refine (c_iCustomersOk L A c _ hA hn).mono ?_
    rintro e w1 ⟨rfl, hb1⟩
    rw [H.out]
    go_wp2_with fail
    go_ret
    exact ⟨_, rfl, by rw [Hg.out]; exact IO.nil _ _, hb1⟩

end Go.Proofs.Ytndkeaikafmhcaa

