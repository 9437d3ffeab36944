/- helpers of the laws: alive, sameInts, sameCustomers -/
import Derived.Test.YtpbmehodcllncaaA
import Derived.Test.YtpbmehodcllncaaO
namespace Go.Proofs.Ytpbmehodcllncaa
set_option linter.unusedVariables false
open Go.RowKit

theorem cells1 (w : World) (x y : Int) : Cs (w.alloc (.cells #[.int .i64 x, .int .i64 y] 30)) (w.alloc (.cells #[.int .i64 x, .int .i64 y] 30)).heap.size (some ⟨w.heap.size, 0, none⟩) [(x, y)] := by
  intro _
  have hz := heap_alloc_new w (.cells #[.int .i64 x, .int .i64 y] 30)
  have hq := fun o => cell_of_row _ w.heap.size o _ _ _ hz
  refine ⟨_, 0, rfl, by simp, fun k hk => ?_⟩
  obtain rfl : k = 0 := by simpa using hk
  exact ⟨hq 0, hq 1⟩
theorem cells0 (w : World) (A : Option Addr) (B : Nat) : Cs w B A [] := fun h => by simp at h

set_option maxHeartbeats 1000000 in
theorem c_alive (w : World) :
    Calls Try.prog 14 #[] w fun e w' => e = .returned (.bool true) ∧ Below w.heap.size w w' := by
  go_enter Try.func14, Try.ntmps14
  go_wp2_with fail
  have k1 := c_iCustomersOk [(0, 1)] _ 1 _ (cells1 w 0 1) (by simp)
  refine k1.mono ?_
  rintro e w1 ⟨rfl, hb1⟩
  have e1 : cOk [(0, 1)] = true := by decide
  rw [e1]
  go_wp2_with fail
  have k2 := c_iCustomersOk [(0, 0)] _ 1 _ (cells1 w1 0 0) (by simp)
  refine k2.mono ?_
  rintro e w2 ⟨rfl, hb2⟩
  have e2 : cOk [(0, 0)] = false := by decide
  rw [e2]
  go_wp2_with fail
  go_ret
  refine ⟨rfl, ?_⟩
  refine Below.trans ?_ (hb2.mono (by have := hb1.size; simp at this ⊢; omega))
  refine Below.alloc ?_ (by have := hb1.size; simp at this; omega) _
  refine Below.trans ?_ (hb1.mono (by simp))
  (repeat (first | exact rfl | exact Below.refl _ _ | (with_reducible refine Below.drew ?_) | (with_reducible refine Below.drewN ?_ _) | (with_reducible refine Below.alloc ?_ ?_ _) | (with_reducible refine Below.setCell ?_ ?_ _) | (show _ ≤ _; focus (first | omega | (simp; done) | (simp; omega)))))

set_option maxHeartbeats 1000000 in
theorem c_sameCustomers (L : List (Int × Int)) (A B : Option Addr) (BA BB c d : Nat) (w : World) (hA : Cs w BA A L) (hB : Cs w BB B L) (hx : L.length ≤ 140737488351232) :
    Calls Try.prog 21 #[.slice A L.length c, .slice B L.length d] w fun e w' => e = .returned (.bool true) ∧ Below w.heap.size w w' := by
  go_enter Try.func21, Try.ntmps21
  go_wp2_with fail
  go_loopw [5] (fun i wr => ∃ k n : Nat, k ≤ L.length ∧ i = .int .i64 k ∧ wr = w.drewN n) (fun i _ => L.length - (intOf i).toNat)
  case atStart => exact ⟨0, 0, Nat.zero_le _, rfl, rfl⟩
  case round =>
    obtain ⟨k, n, hk, rfl, rfl⟩ := hrel
    by_cases hlt : k < L.length
    · obtain ⟨b, off, rfl, hlb, hc⟩ := hA (by omega)
      obtain ⟨b2, off2, rfl, hlb2, hc2⟩ := hB (by omega)
      obtain ⟨c1, c3⟩ := hc k hlt
      obtain ⟨c2, c4⟩ := hc2 k hlt
      clear hc hc2
      go_wp2_with fail
      go_quiet (fail)
      go_wp2_with fail
      go_roundw
      case rel => exact ⟨k + 1, _, by omega, by go_num, rfl⟩
      case measure => simp [intOf]; omega
    · go_wp2_with fail
      go_ret
      exact ⟨rfl, by (repeat (first | exact rfl | exact Below.refl _ _ | (with_reducible refine Below.drew ?_) | (with_reducible refine Below.drewN ?_ _) | (with_reducible refine Below.alloc ?_ ?_ _) | (with_reducible refine Below.setCell ?_ ?_ _) | (show _ ≤ _; focus (first | omega | (simp; done) | (simp; omega)))))⟩

end Go.Proofs.Ytpbmehodcllncaa

