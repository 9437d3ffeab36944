/- spec.l1In, spec.CustomersOk -/
import Derived.Test.YtpbmehodcllncaaProg
import Derived.Test.YtpbmehodcllncaaM
namespace Go.Proofs.Ytpbmehodcllncaa
set_option linter.unusedVariables false
open Go.RowKit

set_option maxHeartbeats 400000 in
theorem c_l1In (a b c : Int) (w : World) :
    Calls Try.prog 71 #[.int .i64 a, .int .i64 b, .int .i64 c] w fun e w' => e = .returned (.bool (decide (b ≤ a ∧ a ≤ c))) ∧ w' = w := by
  by_cases h1 : b ≤ a
  · by_cases h2 : a ≤ c
    all_goals
      go_enter Try.func71, Try.ntmps71
      go_wp2
      go_ret
      exact ⟨by simp [h1, h2], rfl⟩
  · go_enter Try.func71, Try.ntmps71
    go_wp2
    go_ret
    exact ⟨by simp; omega, rfl⟩

set_option maxHeartbeats 1000000 in
theorem c_sCustomersOk (L : List (Int × Int)) (A : Option Addr) (c : Nat) (w : World) (hA : Cs w w.heap.size A L) (hn : L.length ≤ 140737488351232) :
    Calls Try.prog 47 #[.slice A L.length c] w fun e w' => e = .returned (.bool (cOk L)) ∧ Below w.heap.size w w' := by
  go_enter Try.func47, Try.ntmps47
  go_wp2
  go_loopw [3] (fun i wr => ∃ k : Nat, k ≤ L.length ∧ i = .int .i64 k ∧ Hid (okTo L k = true) ∧ Below w.heap.size w wr)
      (fun i _ => L.length - (intOf i).toNat)
  case atStart => exact ⟨0, Nat.zero_le _, rfl, rfl, Below.refl _ _⟩
  case round =>
    obtain ⟨k, hk, rfl, hok, hb⟩ := hrel
    by_cases hlt : k < L.length
    · obtain ⟨b, off, rfl, hlb, hc⟩ := hA (by omega)
      have c1 := (hb.cell (p := ⟨b, off + k * 2, none⟩) hlb).trans (hc k hlt).1
      have c2 := (hb.cell (p := ⟨b, off + k * 2 + 1, none⟩) hlb).trans (hc k hlt).2
      by_cases h1 : 0 ≤ X L k ∧ X L k ≤ 60
      · have h1' : decide (0 ≤ X L k ∧ X L k ≤ 60) = true := by simpa using h1
        by_cases h2 : 1 ≤ Y L k ∧ Y L k ≤ 9
        · have h2' : decide (1 ≤ Y L k ∧ Y L k ≤ 9) = true := by simpa using h2
          by_cases h0 : 0 < k
          · have c3 := (hb.cell (p := ⟨b, off + (k - 1) * 2, none⟩) hlb).trans (hc (k - 1) (by omega)).1
            clear hc
            by_cases hp : X L k < X L (k - 1)
            all_goals
              go_wp2_with fail
              go_quiet ((go_at_call 71; exact Calls.quiet_of_same (c_l1In _ _ _ _)))
              go_wp2_with fail
            · go_ret
              exact ⟨by rw [cOk_no3 hlt h0 hp]; rfl, by (repeat (first | exact hb | exact Below.refl _ _ | (with_reducible refine Below.drew ?_) | (with_reducible refine Below.drewN ?_ _) | (with_reducible refine Below.alloc ?_ ?_ _) | (with_reducible refine Below.setCell ?_ ?_ _) | (show _ ≤ _; focus (first | omega | (simp; done) | (simp; omega)))))⟩
            · go_roundw
              case rel =>
                refine ⟨k + 1, by omega, by go_num, ?_, by (repeat (first | exact hb | exact Below.refl _ _ | (with_reducible refine Below.drew ?_) | (with_reducible refine Below.drewN ?_ _) | (with_reducible refine Below.alloc ?_ ?_ _) | (with_reducible refine Below.setCell ?_ ?_ _) | (show _ ≤ _; focus (first | omega | (simp; done) | (simp; omega)))))⟩
                exact okTo_step hok.out h1 h2 (fun _ => by omega)
              case measure => simp [intOf]; omega
          · have h0a : decide ((0 : Int) < (k : Int)) = false := by simp; omega
            have h0b : decide (0 < k) = false := by simp; omega
            clear hc
            go_wp2_with fail
            go_quiet ((go_at_call 71; exact Calls.quiet_of_same (c_l1In _ _ _ _)))
            go_wp2_with fail
            go_roundw
            case rel =>
              refine ⟨k + 1, by omega, by go_num, ?_, by (repeat (first | exact hb | exact Below.refl _ _ | (with_reducible refine Below.drew ?_) | (with_reducible refine Below.drewN ?_ _) | (with_reducible refine Below.alloc ?_ ?_ _) | (with_reducible refine Below.setCell ?_ ?_ _) | (show _ ≤ _; focus (first | omega | (simp; done) | (simp; omega)))))⟩
              exact okTo_step hok.out h1 h2 (fun h => absurd h h0)
            case measure => simp [intOf]; omega
        · have h2' : decide (1 ≤ Y L k ∧ Y L k ≤ 9) = false := by simpa using h2
          clear hc
          go_wp2_with fail
          go_quiet ((go_at_call 71; exact Calls.quiet_of_same (c_l1In _ _ _ _)))
          go_wp2_with fail
          go_ret
          exact ⟨by rw [cOk_no2 hlt h2]; rfl, by (repeat (first | exact hb | exact Below.refl _ _ | (with_reducible refine Below.drew ?_) | (with_reducible refine Below.drewN ?_ _) | (with_reducible refine Below.alloc ?_ ?_ _) | (with_reducible refine Below.setCell ?_ ?_ _) | (show _ ≤ _; focus (first | omega | (simp; done) | (simp; omega)))))⟩
      · have h1' : decide (0 ≤ X L k ∧ X L k ≤ 60) = false := by simpa using h1
        clear hc
        go_wp2_with fail
        go_quiet ((go_at_call 71; exact Calls.quiet_of_same (c_l1In _ _ _ _)))
        go_wp2_with fail
        go_ret
        exact ⟨by rw [cOk_no1 hlt h1]; rfl, by (repeat (first | exact hb | exact Below.refl _ _ | (with_reducible refine Below.drew ?_) | (with_reducible refine Below.drewN ?_ _) | (with_reducible refine Below.alloc ?_ ?_ _) | (with_reducible refine Below.setCell ?_ ?_ _) | (show _ ≤ _; focus (first | omega | (simp; done) | (simp; omega)))))⟩
    · go_wp2_with fail
      go_ret
      obtain rfl : k = L.length := by omega
      exact ⟨by rw [← cOk_end hok.out]; rfl, hb⟩

end Go.Proofs.Ytpbmehodcllncaa

