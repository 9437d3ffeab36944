/- impl.within, Customer.ok, CustomersOk -/
import Derived.Test.YtpbmehodcllncaaProg
import Derived.Test.YtpbmehodcllncaaM
import Derived.WalkKit
import Derived.WalkSpells
import Derived.BigQuiet
import Derived.Deep.QuietTactic
import Derived.Lib.Hide
namespace Go.Proofs.Ytpbmehodcllncaa
set_option linter.unusedVariables false
open Go.RowKit

set_option maxHeartbeats 400000 in
theorem c_within (a b c : Int) (w : World) :
    Calls Try.prog 72 #[.int .i64 a, .int .i64 b, .int .i64 c] w fun e w' => e = .returned (.bool (decide (b ≤ a ∧ a ≤ c))) ∧ w = w' := by
  by_cases h1 : b ≤ a
  · by_cases h2 : a ≤ c
    all_goals
      go_enter Try.func72, Try.ntmps72
      go_wp2
      go_ret
      exact ⟨by simp [h1, h2], rfl⟩
  · go_enter Try.func72, Try.ntmps72
    go_wp2
    go_ret
    exact ⟨by simp; omega, rfl⟩

set_option maxHeartbeats 400000 in
theorem c_ok (x y : Int) (w : World) :
    Calls Try.prog 50 #[.agg #[.int .i64 x, .int .i64 y]] w fun e w' => e = .returned (.bool (cok x y)) ∧ Below w.heap.size w w' := by
  by_cases h1 : 0 ≤ x ∧ x ≤ 60
  · have h1' : decide (0 ≤ x ∧ x ≤ 60) = true := by simpa using h1
    go_enter Try.func50, Try.ntmps50
    go_wp2_with (go_at_call 72; refine (c_within _ _ _ _).mono ?_; rintro e w' ⟨rfl, rfl⟩)
    go_ret
    exact ⟨by simp [cok, h1], (Below.refl _ _).alloc (Nat.le_refl _) _⟩
  · have h1' : decide (0 ≤ x ∧ x ≤ 60) = false := by simpa using h1
    go_enter Try.func50, Try.ntmps50
    go_wp2_with (go_at_call 72; refine (c_within _ _ _ _).mono ?_; rintro e w' ⟨rfl, rfl⟩)
    go_ret
    exact ⟨by simp [cok, h1], (Below.refl _ _).alloc (Nat.le_refl _) _⟩

set_option maxHeartbeats 1000000 in
theorem c_iCustomersOk (L : List (Int × Int)) (A : Option Addr) (c : Nat) (w : World) (hA : Cs w w.heap.size A L) (hn : L.length ≤ 140737488351232) :
    Calls Try.prog 20 #[.slice A L.length c] w fun e w' => e = .returned (.bool (cOk L)) ∧ Below w.heap.size w w' := by
  by_cases h8 : L.length ≤ 8
  · go_enter Try.func20, Try.ntmps20
    go_wp2
    go_loopw [3, 11] (fun ah i wr => ∃ k : Nat, k ≤ L.length ∧ i = .int .i64 k ∧ ah = .int .i64 (prevOf L k) ∧ Hid (okTo L k = true) ∧ Below w.heap.size w wr)
      (fun _ i _ => L.length - (intOf i).toNat)
    case atStart => exact ⟨0, Nat.zero_le _, rfl, rfl, rfl, Below.refl _ _⟩
    case round =>
      obtain ⟨k, hk, rfl, rfl, hok, hb⟩ := hrel
      by_cases hlt : k < L.length
      · obtain ⟨b, off, rfl, hlb, hc⟩ := hA (by omega)
        have c1 := (hb.cell (p := ⟨b, off + k * 2, none⟩) hlb).trans (hc k hlt).1
        have c2 := (hb.cell (p := ⟨b, off + k * 2 + 1, none⟩) hlb).trans (hc k hlt).2
        clear hc
        have hsz := hb.size
        by_cases hck : cok (X L k) (Y L k) = true
        · have Hck := Lib.hid hck; clear hck
          by_cases hp : prevOf L k ≤ X L k
          all_goals
            go_wp2_with fail
            refine (c_ok _ _ _).mono ?_
            rintro e w1 ⟨rfl, hb1⟩
            obtain ⟨hc1, hf1⟩ := bcell hb1
            rw [Hck.out]
            go_wp2_with fail
          · go_roundw
            case rel =>
              refine ⟨k + 1, by omega, by go_num, rfl, ?_, ?_⟩
              · show okTo L (k + 1) = true
                simp [okTo, hok.out, okAt_of Hck.out hp]
              · refine Below.trans ?_ (hb1.mono ?_)
                all_goals (repeat (first | exact hb | exact Below.refl _ _ | (with_reducible refine Below.drew ?_) | (with_reducible refine Below.drewN ?_ _) | (with_reducible refine Below.alloc ?_ ?_ _) | (with_reducible refine Below.setCell ?_ ?_ _) | (show _ ≤ _; focus (first | omega | (simp; done) | (simp; omega)))))
            case measure => simp [intOf]; omega
          · go_ret
            refine ⟨by simp [cOk, okTo_no hlt (okAt_no2 (by omega))], ?_⟩
            refine Below.trans ?_ (hb1.mono ?_)
            all_goals (repeat (first | exact hb | exact Below.refl _ _ | (with_reducible refine Below.drew ?_) | (with_reducible refine Below.drewN ?_ _) | (with_reducible refine Below.alloc ?_ ?_ _) | (with_reducible refine Below.setCell ?_ ?_ _) | (show _ ≤ _; focus (first | omega | (simp; done) | (simp; omega)))))
        · have hck' : cok (X L k) (Y L k) = false := by simpa using hck
          have Hck := Lib.hid hck'; clear hck hck'
          go_wp2_with fail
          refine (c_ok _ _ _).mono ?_
          rintro e w1 ⟨rfl, hb1⟩
          rw [Hck.out]
          go_wp2_with fail
          go_ret
          refine ⟨by simp [cOk, okTo_no hlt (okAt_no1 Hck.out)], ?_⟩
          refine Below.trans ?_ (hb1.mono ?_)
          all_goals (repeat (first | exact hb | exact Below.refl _ _ | (with_reducible refine Below.drew ?_) | (with_reducible refine Below.drewN ?_ _) | (with_reducible refine Below.alloc ?_ ?_ _) | (with_reducible refine Below.setCell ?_ ?_ _) | (show _ ≤ _; focus (first | omega | (simp; done) | (simp; omega)))))
      · go_wp2_with fail
        go_ret
        exact ⟨by rw [show k = L.length by omega] at hok; simp [cOk, h8, hok.out], hb⟩
  · go_enter Try.func20, Try.ntmps20
    go_wp2
    go_ret
    exact ⟨by simp [cOk, h8], Below.refl _ _⟩

end Go.Proofs.Ytpbmehodcllncaa

