/- impl.compared, fold over numbers, foldEnds: a number for each customer and the end, folded into one -/
import Derived.Test.YthoendonhkffkaaU2
import Derived.Test.YthoendonhkffkaaM16
import Derived.OwnWalk
import Derived.BigQuiet
namespace Go.Proofs.Ythoendonhkffkaa
set_option linter.unusedVariables false
open Go.RowKit
attribute [local go_sem ↓] Go.wp_at_zero Go.wp_at_succ

set_option maxHeartbeats 400000 in
theorem c_plus (a b : Int) (w : World) (h1 : -1000000 ≤ a ∧ a ≤ 1000000) (h2 : -1000000 ≤ b ∧ b ≤ 1000000) :
    Calls Try.prog 50 #[.int .i64 a, .int .i64 b] w fun e w' => e = .returned (.int .i64 (a + b)) ∧ Below w.heap.size w w' := by
  obtain ⟨p1, p2⟩ := h1
  obtain ⟨p3, p4⟩ := h2
  go_enter Try.func50, Try.ntmps50
  go_wp2
  go_ret
  exact ⟨rfl, Below.refl _ _⟩

set_option maxHeartbeats 400000 in
theorem c_timeUntil (x y e : Int) (w : World) (h1 : -1000 ≤ x ∧ x ≤ 1000) (h2 : -1000 ≤ e ∧ e ≤ 1000) :
    Calls Try.prog 48 #[.agg #[.int .i64 x, .int .i64 y], .int .i64 e] w fun r w' => r = .returned (.int .i64 (e - x)) ∧ Below w.heap.size w w' := by
  obtain ⟨p1, p2⟩ := h1
  obtain ⟨p3, p4⟩ := h2
  go_enter Try.func48, Try.ntmps48
  go_wp2
  go_ret
  exact ⟨rfl, by (repeat (first | exact rfl | exact Below.refl _ _ | (with_reducible refine Below.drew ?_) | (with_reducible refine Below.drewN ?_ _) | (with_reducible refine Below.alloc ?_ ?_ _) | (with_reducible refine Below.setCell ?_ ?_ _) | (show _ ≤ _; focus (first | omega | (simp; done) | (simp; omega)))))⟩

def rowN (num : Nat → Int) (n : Nat) : List Int := (List.range n).map num
theorem rowN_len (num : Nat → Int) (n : Nat) : (rowN num n).length = n := by simp [rowN]
theorem rowN_succ (num : Nat → Int) (n : Nat) : rowN num (n + 1) = rowN num n ++ [num n] := by simp [rowN, List.range_succ]
theorem rowN_Z (num : Nat → Int) {n k : Nat} (h : k < n) : Z (rowN num n) k = num k := by simp [Z, rowN, h]

def numF (f : Nat) : Prop := False
  ∨ f = 48
  ∨ f = 41


set_option maxRecDepth 8000 in
set_option maxHeartbeats 4000000 in
theorem c_compared (f : Nat) (hf : numF f) (caps : Array Value) (num : Nat → Int) (L : List (Int × Int)) (E : List Int) (A E0 : Option Addr) (c d : Nat) (w : World) (hA : Cs w w.heap.size A L) (hE : Is w w.heap.size E0 E) (he : E.length ≤ L.length) (hn : L.length ≤ 140737488351232) (he2 : E.length ≤ 1000000)
    (hs : ∀ k W, k < E.length → Below w.heap.size w W → Calls Try.prog f (#[.agg #[.int .i64 (X L k), .int .i64 (Y L k)], .int .i64 (Z E k)] ++ caps) W fun e w' => e = .returned (.int .i64 (num k)) ∧ Below W.heap.size W w') :
    Calls Try.prog 47 #[.slice A L.length c, .slice E0 E.length d, .func (.func f) #[] caps] w fun e w' => ∃ v, e = .returned v ∧ IO w' w.heap.size v (rowN num E.length) ∧ Below w.heap.size w w' := by
  have Hs := Lib.hid hs; clear hs
  have hm : min (L.length : Int) (E.length : Int) = (E.length : Int) := by omega
  by_cases hlE : (E.length : Int) < (L.length : Int)
  all_goals
    rcases hf with h0
     | rfl
     | rfl
    · exact h0.elim
    all_goals
      go_enter Try.func47, Try.ntmps47
      go_wp2_with fail
      go_loopw [7, 14] (fun o i wr => ∃ k : Nat, k ≤ E.length ∧ i = .int .i64 k ∧ IO wr w.heap.size o (rowN num k) ∧ Below w.heap.size w wr) (fun _ i _ => E.length - (intOf i).toNat)
      case atStart => exact ⟨0, by omega, rfl, IO.nil _ _, Below.refl _ _⟩
      case round =>
        obtain ⟨k, hk, rfl, hown, hb⟩ := hrel
        have hsz := hb.size
        by_cases hlt : k < E.length
        · obtain ⟨b, off, rfl, hlb, hc⟩ := hA (by omega)
          obtain ⟨b2, off2, rfl, hlb2, hc2⟩ := hE (by omega)
          have c1 := (hb.cell (p := ⟨b, off + k * 2, none⟩) hlb).trans (hc k (by omega)).1
          have c2 := (hb.cell (p := ⟨b, off + k * 2 + 1, none⟩) hlb).trans (hc k (by omega)).2
          have c3 := (hb.cell (p := ⟨b2, off2 + k, none⟩) hlb2).trans (hc2 k hlt)
          have hlw : b < wr.heap.size := by omega
          have hlw2 : b2 < wr.heap.size := by omega
          have p1 : (0 : Int) ≤ (k : Int) := by omega
          have p2 : (k : Int) < (E.length : Int) := by omega
          have p3 : (k : Int) < (L.length : Int) := by omega
          have q5 : (rowN num k).length ≤ 1000000000000 := by rw [rowN_len]; omega
          clear hc hc2
          have HC := Lib.hid (Hs.out k wr.drew hlt hb.drew)
          go_wp2_with fail
          go_region_held3 (fun w' => w'.cell? ⟨b, off + k * 2, none⟩ = some (.int .i64 (X L k)) ∧ w'.cell? ⟨b, off + k * 2 + 1, none⟩ = some (.int .i64 (Y L k)) ∧ w'.cell? ⟨b2, off2 + k, none⟩ = some (.int .i64 (Z E k)))
            (first
              | go_keep
              | exact ⟨(hb5.cell (p := ⟨b, _, none⟩) hlw).trans c1, (hb5.cell (p := ⟨b, _, none⟩) hlw).trans c2, (hb5.cell (p := ⟨b2, _, none⟩) hlw2).trans c3⟩
              | exact ⟨(hb6.cell (p := ⟨b, _, none⟩) hlb).trans (((hb5.alloc hb5.size _).cell (p := ⟨b, _, none⟩) hlw).trans c1), (hb6.cell (p := ⟨b, _, none⟩) hlb).trans (((hb5.alloc hb5.size _).cell (p := ⟨b, _, none⟩) hlw).trans c2), (hb6.cell (p := ⟨b2, _, none⟩) hlb2).trans (((hb5.alloc hb5.size _).cell (p := ⟨b2, _, none⟩) hlw2).trans c3)⟩)
            (first
              | (refine HC.out.mono ?_; rintro e w5 ⟨rfl, hb5⟩)
              | (refine step_I (by rfl) (.tmp 17) (.tmp 28) (by rfl) w.heap.size u7 (rowN num k) (num k) w5.heap.size (by rfl) ((hown.drew.below hb5 (Nat.le_refl _)).alloc _) (by rfl) (heap_alloc_new _ _) q5 ?_ ?_; (have h56 := hb5.size; simp at h56 ⊢; omega); intro g cap w6 hown6 hgr hb6))
          go_wp2_with fail
          go_roundw
          case rel =>
            refine ⟨k + 1, by omega, by go_num, by rw [rowN_succ]; exact hown6, ?_⟩
            refine Below.trans ?_ hb6
            refine Below.alloc ?_ (by have h56 := hb5.size; simp at h56 ⊢; omega) _
            exact hb.drew.trans (hb5.mono hsz)
          case measure => simp [intOf]; omega
        · have p2 : ¬ (k : Int) < (E.length : Int) := by omega
          have p3 : (L.length : Int) = (E.length : Int) ∨ (E.length : Int) < (L.length : Int) := by omega
          obtain rfl : k = E.length := by omega
          go_wp2_with fail
          go_ret
          exact ⟨_, rfl, hown, hb⟩


def stepF (s : Nat) : Prop := False
  ∨ s = 50

set_option maxHeartbeats 4000000 in
theorem c_foldII (s : Nat) (hf : stepF s) (acc : Nat → Int) (E : List Int) (A : Option Addr) (c : Nat) (w : World) (hE : Is w w.heap.size A E) (hn : E.length ≤ 1000000)
    (hs : ∀ k W, k < E.length → Calls Try.prog s #[.int .i64 (acc k), .int .i64 (Z E k)] W fun e w' => e = .returned (.int .i64 (acc (k + 1))) ∧ Below W.heap.size W w') :
    Calls Try.prog 49 #[.slice A E.length c, .int .i64 (acc 0), .func (.func s) #[] #[]] w fun e w' => e = .returned (.int .i64 (acc E.length)) ∧ Below w.heap.size w w' := by
  have Hs := Lib.hid hs; clear hs
  rcases hf with h0
   | rfl
  · exact h0.elim
  all_goals
    go_enter Try.func49, Try.ntmps49
    go_wp2_with fail
    go_loopw [7, 13] (fun a i wr => ∃ k : Nat, k ≤ E.length ∧ i = .int .i64 k ∧ a = .int .i64 (acc k) ∧ Below w.heap.size w wr) (fun _ i _ => E.length - (intOf i).toNat)
    case atStart => exact ⟨0, Nat.zero_le _, rfl, rfl, Below.refl _ _⟩
    case round =>
      obtain ⟨k, hk, rfl, rfl, hb⟩ := hrel
      by_cases hlt : k < E.length
      · obtain ⟨b, off, rfl, hlb, hc⟩ := hE (by omega)
        have c1 := (hb.cell (p := ⟨b, off + k, none⟩) hlb).trans (hc k hlt)
        clear hc
        have hsz := hb.size
        go_wp2_with fail
        refine (Hs.out k _ hlt).mono ?_
        rintro e w1 ⟨rfl, hb1⟩
        go_wp2_with fail
        go_roundw
        case rel => exact ⟨k + 1, by omega, by go_num, rfl, hb.trans (hb1.mono hsz)⟩
        case measure => simp [intOf]; omega
      · go_wp2_with fail
        go_ret
        obtain rfl : k = E.length := by omega
        exact ⟨rfl, hb⟩

end Go.Proofs.Ythoendonhkffkaa

