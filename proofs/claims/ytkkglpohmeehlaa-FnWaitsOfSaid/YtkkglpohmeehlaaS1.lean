/- impl.WaitsOf: a fold with a closure that keeps two variables -/
import Derived.Test.YtkkglpohmeehlaaC
import Derived.Test.YtkkglpohmeehlaaE
import Derived.Test.YtkkglpohmeehlaaM6
import Derived.Test.YtkkglpohmeehlaaG2
import Derived.Test.YtkkglpohmeehlaaT
namespace Go.Proofs.Ytkkglpohmeehlaa
set_option linter.unusedVariables false
open Go.RowKit
attribute [local go_sem ↓] Go.wp_at_zero Go.wp_at_succ

set_option maxHeartbeats 1000000 in
theorem c_foldCL (I : Nat → Value → World → Prop) (caps : Array Value) (B : Nat) (L : List (Int × Int)) (A : Option Addr) (c : Nat) (v0 : Value) (wA w : World) (hA : Cs wA B A L) (hn : L.length ≤ 140737488351232)
    (hkeep : ∀ k v W W', I k v W → Below W.heap.size W W' → I k v W') (hbel : ∀ k v W, I k v W → Below B wA W)
    (hs : ∀ k v W, k < L.length → I k v W → Calls Try.prog 46 (#[v, .agg #[.int .i64 (X L k), .int .i64 (Y L k)]] ++ caps) W fun e w' => ∃ v', e = .returned v' ∧ I (k + 1) v' w')
    (h0 : I 0 v0 w) :
    Calls Try.prog 45 #[.slice A L.length c, v0, .func (.func 46) #[] caps] w fun e w' => ∃ v', e = .returned v' ∧ I L.length v' w' := by
  have Hs := Lib.hid hs; clear hs
  have Hk := Lib.hid hkeep; clear hkeep
  have Hb := Lib.hid hbel; clear hbel
  go_enter Try.func45, Try.ntmps45
  go_wp2_with fail
  go_loopw [7, 13] (fun a i wr => ∃ k : Nat, k ≤ L.length ∧ i = .int .i64 k ∧ Hid (I k a wr))
      (fun _ i _ => L.length - (intOf i).toNat)
  case atStart => exact ⟨0, Nat.zero_le _, rfl, h0⟩
  case round =>
    obtain ⟨k, hk, rfl, hI⟩ := hrel
    have hb := Hb.out _ _ _ hI.out
    by_cases hlt : k < L.length
    · obtain ⟨b, off, rfl, hlb, hc⟩ := hA (by omega)
      have c1 := (hb.cell (p := ⟨b, off + k * 2, none⟩) hlb).trans (hc k hlt).1
      have c2 := (hb.cell (p := ⟨b, off + k * 2 + 1, none⟩) hlb).trans (hc k hlt).2
      clear hc
      go_wp2_with fail
      have hsz : wr.heap.size ≤ (wr.alloc (.cells #[.int .i64 (X L k), .int .i64 (Y L k)] 35)).heap.size := by simp
      have hI2 := Hk.out k _ wr (wr.alloc (.cells #[.int .i64 (X L k), .int .i64 (Y L k)] 35)) hI.out (by (repeat (first | exact rfl | exact Below.refl _ _ | (with_reducible refine Below.drew ?_) | (with_reducible refine Below.drewN ?_ _) | (with_reducible refine Below.alloc ?_ ?_ _) | (with_reducible refine Below.setCell ?_ ?_ _) | (show _ ≤ _; focus (first | omega | (simp; done) | (simp; omega))))))
      refine (Hs.out k _ _ hlt hI2).mono ?_
      rintro e w1 ⟨v1, rfl, hI1⟩
      go_wp2_with fail
      go_roundw
      case rel => exact ⟨k + 1, by omega, by go_num, hI1⟩
      case measure => simp [intOf]; omega
    · go_wp2_with fail
      go_ret
      obtain rfl : k = L.length := by omega
      exact ⟨_, rfl, hI.out⟩

/-- what the closure's two variables hold ahead of the customer k -/
def wv (L : List (Int × Int)) : Nat → Int
  | 0 => 0
  | k + 1 => waitAt L k
def ay (L : List (Int × Int)) : Nat → Int
  | 0 => 0
  | k + 1 => Y L k
theorem wv_succ {L : List (Int × Int)} (h : cOk L = true) {k : Nat} (hk : k < L.length) : waitAt L k = max 0 (wv L k + ay L k - (X L k - prevOf L k)) := by
  cases k with
  | zero =>
    have := cOk_bd h hk
    simp only [waitAt, wv, ay, prevOf]; simp; omega
  | succ k => simp only [waitAt, wv, ay, prevOf_succ]; omega
theorem wv_bd {L : List (Int × Int)} (h : cOk L = true) {k : Nat} (hk : k < L.length) : 0 ≤ wv L k ∧ wv L k ≤ 100 ∧ 0 ≤ ay L k ∧ ay L k ≤ 9 ∧ 0 ≤ prevOf L k ∧ prevOf L k ≤ 60 := by
  have hl := cOk_len h
  cases k with
  | zero => simp [wv, ay, prevOf]
  | succ k =>
    have := waitAt_bd h k (by omega)
    have := cOk_bd h (k := k) (by omega)
    simp only [wv, ay, prevOf_succ]; omega
/-- what holds ahead of the customer k: the variables lie in the blocks p and q, the list v is the first k waits -/
structure WInv (L : List (Int × Int)) (w : World) (B p q b : Nat) (k : Nat) (v : Value) (W : World) : Prop where
  below : Below B w W
  hp : B ≤ p
  hpq : p < q
  hqb : q < b
  hb : b ≤ W.heap.size
  cp : W.heap[p]? = some (.cells #[.int .i64 (wv L k)] 3 (0, 0))
  cq : W.heap[q]? = some (.cells #[.int .i64 (prevOf L k), .int .i64 (ay L k)] 35 (0, 0))
  own : IO W b v (waitsTo L k)
theorem WInv.keep {L : List (Int × Int)} {w : World} {B p q b k : Nat} {v : Value} {W W' : World} (h : WInv L w B p q b k v W) (hW : Below W.heap.size W W') : WInv L w B p q b k v W' := by
  obtain ⟨h1, h2, h3, h4, h5, h6, h7, h8⟩ := h
  have hs := hW.size
  exact ⟨h1.trans (hW.mono (by omega)), h2, h3, h4, by omega, (hW.block p (by omega)).trans h6, (hW.block q (by omega)).trans h7, h8.below hW (Nat.le_refl _)⟩


end Go.Proofs.Ytkkglpohmeehlaa

