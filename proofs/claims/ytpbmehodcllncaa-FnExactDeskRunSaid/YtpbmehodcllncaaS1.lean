/- impl.WaitsOf: a fold with a closure that keeps two variables · one step of impl.WaitsOf's closure -/
import Derived.Test.YtpbmehodcllncaaC
import Derived.Test.YtpbmehodcllncaaM
import Derived.Test.YtpbmehodcllncaaG2
import Derived.Test.YtpbmehodcllncaaO
namespace Go.Proofs.Ytpbmehodcllncaa
set_option linter.unusedVariables false
open Go.RowKit
attribute [local go_sem ↓] Go.wp_at_zero Go.wp_at_succ

/-- what the closure's two variables hold ahead of the customer k -/
def wv (L : List (Int × Int)) : Nat → Int
  | 0 => 0
  | k + 1 => waitAt L k
def ay (L : List (Int × Int)) : Nat → Int
  | 0 => 0
  | k + 1 => Y L k
theorem wv_succ {L : List (Int × Int)} (h : cOk L = true) {k : Nat} (hk : k < L.length) : waitAt L k = max 0 (wv L k + ay L k - (X L k - prevOf L k)) := by
  cases k with
  | zero =>
    have := cOk_bd h hk
    simp only [waitAt, wv, ay, prevOf]; simp; omega
  | succ k => simp only [waitAt, wv, ay, prevOf_succ]; omega
theorem wv_bd {L : List (Int × Int)} (h : cOk L = true) {k : Nat} (hk : k < L.length) : 0 ≤ wv L k ∧ wv L k ≤ 100 ∧ 0 ≤ ay L k ∧ ay L k ≤ 9 ∧ 0 ≤ prevOf L k ∧ prevOf L k ≤ 60 := by
  have hl := cOk_len h
  cases k with
  | zero => simp [wv, ay, prevOf]
  | succ k =>
    have := waitAt_bd h k (by omega)
    have := cOk_bd h (k := k) (by omega)
    simp only [wv, ay, prevOf_succ]; omega
/-- what holds ahead of the customer k: the variables lie in the blocks p and q, the list v is the first k waits -/
structure WInv (L : List (Int × Int)) (w : World) (B p q b : Nat) (k : Nat) (v : Value) (W : World) : Prop where
  below : Below B w W
  hp : B ≤ p
  hpq : p < q
  hqb : q < b
  hb : b ≤ W.heap.size
  cp : W.heap[p]? = some (.cells #[.int .i64 (wv L k)] 3 (0, 0))
  cq : W.heap[q]? = some (.cells #[.int .i64 (prevOf L k), .int .i64 (ay L k)] 30 (0, 0))
  own : IO W b v (waitsTo L k)
theorem WInv.keep {L : List (Int × Int)} {w : World} {B p q b k : Nat} {v : Value} {W W' : World} (h : WInv L w B p q b k v W) (hW : Below W.heap.size W W') : WInv L w B p q b k v W' := by
  obtain ⟨h1, h2, h3, h4, h5, h6, h7, h8⟩ := h
  have hs := hW.size
  exact ⟨h1.trans (hW.mono (by omega)), h2, h3, h4, by omega, (hW.block p (by omega)).trans h6, (hW.block q (by omega)).trans h7, h8.below hW (Nat.le_refl _)⟩


end Go.Proofs.Ytpbmehodcllncaa

namespace Go.Proofs.Ytpbmehodcllncaa
set_option linter.unusedVariables false
open Go.RowKit
attribute [local go_sem ↓] Go.wp_at_zero Go.wp_at_succ

end Go.Proofs.Ytpbmehodcllncaa

