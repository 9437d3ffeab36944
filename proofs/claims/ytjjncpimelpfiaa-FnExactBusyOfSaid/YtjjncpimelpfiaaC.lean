/- impl.NeedOf, fold, spec.NeedOf -/
import Derived.Test.YtjjncpimelpfiaaA
import Derived.Test.YtjjncpimelpfiaaB
namespace Go.Proofs.Ytjjncpimelpfiaa
set_option linter.unusedVariables false
open Go.RowKit

set_option maxHeartbeats 400000 in
theorem c_needStep (a x y : Int) (w : World) (h : -9223372036854775808 ≤ a + y ∧ a + y ≤ 9223372036854775807) :
    Calls Try.prog 58 #[.int .i64 a, .agg #[.int .i64 x, .int .i64 y]] w fun e w' => e = .returned (.int .i64 (a + y)) ∧ Below w.heap.size w w' := by
  obtain ⟨h1, h2⟩ := h
  go_enter Try.func58, Try.ntmps58
  go_wp2
  go_ret
  exact ⟨rfl, (Below.refl _ _).alloc (Nat.le_refl _) _⟩

set_option maxHeartbeats 1000000 in
theorem c_foldCI (acc : Nat → Value) (L : List (Int × Int)) (A : Option Addr) (c : Nat) (w : World) (hA : Cs w w.heap.size A L) (hn : L.length ≤ 140737488351232)
    (hs : ∀ k W, k < L.length → Calls Try.prog 58 #[acc k, .agg #[.int .i64 (X L k), .int .i64 (Y L k)]] W fun e w' => e = .returned (acc (k + 1)) ∧ Below W.heap.size W w') :
    Calls Try.prog 57 #[.slice A L.length c, acc 0, .func (.func 58) #[] #[]] w fun e w' => e = .returned (acc L.length) ∧ Below w.heap.size w w' := by
  have Hs := Lib.hid hs; clear hs
  go_enter Try.func57, Try.ntmps57
  go_wp2_with fail
  go_loopw [7, 13] (fun a i wr => ∃ k : Nat, k ≤ L.length ∧ i = .int .i64 k ∧ a = acc k ∧ Below w.heap.size w wr)
      (fun _ i _ => L.length - (intOf i).toNat)
  case atStart => exact ⟨0, Nat.zero_le _, rfl, rfl, Below.refl _ _⟩
  case round =>
    obtain ⟨k, hk, rfl, rfl, hb⟩ := hrel
    by_cases hlt : k < L.length
    · obtain ⟨b, off, rfl, hlb, hc⟩ := hA (by omega)
      have c1 := (hb.cell (p := ⟨b, off + k * 2, none⟩) hlb).trans (hc k hlt).1
      have c2 := (hb.cell (p := ⟨b, off + k * 2 + 1, none⟩) hlb).trans (hc k hlt).2
      clear hc
      have hsz := hb.size
      go_wp2_with fail
      refine (Hs.out k _ hlt).mono ?_
      rintro e w1 ⟨rfl, hb1⟩
      go_wp2_with fail
      go_roundw
      case rel =>
        refine ⟨k + 1, by omega, by go_num, rfl, ?_⟩
        refine Below.trans ?_ (hb1.mono ?_)
        all_goals (repeat (first | exact hb | exact Below.refl _ _ | (with_reducible refine Below.drew ?_) | (with_reducible refine Below.drewN ?_ _) | (with_reducible refine Below.alloc ?_ ?_ _) | (with_reducible refine Below.setCell ?_ ?_ _) | (show _ ≤ _; focus (first | omega | (simp; done) | (simp; omega)))))
      case measure => simp [intOf]; omega
    · go_wp2_with fail
      go_ret
      obtain rfl : k = L.length := by omega
      exact ⟨rfl, hb⟩

set_option maxHeartbeats 1000000 in
theorem c_iNeedOf (L : List (Int × Int)) (A : Option Addr) (c : Nat) (w : World) (hA : Cs w w.heap.size A L) (hn : L.length ≤ 140737488351232) :
    Calls Try.prog 30 #[.slice A L.length c] w fun e w' => e = .returned (.int .i64 (needOf L)) ∧ Below w.heap.size w w' := by
  by_cases h : cOk L = true
  · have hsb := sumTo_bd h
    have hlen := cOk_len h
    have H := Lib.hid h; clear h
    have Hsb := Lib.hid hsb; clear hsb
    go_enter Try.func30, Try.ntmps30
    go_wp2_with fail
    refine (c_iCustomersOk L A c _ hA hn).mono ?_
    rintro e w1 ⟨rfl, hb1⟩
    rw [H.out]
    go_wp2_with fail
    refine (c_foldCI (fun k => .int .i64 (sumTo L k)) L A c _ ((hA.below hb1).more hb1.size) hn ?_).mono ?_
    · intro k W hk
      have h1 := Hsb.out k (by omega)
      have h2 := Hsb.out (k + 1) (by omega)
      simp only [sumTo] at h2
      exact c_needStep _ _ _ _ (by omega)
    · rintro e w2 ⟨rfl, hb2⟩
      go_wp2_with fail
      go_ret
      exact ⟨by simp [needOf, H.out], hb1.trans (hb2.mono hb1.size)⟩
  · have hno : cOk L = false := by simpa using h
    have H := Lib.hid hno; clear h hno
    go_enter Try.func30, Try.ntmps30
    go_wp2_with fail
    refine (c_iCustomersOk L A c _ hA hn).mono ?_
    rintro e w1 ⟨rfl, hb1⟩
    rw [H.out]
    go_wp2_with fail
    go_ret
    exact ⟨by simp [needOf, H.out], hb1⟩

end Go.Proofs.Ytjjncpimelpfiaa

