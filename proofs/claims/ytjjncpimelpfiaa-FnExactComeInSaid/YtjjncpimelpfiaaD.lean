/- impl.comeUpTo, impl.ComeBy, spec.ComeBy -/
import Derived.Test.YtjjncpimelpfiaaC
import Derived.Test.YtjjncpimelpfiaaM2
namespace Go.Proofs.Ytjjncpimelpfiaa
set_option linter.unusedVariables false
open Go.RowKit

set_option maxHeartbeats 1000000 in
theorem c_comeUpTo (L : List (Int × Int)) (A : Option Addr) (c : Nat) (t : Int) (w : World) (hA : Cs w w.heap.size A L) (hn : L.length ≤ c) (hc' : L.length ≤ 140737488351232) :
    Calls Try.prog 48 #[.slice A L.length c, .int .i64 t] w fun e w' => e = .returned (.slice A (cnt L t) c) ∧ Below w.heap.size w w' := by
  go_enter Try.func48, Try.ntmps48
  go_wp2_with fail
  go_loopw [9] (fun i wr => ∃ k : Nat, k ≤ L.length ∧ i = .int .i64 k ∧ Hid (∀ j, j < k → X L j ≤ t) ∧ Below w.heap.size w wr)
      (fun i _ => L.length - (intOf i).toNat)
  case atStart => exact ⟨0, Nat.zero_le _, rfl, fun j h => by omega, Below.refl _ _⟩
  case round =>
    obtain ⟨k, hk, rfl, hall, hb⟩ := hrel
    by_cases hlt : k < L.length
    · obtain ⟨b, off, rfl, hlb, hc⟩ := hA (by omega)
      have c1 := (hb.cell (p := ⟨b, off + k * 2, none⟩) hlb).trans (hc k hlt).1
      have c2 := (hb.cell (p := ⟨b, off + k * 2 + 1, none⟩) hlb).trans (hc k hlt).2
      clear hc
      have hsz := hb.size
      by_cases ht : t < X L k
      · go_wp2_with fail
        go_ret
        refine ⟨?_, by (repeat (first | exact hb | exact Below.refl _ _ | (with_reducible refine Below.drew ?_) | (with_reducible refine Below.drewN ?_ _) | (with_reducible refine Below.alloc ?_ ?_ _) | (with_reducible refine Below.setCell ?_ ?_ _) | (show _ ≤ _; focus (first | omega | (simp; done) | (simp; omega)))))⟩
        rw [cnt_of (n := k) (by omega) hall.out (fun _ => ht)]
        rfl
      · go_wp2_with fail
        go_roundw
        case rel =>
          refine ⟨k + 1, by omega, by go_num, ?_, by (repeat (first | exact hb | exact Below.refl _ _ | (with_reducible refine Below.drew ?_) | (with_reducible refine Below.drewN ?_ _) | (with_reducible refine Below.alloc ?_ ?_ _) | (with_reducible refine Below.setCell ?_ ?_ _) | (show _ ≤ _; focus (first | omega | (simp; done) | (simp; omega)))))⟩
          intro j hj
          by_cases e : j = k
          · subst e; omega
          · exact hall.out j (by omega)
        case measure => simp [intOf]; omega
    · go_wp2_with fail
      go_ret
      obtain rfl : k = L.length := by omega
      refine ⟨?_, hb⟩
      rw [cnt_of (n := L.length) (by omega) hall.out (fun h => by omega)]
      rfl

set_option maxHeartbeats 1000000 in
theorem c_iComeBy (L : List (Int × Int)) (A : Option Addr) (c : Nat) (t : Int) (w : World) (hA : Cs w w.heap.size A L) (hn : L.length ≤ c) (hc' : L.length ≤ 140737488351232) :
    Calls Try.prog 15 #[.slice A L.length c, .int .i64 t] w fun e w' => e = .returned (comeV L t) ∧ Below w.heap.size w w' := by
  by_cases h : cOk L = true
  · by_cases ht : 0 ≤ t ∧ t ≤ 1000
    · have ht' : decide (0 ≤ t ∧ t ≤ 1000) = true := by simpa using ht
      have Hx := Lib.hid (show comeOk L t = true by simp [comeOk, h, ht])
      have Hnd := Lib.hid (needOf_take h (cnt_le L t))
      have Hlt := Lib.hid (len_take (cnt_le L t))
      have hle := cnt_le L t
      have hlen := cOk_len h
      have H := Lib.hid h; clear h
      go_enter Try.func15, Try.ntmps15
      go_wp2_with fail
      refine (c_iCustomersOk L A c _ hA (by omega)).mono ?_
      rintro e w1 ⟨rfl, hb1⟩
      rw [H.out]
      go_wp2_with fail
      refine (c_within _ _ _ _).mono ?_
      rintro e w' ⟨rfl, rfl⟩
      go_wp2_with fail
      refine (c_comeUpTo L A c t _ ((hA.below hb1).more hb1.size) hn hc').mono ?_
      rintro e w2 ⟨rfl, hb2⟩
      go_wp2_with fail
      have hA2 := ((((hA.below hb1).more hb1.size).below hb2).more hb2.size).take (cnt L t)
      have K := c_iNeedOf (L.take (cnt L t)) A c w2 hA2 (by rw [Hlt.out]; omega)
      rw [Hlt.out, Hnd.out] at K
      refine K.mono ?_
      clear K
      rintro e w3 ⟨rfl, hb3⟩
      go_wp2_with fail
      go_ret3
      rw [comeV_yes Hx.out]
      exact ⟨rfl, (hb1.trans (hb2.mono hb1.size)).trans (hb3.mono (Nat.le_trans hb1.size hb2.size))⟩
    · have ht' : decide (0 ≤ t ∧ t ≤ 1000) = false := by simpa using ht
      have Hx := Lib.hid (show ¬ comeOk L t = true by simp [comeOk, ht])
      have hlen := cOk_len h
      have H := Lib.hid h; clear h
      go_enter Try.func15, Try.ntmps15
      go_wp2_with fail
      refine (c_iCustomersOk L A c _ hA (by omega)).mono ?_
      rintro e w1 ⟨rfl, hb1⟩
      rw [H.out]
      go_wp2_with fail
      refine (c_within _ _ _ _).mono ?_
      rintro e w' ⟨rfl, rfl⟩
      go_wp2_with fail
      go_ret3
      rw [comeV_no Hx.out]
      exact ⟨rfl, hb1⟩
  · have hno : cOk L = false := by simpa using h
    have Hx := Lib.hid (show ¬ comeOk L t = true by simp [comeOk, hno])
    have H := Lib.hid hno; clear h hno
    go_enter Try.func15, Try.ntmps15
    go_wp2_with fail
    refine (c_iCustomersOk L A c _ hA (by omega)).mono ?_
    rintro e w1 ⟨rfl, hb1⟩
    rw [H.out]
    go_wp2_with fail
    go_ret3
    rw [comeV_no Hx.out]
    exact ⟨rfl, hb1⟩

end Go.Proofs.Ytjjncpimelpfiaa

