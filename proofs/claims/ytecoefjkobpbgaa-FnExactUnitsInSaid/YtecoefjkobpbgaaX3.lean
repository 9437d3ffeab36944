/- the exact laws' copies of rows of numbers: toIntS -/
import Derived.Test.YtecoefjkobpbgaaX
import Derived.Test.YtecoefjkobpbgaaH
import Derived.Test.YtecoefjkobpbgaaO
import Derived.Test.YtecoefjkobpbgaaM10
namespace Go.Proofs.Ytecoefjkobpbgaa
set_option linter.unusedVariables false
open Go.RowKit
attribute [local go_sem ↓] Go.wp_at_zero Go.wp_at_succ

def fillI (xs : List Int) (k : Nat) : List Int := xs.take k ++ List.replicate (xs.length - k) 0
theorem fillI_len {xs : List Int} {k : Nat} (h : k ≤ xs.length) : (fillI xs k).length = xs.length := by simp [fillI]; omega
theorem fillI_succ {xs : List Int} {k : Nat} (h : k < xs.length) : (fillI xs k).set k (Z xs k) = fillI xs (k + 1) := by
  unfold fillI
  have e : xs.length - k = (xs.length - (k + 1)) + 1 := by omega
  rw [e, List.replicate_succ, List.set_append_right _ _ (by simp; omega)]
  have e2 : k - (xs.take k).length = 0 := by simp; omega
  have e3 : xs.take (k + 1) = xs.take k ++ [xs[k]] := List.take_succ_eq_append_getElem h
  have e4 : Z xs k = xs[k] := by simp [Z, h]
  rw [e2, List.set_cons_zero, e3, e4, List.append_assoc]
  rfl
theorem zerosI (n : Nat) : (madeCells (Value.int .i64 0).cells (n * 1)).toList = List.replicate n (Value.int .i64 0) := by
  apply List.ext_getElem?
  intro i
  by_cases h : i < n
  · simp [madeCells, Value.cells, h, Nat.mod_one]
  · rw [List.getElem?_eq_none (by simp [madeCells]; omega), List.getElem?_eq_none (by simp; omega)]
theorem fillI_all (xs : List Int) : fillI xs xs.length = xs := by simp [fillI]

set_option maxHeartbeats 2000000 in
theorem c_toIntS (xs : List Int) (A : Option Addr) (c : Nat) (w : World) (hA : Is w w.heap.size A xs) (hn : xs.length ≤ 1048576) :
    Calls Try.prog 36 #[.slice A xs.length c] w fun e w' => ∃ v, e = .returned v ∧ IO w' w.heap.size v xs ∧ Below w.heap.size w w' := by
  obtain ⟨i0, hi, hz0, hz1, hz2⟩ := info_parts infoI
  go_enter Try.func36, Try.ntmps36
  go_wp2_with (at_make; refine wpList_make_full w rfl _ _ _ rfl w.heap.size 3 i0 _ 1 Try.underlying25 hi hz0 hz1 .i64 .i64 _ _ xs.length rfl rfl rfl rfl (by rw [hz2]; omega) (by simp only [maxLen]; omega) (Nat.le_refl _) ?_; intro w1 hown1 hgr1)
  have hb1 : Below w.heap.size w w1 := (Below.refl _ _).grown hgr1 (Nat.le_refl _) (by simp)
  have o1 : IO w1 w.heap.size (.slice (some ⟨w.heap.size, 0, none⟩) xs.length xs.length) (fillI xs 0) := by
    unfold IO
    rw [fillI_len (by omega), show fillI xs 0 = List.replicate xs.length 0 by simp [fillI], List.map_replicate, ← zerosI]
    exact hown1
  clear hown1 hgr1
  go_loopw [4] (fun i wr => ∃ k : Nat, k ≤ xs.length ∧ i = .int .i64 k ∧ IO wr w.heap.size (.slice (some ⟨w.heap.size, 0, none⟩) xs.length xs.length) (fillI xs k) ∧ Below w.heap.size w wr)
    (fun i _ => xs.length - (intOf i).toNat)
  case atStart => exact ⟨0, by omega, rfl, o1, hb1⟩
  case round =>
    obtain ⟨k, hk, rfl, hown, hb⟩ := hrel
    by_cases hlt : k < xs.length
    · obtain ⟨b, off, rfl, hlb, hc⟩ := hA (by omega)
      have c1 := (hb.cell (p := ⟨b, off + k, none⟩) hlb).trans (hc k hlt)
      obtain ⟨-, hcl, hfr⟩ := hown.cells
      have d1 := hcl k hlt
      have f1 := hfr k
      have HS := Lib.hid (hown.store k (Z xs k))
      have hsz := hb.size
      clear hc hcl hfr hb1 o1
      go_wp2_with fail
      go_roundw
      case rel => exact ⟨k + 1, by omega, by go_num, by rw [← fillI_succ hlt]; exact HS.out, by (repeat (first | exact hb | exact Below.refl _ _ | (with_reducible refine Below.drew ?_) | (with_reducible refine Below.drewN ?_ _) | (with_reducible refine Below.alloc ?_ ?_ _) | (with_reducible refine Below.setCell ?_ ?_ _) | (show _ ≤ _; focus (first | omega | (simp; done) | (simp; omega)))))⟩
      case measure => simp [intOf]; omega
    · go_wp2_with fail
      go_ret
      obtain rfl : k = xs.length := by omega
      rw [fillI_all] at hown
      exact ⟨_, rfl, hown, hb⟩

end Go.Proofs.Ytecoefjkobpbgaa

