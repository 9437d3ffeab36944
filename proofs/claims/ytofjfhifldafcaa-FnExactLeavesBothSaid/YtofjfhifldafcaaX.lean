/- Helpers of the exact laws: sz, to, eq, mark, held -/
import Derived.Test.YtofjfhifldafcaaO
import Derived.Test.YtofjfhifldafcaaG2
import Derived.Test.YtofjfhifldafcaaM
namespace Go.Proofs.Ytofjfhifldafcaa
set_option linter.unusedVariables false
open Go.RowKit
attribute [local go_sem ↓] Go.wp_at_zero Go.wp_at_succ

/-- the first k of L, nothing behind -/
def fillTo (L : List (Int × Int)) (k : Nat) : List (Int × Int) := L.take k ++ List.replicate (L.length - k) (0, 0)
theorem fillTo_len {L : List (Int × Int)} {k : Nat} (h : k ≤ L.length) : (fillTo L k).length = L.length := by simp [fillTo]; omega
theorem fillTo_all (L : List (Int × Int)) : fillTo L L.length = L := by simp [fillTo]
theorem fillTo_succ {L : List (Int × Int)} {k : Nat} (h : k < L.length) : (fillTo L k).set k (X L k, Y L k) = fillTo L (k + 1) := by
  apply List.ext_getElem (by simp [fillTo]; omega)
  intro i h1 h2
  simp only [fillTo, List.length_set, List.length_append, List.length_take, List.length_replicate] at h1 h2
  rw [List.getElem_set]
  by_cases e : k = i
  · subst e
    simp only [if_true, fillTo]
    rw [List.getElem_append_left (by simp; omega), List.getElem_take, XY_eta L k h]
  · rw [if_neg e]
    simp only [fillTo]
    by_cases hi : i < k
    · rw [List.getElem_append_left (by simp; omega), List.getElem_append_left (by simp; omega), List.getElem_take, List.getElem_take]
    · rw [List.getElem_append_right (by simp; omega), List.getElem_append_right (by simp; omega), List.getElem_replicate, List.getElem_replicate]
theorem flatC_set (x y : Int) : ∀ (L : List (Int × Int)) (k : Nat), flatC (L.set k (x, y)) = ((flatC L).set (k * 2) (.int .i64 x)).set (k * 2 + 1) (.int .i64 y)
  | [], k => by simp [flatC]
  | c :: L, 0 => by simp [flatC]
  | c :: L, k + 1 => by
    have ih := flatC_set x y L k
    have e1 : (k + 1) * 2 = k * 2 + 1 + 1 := by omega
    simp only [List.set_cons_succ, e1]
    simp only [flatC, List.flatMap_cons, List.cons_append, List.nil_append, List.set_cons_succ] at ih ⊢
    rw [ih]
theorem CO.store {w : World} {base g n c : Nat} {M : List (Int × Int)} (h : CO w base (.slice (some ⟨g, 0, none⟩) n c) M) (k : Nat) (x y : Int) :
    CO ((w.setCell ⟨g, k * 2, none⟩ (.int .i64 x)).setCell ⟨g, k * 2 + 1, none⟩ (.int .i64 y)) base (.slice (some ⟨g, 0, none⟩) n c) (M.set k (x, y)) := by
  have hn : n = M.length := by
    rcases h.2 with ⟨h2, _⟩ | ⟨g', cap, cur, h2, _⟩
    · cases h2
    · injection h2
  subst hn
  have h1 := (World.ownsRow.stored (g := g) (cap := c) h (k * 2) (.int .i64 x)).1
  have h2 := (World.ownsRow.stored (g := g) (cap := c) h1 (k * 2 + 1) (.int .i64 y)).1
  unfold CO
  rw [flatC_set, List.length_set]
  exact h2
theorem madeAt (z : Array Value) (n j : Nat) (h : j < n) : (madeCells z n).toList[j]? = some (z[j % z.size]!) := by
  simp [madeCells, h]
theorem flatC_zeros (n : Nat) : (madeCells (Value.agg #[.int .i64 0, .int .i64 0]).cells (n * 2)).toList = flatC (List.replicate n (0, 0)) := by
  have hz : (Value.agg #[.int .i64 0, .int .i64 0]).cells = #[.int .i64 0, .int .i64 0] := rfl
  have hl : (flatC (List.replicate n (0, 0))).length = n * 2 := by rw [flatC_len]; simp
  apply List.ext_getElem?
  intro j
  by_cases h : j < n * 2
  · rw [hz, madeAt _ _ _ h]
    have h2 := flatC_at (List.replicate n (0, 0)) (j / 2) (by simp; omega)
    have e1 : X (List.replicate n (0, 0)) (j / 2) = 0 := by simp [X, show j / 2 < n by omega]
    have e2 : Y (List.replicate n (0, 0)) (j / 2) = 0 := by simp [Y, show j / 2 < n by omega]
    rw [e1, e2] at h2
    rcases Nat.mod_two_eq_zero_or_one j with h3 | h3
    · have e3 : j / 2 * 2 = j := by omega
      rw [e3] at h2
      rw [h2.1]; simp [h3]
    · have e3 : j / 2 * 2 + 1 = j := by omega
      rw [e3] at h2
      rw [h2.2]; simp [h3]
  · rw [List.getElem?_eq_none (by simp [madeCells]; omega), List.getElem?_eq_none (by omega)]

/-- what markCustomerS writes -/
def marks (n : Nat) (k : Int) : List (Int × Int) := (List.range n).map fun (i : Nat) => (k + 2 * (i : Int), k + 2 * (i : Int) + 1)
theorem marks_len (n : Nat) (k : Int) : (marks n k).length = n := by simp [marks]
theorem marks_X {n i : Nat} {k : Int} (h : i < n) : X (marks n k) i = k + 2 * i := by simp [X, marks, h]
theorem marks_Y {n i : Nat} {k : Int} (h : i < n) : Y (marks n k) i = k + 2 * i + 1 := by simp [Y, marks, h]
/-- the first i of L are marked -/
def markTo (L : List (Int × Int)) (k : Int) (i : Nat) : List (Int × Int) := (marks L.length k).take i ++ L.drop i
theorem markTo_len {L : List (Int × Int)} {k : Int} {i : Nat} (h : i ≤ L.length) : (markTo L k i).length = L.length := by simp [markTo, marks_len]; omega
theorem markTo_all (L : List (Int × Int)) (k : Int) : markTo L k L.length = marks L.length k := by
  have h := marks_len L.length k
  simp [markTo, List.take_of_length_le (show (marks L.length k).length ≤ L.length by omega)]
theorem markTo_succ {L : List (Int × Int)} {k : Int} {i : Nat} (h : i < L.length) : (markTo L k i).set i (k + 2 * (i : Int), k + 2 * (i : Int) + 1) = markTo L k (i + 1) := by
  have hm := marks_len L.length k
  apply List.ext_getElem (by simp [markTo, hm]; omega)
  intro j h1 h2
  simp only [markTo, List.length_set, List.length_append, List.length_take, List.length_drop, hm] at h1 h2
  rw [List.getElem_set]
  by_cases e : i = j
  · subst e
    simp only [if_true, markTo]
    rw [List.getElem_append_left (by simp [hm]; omega), List.getElem_take]
    simp [marks]
  · rw [if_neg e]
    simp only [markTo]
    by_cases hi : j < i
    · rw [List.getElem_append_left (by simp [hm]; omega), List.getElem_append_left (by simp [hm]; omega), List.getElem_take, List.getElem_take]
    · rw [List.getElem_append_right (by simp [hm]; omega), List.getElem_append_right (by simp [hm]; omega), List.getElem_drop, List.getElem_drop]
      congr 1
      simp [hm]; omega

def marksI (n : Nat) (k : Int) : List Int := (List.range n).map fun (i : Nat) => k + (i : Int)
theorem marksI_len (n : Nat) (k : Int) : (marksI n k).length = n := by simp [marksI]
theorem marksI_Z {n i : Nat} {k : Int} (h : i < n) : Z (marksI n k) i = k + i := by simp [Z, marksI, h]
def markITo (L : List Int) (k : Int) (i : Nat) : List Int := (marksI L.length k).take i ++ L.drop i
theorem markITo_all (L : List Int) (k : Int) : markITo L k L.length = marksI L.length k := by
  have h := marksI_len L.length k
  simp [markITo, List.take_of_length_le (show (marksI L.length k).length ≤ L.length by omega)]
theorem markITo_succ {L : List Int} {k : Int} {i : Nat} (h : i < L.length) : (markITo L k i).set i (k + (i : Int)) = markITo L k (i + 1) := by
  have hm := marksI_len L.length k
  apply List.ext_getElem (by simp [markITo, hm]; omega)
  intro j h1 h2
  simp only [markITo, List.length_set, List.length_append, List.length_take, List.length_drop, hm] at h1 h2
  rw [List.getElem_set]
  by_cases e : i = j
  · subst e
    simp only [if_true, markITo]
    rw [List.getElem_append_left (by simp [hm]; omega), List.getElem_take]
    simp [marksI]
  · rw [if_neg e]
    simp only [markITo]
    by_cases hi : j < i
    · rw [List.getElem_append_left (by simp [hm]; omega), List.getElem_append_left (by simp [hm]; omega), List.getElem_take, List.getElem_take]
    · rw [List.getElem_append_right (by simp [hm]; omega), List.getElem_append_right (by simp [hm]; omega), List.getElem_drop, List.getElem_drop]
      congr 1
      simp [hm]; omega

set_option maxHeartbeats 2000000 in
theorem c_heldIntS (n : Nat) (k0 : Int) (A : Option Addr) (c B : Nat) (w : World) (hA : Is w B A (marksI n k0)) (hn : n ≤ 1048576) (hk0 : 0 ≤ k0) (hk1 : k0 ≤ 1000000000) :
    Calls Try.prog 48 #[.slice A n c, .int .i64 k0] w fun e w' => e = .returned (.int .i64 (k0 + n)) ∧ w = w' := by
  go_enter Try.func48, Try.ntmps48
  go_wp2_with fail
  go_loop [1, 5] (fun kk i => ∃ k : Nat, k ≤ n ∧ i = .int .i64 k ∧ kk = .int .i64 (k0 + (k : Int))) (fun _ i => n - (intOf i).toNat)
  case atStart => exact ⟨0, by omega, rfl, by simp⟩
  case round =>
    obtain ⟨k, hk, rfl, rfl⟩ := hrel
    by_cases hlt : k < n
    · obtain ⟨b, off, rfl, hlb, hc⟩ := hA (by rw [marksI_len]; omega)
      have c1 := hc k (by rw [marksI_len]; omega)
      rw [marksI_Z hlt] at c1
      clear hc
      go_wp2_with fail
      go_round
      case rel => exact ⟨k + 1, by omega, by go_num, by go_num⟩
      case measure => simp [intOf]; omega
    · go_wp2_with fail
      go_ret
      obtain rfl : k = n := by omega
      exact ⟨rfl, rfl⟩

set_option maxHeartbeats 2000000 in
theorem c_markIntS (L : List Int) (k0 : Int) (v : Value) (base : Nat) (w : World) (hv : IO w base v L) (hn : L.length ≤ 1048576) (hk0 : 0 ≤ k0) (hk1 : k0 ≤ 1000000000) :
    Calls Try.prog 47 #[v, .int .i64 k0] w fun e w' => e = .returned (.int .i64 (k0 + L.length)) ∧ IO w' base v (marksI L.length k0) ∧ w.grownBy w' v.ownBlock := by
  rcases hv.2 with ⟨rfl, h0⟩ | ⟨g, cap, cur, rfl, -⟩
  · have e : marksI L.length k0 = [] := by rw [h0]; rfl
    rw [e, h0]
    go_enter Try.func47, Try.ntmps47
    go_wp2_with fail
    refine wp_loop_rounds 1 ?_
    rw [rounds_succ]
    go_wp2_with fail
    go_ret
    exact ⟨by simp, IO.nil _ _, World.grownBy.refl _ _⟩
  · go_enter Try.func47, Try.ntmps47
    go_wp2_with fail
    go_loopw [1, 5] (fun kk i wr => ∃ k : Nat, k ≤ L.length ∧ i = .int .i64 k ∧ kk = .int .i64 (k0 + (k : Int)) ∧ IO wr base (.slice (some ⟨g, 0, none⟩) L.length cap) (markITo L k0 k) ∧ w.grownBy wr (some g))
      (fun _ i _ => L.length - (intOf i).toNat)
    case atStart => exact ⟨0, by omega, rfl, by simp, by simpa [markITo] using hv, World.grownBy.refl _ _⟩
    case round =>
      obtain ⟨k, hk, rfl, rfl, hown, hgr⟩ := hrel
      by_cases hlt : k < L.length
      · obtain ⟨-, hcl, hfr⟩ := hown.cells
        have d1 := hcl k hlt
        have f1 := hfr k
        clear hcl hfr
        go_wp2_with fail
        go_roundw
        case rel =>
          refine ⟨k + 1, by omega, by go_num, by go_num, ?_, ?_⟩
          · rw [← markITo_succ hlt]
            exact hown.store k _
          · exact hgr.trans (grown_set _ _ _ _)
        case measure => simp [intOf]; omega
      · go_wp2_with fail
        go_ret
        obtain rfl : k = L.length := by omega
        rw [markITo_all] at hown
        exact ⟨rfl, hown, hgr⟩

end Go.Proofs.Ytofjfhifldafcaa

