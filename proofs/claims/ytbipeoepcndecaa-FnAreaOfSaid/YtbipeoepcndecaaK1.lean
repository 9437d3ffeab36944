/- spec.l3Work, spec.WorkAt, spec.ServedBy · spec.BusyOf · spec.ComeIn -/
import Derived.Test.YtbipeoepcndecaaB
import Derived.Test.YtbipeoepcndecaaO
import Derived.Test.YtbipeoepcndecaaM
namespace Go.Proofs.Ytbipeoepcndecaa
set_option linter.unusedVariables false
open Go.RowKit
attribute [local go_sem ↓] Go.wp_at_zero Go.wp_at_succ

theorem Z_workTo {L : List (Int × Int)} {n k : Nat} (h : k < n) : Z (workTo L n) k = wk L k := by simp [Z, workTo, h]

set_option maxHeartbeats 4000000 in
theorem c_l3Work (L : List (Int × Int)) (h : cOk L = true) (A : Option Addr) (c : Nat) (m : Nat) (hm : m ≤ 200) (w : World) (hA : Cs w w.heap.size A L) (hn : L.length ≤ 140737488351232) :
    Calls Try.prog 55 #[.slice A L.length c, .int .i64 m] w fun e w' => ∃ v, e = .returned v ∧ IO w' w.heap.size v (workTo L (m + 1)) ∧ Below w.heap.size w w' := by
  have Hbd := Lib.hid (fun k => @cOk_bd L k h)
  have Harr := Lib.hid (fun t j hj => @arrTo_nn L h t j hj)
  have Hwk := Lib.hid (fun t => @wk_bd L h t)
  have hlen := cOk_len h
  clear h
  go_enter Try.func55, Try.ntmps55
  go_wp2_with fail
  go_loopw [5, 6, 7] (fun o s i wr => ∃ t : Nat, t ≤ m + 1 ∧ i = .int .i64 t ∧ s = .int .i64 (carry L t) ∧ IO wr w.heap.size o (workTo L t) ∧ Below w.heap.size w wr)
    (fun _ _ i _ => m + 1 - (intOf i).toNat)
  case atStart => exact ⟨0, by omega, rfl, rfl, IO.empty _ (Nat.le_refl _), by (repeat (first | exact rfl | exact Below.refl _ _ | (with_reducible refine Below.drew ?_) | (with_reducible refine Below.drewN ?_ _) | (with_reducible refine Below.alloc ?_ ?_ _) | (with_reducible refine Below.setCell ?_ ?_ _) | (show _ ≤ _; focus (first | omega | (simp; done) | (simp; omega)))))⟩
  case round =>
    obtain ⟨t, ht, rfl, rfl, hown, hb⟩ := hrel
    have hsz := hb.size
    by_cases hlt : t ≤ m
    · have bw := Hwk.out t
      have hwc := wk_carry L t
      have bc : 0 ≤ carry L t ∧ carry L t ≤ 72 := by
        have := (Harr.out (t : Int) L.length (Nat.le_refl _)).1
        cases t with
        | zero => simp [carry]
        | succ u => have := Hwk.out u; simp only [carry]; omega
      have HWC := Lib.hid hwc
      clear hwc
      go_wp2_with fail
      go_loop [6, 8] (fun s i => ∃ j : Nat, j ≤ L.length ∧ i = .int .i64 j ∧ s = .int .i64 (carry L t + arrTo L t j))
        (fun _ i => L.length - (intOf i).toNat)
      case atStart => exact ⟨0, by omega, rfl, by simp [arrTo]⟩
      case round =>
        obtain ⟨j, hj, rfl, rfl⟩ := hrel
        by_cases hjl : j < L.length
        · obtain ⟨b, off, rfl, hlb, hc⟩ := hA (by omega)
          have c1 := (hb.cell (p := ⟨b, off + j * 2, none⟩) hlb).trans (hc j hjl).1
          have c2 := (hb.cell (p := ⟨b, off + j * 2 + 1, none⟩) hlb).trans (hc j hjl).2
          clear hc
          have b1 := Harr.out (t : Int) j (by omega)
          have b2 := Hbd.out j hjl
          by_cases he : X L j = t
          · have heb : (X L j == (t : Int)) = true := beq_iff_eq.2 he
            have E := Lib.hid (show arrTo L t (j + 1) = arrTo L t j + Y L j by simp only [arrTo]; rw [if_pos he])
            clear he
            go_wp2_with fail
            go_round
            case rel => exact ⟨j + 1, by omega, by go_num, by rw [E.out]; simp; omega⟩
            case measure => simp [intOf]; omega
          · have heb : (X L j == (t : Int)) = false := beq_eq_false_iff_ne.2 he
            have E := Lib.hid (show arrTo L t (j + 1) = arrTo L t j by simp only [arrTo]; rw [if_neg he]; omega)
            clear he
            go_wp2_with fail
            go_round
            case rel => exact ⟨j + 1, by omega, by go_num, by rw [E.out]⟩
            case measure => simp [intOf]; omega
        · have hjf : ¬ ((j : Int) < (L.length : Int)) := by omega
          have hv : carry L t + arrTo L t j = wk L t := by rw [HWC.out, show j = L.length by omega]; rfl
          rw [hv]
          clear hv
          have q5 : (workTo L t).length ≤ 1000000000000 := by rw [workTo_len]; omega
          go_wp2_with (refine app_I ?_ (.tmp 35) (.tmp 37) ?_ w.heap.size u5 (workTo L t) (wk L t) wr.heap.size ?_ ?_ ?_ ?_ ?_ ?_ ?_; rfl; rfl; rfl; exact (hown.alloc _); rfl; exact (heap_alloc_new _ _); exact q5; exact (Nat.le_trans hsz (by simp)); intro g7 cap w7 hown7 hgr7 hb7)
          go_roundw
          case rel =>
            refine ⟨t + 1, by omega, by go_num, ?_, by rw [workTo_succ]; exact hown7, ?_⟩
            · simp only [carry]
              congr 1
              split <;> omega
            · refine Below.trans ?_ hb7
              (repeat (first | exact hb | exact Below.refl _ _ | (with_reducible refine Below.drew ?_) | (with_reducible refine Below.drewN ?_ _) | (with_reducible refine Below.alloc ?_ ?_ _) | (with_reducible refine Below.setCell ?_ ?_ _) | (show _ ≤ _; focus (first | omega | (simp; done) | (simp; omega)))))
          case measure => simp [intOf]; omega
    · have hlf : ¬ ((t : Int) ≤ (m : Int)) := by omega
      go_wp2_with fail
      go_ret
      refine ⟨_, rfl, ?_, hb⟩
      rw [show m + 1 = t by omega]
      exact hown

end Go.Proofs.Ytbipeoepcndecaa

namespace Go.Proofs.Ytbipeoepcndecaa
set_option linter.unusedVariables false
open Go.RowKit
attribute [local go_sem ↓] Go.wp_at_zero Go.wp_at_succ

def rows (B : List (Int × Int)) : List (List Int) := B.map fun c => [c.1, c.2]
theorem rows_len (B : List (Int × Int)) : (rows B).length = B.length := by simp [rows]
theorem rows_app (B : List (Int × Int)) (c : Int × Int) : rows (B ++ [c]) = rows B ++ [[c.1, c.2]] := by simp [rows]
theorem rows_set (B : List (Int × Int)) (n : Nat) (c : Int × Int) : rows (B.set n c) = (rows B).set n [c.1, c.2] := by simp [rows]
theorem rows_get {B : List (Int × Int)} {k : Nat} (h : k < B.length) : (rows B).getD k [] = [X B k, Y B k] := by simp [rows, X, Y, h]
theorem heap_new2' (w : World) (o p : Obj) : ((w.alloc o).alloc p).heap[w.heap.size + 1]? = some p := by
  have h := heap_alloc_new (w.alloc o) p
  rwa [show (w.alloc o).heap.size = w.heap.size + 1 by simp] at h
theorem alloc_setLow (w : World) (o : Obj) (g k : Nat) (u : Value) (h : g < w.heap.size) : (w.alloc o).setCell ⟨g, k, none⟩ u = (w.setCell ⟨g, k, none⟩ u).alloc o := by
  simp only [World.alloc, World.setCell]
  congr 1
  apply Array.ext_getElem?
  intro i
  simp only [Array.getElem?_modify, Array.getElem?_push, Array.size_modify]
  by_cases e : i = w.heap.size
  · subst e; simp; omega
  · simp [e]
theorem IO.lit2 (w : World) {base : Nat} (hb : base ≤ w.heap.size) (x y : Int) : IO (w.alloc (.cells #[.int .i64 x, .int .i64 y] 3)) base (.slice (some ⟨w.heap.size, 0, none⟩) 2 2) [x, y] :=
  ⟨rfl, .inr ⟨w.heap.size, 2, #[.int .i64 x, .int .i64 y], rfl, hb, heap_alloc_new _ _, Nat.le_refl _, by simp [maxLen], rfl, rfl⟩⟩
theorem Mid.setOut {lo hi g k : Nat} {w1 w : World} {u : Value} (h : Mid lo hi w1 w) (hg : g = lo ∨ hi ≤ g) : Mid lo hi w1 (w.setCell ⟨g, k, none⟩ u) := fun b h1 h2 =>
  (Below.heap_setCell _ _ _ _ (by show b ≠ g; omega)).trans (h b h1 h2)
/-- a row of the busy periods: its header and its two numbers -/
theorem IOO.pair {w : World} {base : Nat} {v : Value} {B : List (Int × Int)} {vs : List Value} (h : IOO w base v (rows B) vs) {k : Nat} (hk : k < B.length) :
    ∃ ib ic, vs.getD k undef = .slice (some ⟨ib, 0, none⟩) 2 ic ∧ base ≤ ib ∧ ib < w.heap.size ∧ w.cell? ⟨ib, 0, none⟩ = some (.int .i64 (X B k)) ∧ w.cell? ⟨ib, 1, none⟩ = some (.int .i64 (Y B k)) := by
  have hi := h.inner k (by rw [rows_len]; exact hk)
  rw [rows_get hk] at hi
  obtain ⟨A, c, hv, _, hc⟩ := hi.formG
  obtain ⟨ib, rfl, h1, h2, h3⟩ := hc (by simp)
  exact ⟨ib, c, hv, h1, h2, h3 0 (by simp), h3 1 (by simp)⟩

end Go.Proofs.Ytbipeoepcndecaa

namespace Go.Proofs.Ytbipeoepcndecaa
set_option linter.unusedVariables false
open Go.RowKit
attribute [local go_sem ↓] Go.wp_at_zero Go.wp_at_succ

def perOk (L : List (Int × Int)) (t : Int) : Bool := decide (0 ≤ t ∧ t ≤ ((busyP L).length : Int) - 1)
def comeR (L : List (Int × Int)) (t : Int) : List Int := if perOk L t = true then places L (X (busyP L) t.toNat) (Y (busyP L) t.toNat) else []
theorem comeR_yes {L : List (Int × Int)} {t : Int} (h : perOk L t = true) : comeR L t = places L (X (busyP L) t.toNat) (Y (busyP L) t.toNat) := if_pos h
theorem comeR_no {L : List (Int × Int)} {t : Int} (h : perOk L t = false) : comeR L t = [] := by simp [comeR, h]
theorem perOk_nat {L : List (Int × Int)} {t : Int} (h : perOk L t = true) : ∃ n : Nat, t = n ∧ n < (busyP L).length ∧ cOk L = true := by
  have h2 : 0 ≤ t ∧ t ≤ ((busyP L).length : Int) - 1 := of_decide_eq_true h
  refine ⟨t.toNat, by omega, by omega, ?_⟩
  by_cases hc : cOk L = true
  · exact hc
  · rw [busyP_no (by simpa using hc)] at h2
    simp at h2; omega
theorem busyP_inv {L : List (Int × Int)} (h : cOk L = true) : BInv L 200 (busyP L) := by rw [busyP_yes h]; exact busyT_inv L 200
theorem busyP_len (L : List (Int × Int)) : (busyP L).length ≤ 200 := by
  unfold busyP; split
  · exact busyT_len L 200
  · simp

end Go.Proofs.Ytbipeoepcndecaa

