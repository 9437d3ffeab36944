/- slices.Backward over customers; impl.LastLeave -/
import Derived.Test.YtecoefjkobpbgaaC
import Derived.Test.YtecoefjkobpbgaaM
import Derived.RangeFuncNested
import Derived.RangeFuncBound
import Derived.RangeFuncCalls
import Derived.RangeFuncLeaves
import Derived.RangeFuncBox
import Derived.Shelf.Abstract
import Derived.Shelf.RegionOpen
import Derived.OwnWalkIn
import Derived.TacticsInMore
import Derived.LoopNIn
import Derived.LoopIn
namespace Go.Proofs.Ytecoefjkobpbgaa
set_option linter.unusedVariables false
open Go.RowKit Go.Shelf
attribute [local go_sem] Oper.semAt_some

/-- what a round keeps: all below B but .., and block Bs -/
def Kpt (B Bs : Nat) (W W' : World) : Prop := Below B W W' ∧ W'.heap[Bs]? = W.heap[Bs]?
theorem Kpt.t {B Bs : Nat} {A C D : World} (h : Kpt B Bs A C) (k : Kpt B Bs C D) : Kpt B Bs A D := ⟨h.1.trans k.1, k.2.trans h.2⟩
theorem Kpt.b {B Bs : Nat} {w : World} (hn : B ≤ w.heap.size) (hs : Bs < w.heap.size) (W : World) (l : Nat) (o o' : Obj) (hl : w.heap.size ≤ l) (h : W.heap[l]? = some o) (h1 : o.isCells = false) (h2 : o.isWalk = false) : Kpt B Bs W (W.putObj l o') :=
  ⟨belowK_b hn W l o o' hl h h1 h2, by
    have hg := grownBy_putObj' W l o'
    have := (Array.getElem?_eq_some_iff.1 h).1
    exact hg.block Bs (by omega) (by simp; omega)⟩

/-- the places from the last one to the first one, the first k of them -/
def downTo (n k : Nat) : List Nat := (List.range k).map fun j => n - 1 - j
theorem downTo_succ (n k : Nat) : downTo n (k + 1) = downTo n k ++ [n - 1 - k] := by simp [downTo, List.range_succ]
theorem downTo_len (n k : Nat) : (downTo n k).length = k := by simp [downTo]

set_option maxRecDepth 100000 in
set_option maxHeartbeats 4000000 in
theorem backward1_in (F : Fence) (n : Nat) (h60 : F.fn 71) (hro : F.round = none) (hn : 1 ≤ n) (l Bs B cap : Nat) (A : Option Addr) (L : List (Int × Int)) (hlen : L.length ≤ 140737488351232)
    (J Jx : List (Fin L.length) → World → Prop)
    (hY : ∀ pre x W, J pre W → pre.length < L.length → YieldAt F (n - 1) Try.prog l #[.int .i64 (x.1 : Int), .agg #[.int .i64 (X L x.1), .int .i64 (Y L x.1)]] W fun e W' =>
      (e = .returned (.bool true) ∧ J (pre ++ [x]) W' ∧ Kpt B Bs W W') ∨ (e = .returned (.bool false) ∧ Jx (pre ++ [x]) W'))
    (W : World) (hBs : W.heap[Bs]? = some (.cells #[.slice A L.length cap] 23 (0, 0))) (hc : Cs W B A L) (h0 : J [] W) :
    CallsIn F n Try.prog 71 #[.func (.yield l) #[] #[], .pointer (some ⟨Bs, 0, none⟩)] W fun e W' => (∃ v, e = .returned v) ∧
      ((∃ ys, (ys.map Fin.val = downTo L.length L.length) ∧ J ys W') ∨ (∃ pre, True ∧ Jx pre W')) := by
  refine callsIn_of_wp Try.func71 rfl h60 ?_ hro
  simp only [Try.ntmps71, List.size_toArray, List.length_cons, List.length_nil, Nat.reduceAdd, Nat.reduceSub, Array.replicate_succ, Array.replicate_zero, List.push_toArray, List.append_toArray, List.nil_append, List.cons_append]
  have hb0 : W.cell? ⟨Bs, 0, none⟩ = some (.slice A L.length cap) := by simp [World.cell?, hBs]
  gi_wp2
  gi_loopw [3] (fun i wr => ∃ (k j : Nat) (pre : List (Fin L.length)), k + j = L.length ∧ i = .int .i64 ((k : Int) - 1) ∧ pre.map Fin.val = downTo L.length j ∧ J pre wr ∧ Kpt B Bs W wr)
    (fun i _ => (intOf i + 1).toNat)
  case atStart => exact ⟨L.length, 0, [], by omega, rfl, rfl, h0, Below.refl _ _, rfl⟩
  case round =>
    obtain ⟨k, j, pre, hkj, rfl, hpre, hJs, hnx⟩ := hrel
    have hbr : wr.cell? ⟨Bs, 0, none⟩ = some (.slice A L.length cap) := by simp [World.cell?, hnx.2, hBs]
    by_cases hlt : 0 < k
    · obtain ⟨b, off, rfl, hlb, hcc⟩ := hc (by omega)
      have c1 := (hnx.1.cell (p := ⟨b, off + (k - 1) * 2, none⟩) hlb).trans (hcc (k - 1) (by omega)).1
      have c2 := (hnx.1.cell (p := ⟨b, off + (k - 1) * 2 + 1, none⟩) hlb).trans (hcc (k - 1) (by omega)).2
      have hpl : pre.length = j := by rw [← List.length_map (f := Fin.val), hpre, downTo_len]
      have hpl' : pre.length < L.length := by omega
      obtain ⟨x, hx⟩ : ∃ x : Fin L.length, x.1 = k - 1 := ⟨⟨k - 1, by omega⟩, rfl⟩
      obtain ⟨fn, tmps, assign, body, hy, hR⟩ := hY pre x wr hJs hpl'
      have ek : ((k - 1 : Nat) : Int) = (k : Int) - 1 := by omega
      rw [hx, ek] at hy
      have HX := Lib.hid hx; clear hx
      have hk0' : (0 : Int) ≤ (k : Int) - 1 := by omega
      have hk1' : (k : Int) - 1 < (L.length : Int) := by omega
      have Hpre := Lib.hid hpre; clear hpre hcc ek
      clear hpl
      gi_wp2
      refine hR.mono ?_
      rintro e W3 (⟨rfl, hJ3, hk3⟩ | ⟨rfl, hJx3⟩)
      · gi_wp2
        go_roundw
        case rel =>
          refine ⟨k - 1, j + 1, pre ++ [x], by omega, by go_num, ?_, hJ3, hnx.t hk3⟩
          rw [List.map_append, Hpre.out, downTo_succ]
          simp only [List.map_cons, List.map_nil, HX.out]
          congr 2
          omega
        case measure => simp [intOf]; omega
      · gi_wp2
        refine bodyPost_ret (results_none rfl _ _ _) rfl ?_
        exact ⟨⟨_, rfl⟩, .inr ⟨pre ++ [x], trivial, hJx3⟩⟩
    · gi_wp2
      go_end0
      obtain rfl : j = L.length := by omega
      exact ⟨⟨_, rfl⟩, .inl ⟨pre, hpre, hJs⟩⟩

set_option maxHeartbeats 1000000 in
theorem backward_in (F : Fence) (n : Nat) (h56 : F.fn 56) (hro : F.round = none) (A : Option Addr) (len cap : Nat) (w : World) :
    CallsIn F n Try.prog 56 #[.slice A len cap] w fun e w' => e = .returned (.func (.func 71) #[] #[.pointer (some ⟨w.heap.size, 0, none⟩)]) ∧ w' = w.alloc (.cells #[.slice A len cap] 23) := by
  refine callsIn_of_wp Try.func56 rfl h56 ?_ hro
  simp only [Try.ntmps56, List.size_toArray, List.length_cons, List.length_nil, Nat.reduceAdd, Nat.reduceSub, Array.replicate_succ, Array.replicate_zero, List.push_toArray, List.append_toArray, List.nil_append, List.cons_append]
  gi_wp2
  go_ret
  exact ⟨rfl, rfl⟩

theorem backward_stops (F : Fence) (n : Nat) (h60 : F.fn 71) (hro : F.round = none) (hn : 1 ≤ n) (Bs B cap : Nat) (A : Option Addr) (L : List (Int × Int)) (hlen : L.length ≤ 140737488351232) (w : World) (hB : B ≤ w.heap.size)
    (hBs : w.heap[Bs]? = some (.cells #[.slice A L.length cap] 23 (0, 0))) (hc : Cs w B A L) :
    SeqStopsK F n Try.prog 71 #[.pointer (some ⟨Bs, 0, none⟩)] (fun x : Fin L.length => #[Value.int .i64 (x.1 : Int), .agg #[.int .i64 (X L x.1), .int .i64 (Y L x.1)]]) (Kpt B Bs)
      (fun ys => ys.map Fin.val = downTo L.length L.length) (fun _ => True) L.length w := fun l J Jx W hW _ _ hY h0 => by
  have hlt : Bs < w.heap.size := (Array.getElem?_eq_some_iff.1 hBs).1
  exact backward1_in F n h60 hro hn l Bs B cap A L hlen J Jx hY W ((hW.block Bs hlt).trans hBs) (hc.below (hW.mono hB)) h0

end Go.Proofs.Ytecoefjkobpbgaa

