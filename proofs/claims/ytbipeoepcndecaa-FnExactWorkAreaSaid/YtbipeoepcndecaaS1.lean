/- impl.WaitsOf: a fold with a closure that keeps two variables · one step of impl.WaitsOf's closure -/
import Derived.Test.YtbipeoepcndecaaC
import Derived.Test.YtbipeoepcndecaaM
import Derived.Test.YtbipeoepcndecaaG2
import Derived.Test.YtbipeoepcndecaaO
namespace Go.Proofs.Ytbipeoepcndecaa
set_option linter.unusedVariables false
open Go.RowKit
attribute [local go_sem ↓] Go.wp_at_zero Go.wp_at_succ

set_option maxHeartbeats 1000000 in
theorem c_foldCL (I : Nat → Value → World → Prop) (caps : Array Value) (B : Nat) (L : List (Int × Int)) (A : Option Addr) (c : Nat) (v0 : Value) (wA w : World) (hA : Cs wA B A L) (hn : L.length ≤ 140737488351232)
    (hkeep : ∀ k v W W', I k v W → Below W.heap.size W W' → I k v W') (hbel : ∀ k v W, I k v W → Below B wA W)
    (hs : ∀ k v W, k < L.length → I k v W → Calls Try.prog 76 (#[v, .agg #[.int .i64 (X L k), .int .i64 (Y L k)]] ++ caps) W fun e w' => ∃ v', e = .returned v' ∧ I (k + 1) v' w')
    (h0 : I 0 v0 w) :
    Calls Try.prog 75 #[.slice A L.length c, v0, .func (.func 76) #[] caps] w fun e w' => ∃ v', e = .returned v' ∧ I L.length v' w' := by
  have Hs := Lib.hid hs; clear hs
  have Hk := Lib.hid hkeep; clear hkeep
  have Hb := Lib.hid hbel; clear hbel
  go_enter Try.func75, Try.ntmps75
  go_wp2_with fail
  go_loopw [7, 13] (fun a i wr => ∃ k : Nat, k ≤ L.length ∧ i = .int .i64 k ∧ Hid (I k a wr))
      (fun _ i _ => L.length - (intOf i).toNat)
  case atStart => exact ⟨0, Nat.zero_le _, rfl, h0⟩
  case round =>
    obtain ⟨k, hk, rfl, hI⟩ := hrel
    have hb := Hb.out _ _ _ hI.out
    by_cases hlt : k < L.length
    · obtain ⟨b, off, rfl, hlb, hc⟩ := hA (by omega)
      have c1 := (hb.cell (p := ⟨b, off + k * 2, none⟩) hlb).trans (hc k hlt).1
      have c2 := (hb.cell (p := ⟨b, off + k * 2 + 1, none⟩) hlb).trans (hc k hlt).2
      clear hc
      go_wp2_with fail
      have hsz : wr.heap.size ≤ (wr.alloc (.cells #[.int .i64 (X L k), .int .i64 (Y L k)] 35)).heap.size := by simp
      have hI2 := Hk.out k _ wr (wr.alloc (.cells #[.int .i64 (X L k), .int .i64 (Y L k)] 35)) hI.out (by (repeat (first | exact rfl | exact Below.refl _ _ | (with_reducible refine Below.drew ?_) | (with_reducible refine Below.drewN ?_ _) | (with_reducible refine Below.alloc ?_ ?_ _) | (with_reducible refine Below.setCell ?_ ?_ _) | (show _ ≤ _; focus (first | omega | (simp; done) | (simp; omega))))))
      refine (Hs.out k _ _ hlt hI2).mono ?_
      rintro e w1 ⟨v1, rfl, hI1⟩
      go_wp2_with fail
      go_roundw
      case rel => exact ⟨k + 1, by omega, by go_num, hI1⟩
      case measure => simp [intOf]; omega
    · go_wp2_with fail
      go_ret
      obtain rfl : k = L.length := by omega
      exact ⟨_, rfl, hI.out⟩

/-- what the closure's two variables hold ahead of the customer k -/
def wv (L : List (Int × Int)) : Nat → Int
  | 0 => 0
  | k + 1 => waitAt L k
def ay (L : List (Int × Int)) : Nat → Int
  | 0 => 0
  | k + 1 => Y L k
theorem wv_succ {L : List (Int × Int)} (h : cOk L = true) {k : Nat} (hk : k < L.length) : waitAt L k = max 0 (wv L k + ay L k - (X L k - prevOf L k)) := by
  cases k with
  | zero =>
    have := cOk_bd h hk
    simp only [waitAt, wv, ay, prevOf]; simp; omega
  | succ k => simp only [waitAt, wv, ay, prevOf_succ]; omega
theorem wv_bd {L : List (Int × Int)} (h : cOk L = true) {k : Nat} (hk : k < L.length) : 0 ≤ wv L k ∧ wv L k ≤ 100 ∧ 0 ≤ ay L k ∧ ay L k ≤ 9 ∧ 0 ≤ prevOf L k ∧ prevOf L k ≤ 60 := by
  have hl := cOk_len h
  cases k with
  | zero => simp [wv, ay, prevOf]
  | succ k =>
    have := waitAt_bd h k (by omega)
    have := cOk_bd h (k := k) (by omega)
    simp only [wv, ay, prevOf_succ]; omega
/-- what holds ahead of the customer k: the variables lie in the blocks p and q, the list v is the first k waits -/
structure WInv (L : List (Int × Int)) (w : World) (B p q b : Nat) (k : Nat) (v : Value) (W : World) : Prop where
  below : Below B w W
  hp : B ≤ p
  hpq : p < q
  hqb : q < b
  hb : b ≤ W.heap.size
  cp : W.heap[p]? = some (.cells #[.int .i64 (wv L k)] 3 (0, 0))
  cq : W.heap[q]? = some (.cells #[.int .i64 (prevOf L k), .int .i64 (ay L k)] 35 (0, 0))
  own : IO W b v (waitsTo L k)
theorem WInv.keep {L : List (Int × Int)} {w : World} {B p q b k : Nat} {v : Value} {W W' : World} (h : WInv L w B p q b k v W) (hW : Below W.heap.size W W') : WInv L w B p q b k v W' := by
  obtain ⟨h1, h2, h3, h4, h5, h6, h7, h8⟩ := h
  have hs := hW.size
  exact ⟨h1.trans (hW.mono (by omega)), h2, h3, h4, by omega, (hW.block p (by omega)).trans h6, (hW.block q (by omega)).trans h7, h8.below hW (Nat.le_refl _)⟩


end Go.Proofs.Ytbipeoepcndecaa

namespace Go.Proofs.Ytbipeoepcndecaa
set_option linter.unusedVariables false
open Go.RowKit
attribute [local go_sem ↓] Go.wp_at_zero Go.wp_at_succ

set_option maxHeartbeats 4000000 in
theorem c_waitStep (L : List (Int × Int)) (h : cOk L = true) (w W : World) (B p q b k : Nat) (v : Value) (hk : k < L.length) (hI : WInv L w B p q b k v W) :
    Calls Try.prog 76 (#[v, .agg #[.int .i64 (X L k), .int .i64 (Y L k)]] ++ #[.pointer (some ⟨p, 0, none⟩), .pointer (some ⟨q, 0, none⟩)]) W fun e w' => ∃ v', e = .returned v' ∧ WInv L w B p q b (k + 1) v' w' := by
  obtain ⟨h1, h2, h3, h4, h5, h6, h7, h8⟩ := hI
  have hl8 := cOk_len h
  have hbd := cOk_bd h hk
  have hwv := wv_bd h hk
  have HE := Lib.hid (wv_succ h hk)
  have c0 : W.cell? ⟨p, 0, none⟩ = some (.int .i64 (wv L k)) := by simp [cell_of_row W p 0 _ _ _ h6]
  have c1 : W.cell? ⟨q, 0, none⟩ = some (.int .i64 (prevOf L k)) := by simp [cell_of_row W q 0 _ _ _ h7]
  have c2 : W.cell? ⟨q, 1, none⟩ = some (.int .i64 (ay L k)) := by simp [cell_of_row W q 1 _ _ _ h7]
  have f0 : W.frozen? ⟨p, 0, none⟩ = false := by simp [World.frozen?, h6]
  have f1 : W.frozen? ⟨q, 0, none⟩ = false := by simp [World.frozen?, h7]
  have f2 : W.frozen? ⟨q, 1, none⟩ = false := by simp [World.frozen?, h7]
  go_enter Try.func76, Try.ntmps76
  go_wp2_with fail
  have hpW : p < W.heap.size := by omega
  have hqW : q < W.heap.size := by omega
  have hpq' : p ≠ q := by omega
  have g1 : -1000 ≤ prevOf L k := by omega
  have g2 : prevOf L k ≤ 1000 := by omega
  have g3 : -1000 ≤ X L k := by omega
  have g4 : X L k ≤ 1000 := by omega
  have q1 : IntKind.i64.wrap (wv L k + ay L k) = wv L k + ay L k := IntWalk.i64_in _ (by omega)
  have q2 : IntKind.i64.wrap (wv L k + ay L k - (X L k - prevOf L k)) = wv L k + ay L k - (X L k - prevOf L k) := IntWalk.i64_in _ (by omega)
  obtain ⟨W1, hW1⟩ : ∃ W1, W1 = W.alloc (.cells #[.int .i64 (X L k), .int .i64 (Y L k)] 35) := ⟨_, rfl⟩
  have hz : W.heap.size < W1.heap.size := by rw [hW1]; simp
  have hB1 : Below W.heap.size W W1 := by rw [hW1]; (repeat (first | exact rfl | exact Below.refl _ _ | (with_reducible refine Below.drew ?_) | (with_reducible refine Below.drewN ?_ _) | (with_reducible refine Below.alloc ?_ ?_ _) | (with_reducible refine Below.setCell ?_ ?_ _) | (show _ ≤ _; focus (first | omega | (simp; done) | (simp; omega)))))
  have hh1 : W1.heap[W.heap.size]? = some (.cells #[.int .i64 (X L k), .int .i64 (Y L k)] 35 (0, 0)) := by rw [hW1]; exact heap_alloc_new _ _
  rw [← hW1]
  have e0 := WB.cell (B := W1.heap.size) (w := W1) (by omega) ((hB1.cell (p := ⟨p, 0, none⟩) hpW).trans c0)
  have e1 := WB.cell (B := W1.heap.size) (w := W1) (by omega) ((hB1.cell (p := ⟨q, 0, none⟩) hqW).trans c1)
  have e2 := WB.cell (B := W1.heap.size) (w := W1) (by omega) ((hB1.cell (p := ⟨q, 1, none⟩) hqW).trans c2)
  have e3 := WB.cell (B := W1.heap.size) (w := W1) (b := W.heap.size) (o := 0) (v := .int .i64 (X L k)) hz (by simp [cell_of_row W1 W.heap.size 0 _ _ _ hh1])
  have e4 := WB.cell (B := W1.heap.size) (w := W1) (b := W.heap.size) (o := 1) (v := .int .i64 (Y L k)) hz (by simp [cell_of_row W1 W.heap.size 1 _ _ _ hh1])
  refine wp_region_wb_tail W1.heap.size 9 (by kernel_rfl) (by kernel_rfl) ?_
  simp only [List.take_succ_cons, List.take_zero, List.drop_succ_cons, List.drop_zero]
  repeat (go_big_quiet_step ((go_at_call 77; exact Calls.inB (Nat.le_refl _) (c_gapTo _ _ _ _ _ g1 g2 g3 g4))))
  refine wpQuiet_nil ?_
  rintro _ ⟨⟨w5, hb5⟩, rfl⟩
  have hv : (if X L k - prevOf L k < wv L k + ay L k then wv L k + ay L k - (X L k - prevOf L k) else (0 : Int)) = waitAt L k := by rw [HE.out]; split <;> omega
  rw [hv]
  have b6 := ((hb5.block p (by omega)).trans (hB1.block p hpW)).trans h6
  have b7 := ((hb5.block q (by omega)).trans (hB1.block q hqW)).trans h7
  have bB := hb5.block W.heap.size hz
  rw [hh1] at bB
  have own5 := (h8.below hB1 (Nat.le_refl _)).below hb5 (Nat.le_refl _)
  have z5 := hb5.size
  have B5 := (h1.trans (hB1.mono (by omega))).trans (hb5.mono (by omega))
  clear h6 h7 h8 c0 c1 c2 f0 f1 f2 e0 e1 e2 e3 e4 q1 q2 hW1 hb5 hB1 hh1 hv h1
  rename_i w5
  have d0 : w5.frozen? ⟨p, 0, none⟩ = false := by simp [World.frozen?, b6]
  have d1 : w5.frozen? ⟨q, 0, none⟩ = false := by simp [World.frozen?, b7]
  have d2 : w5.frozen? ⟨q, 1, none⟩ = false := by simp [World.frozen?, b7]
  have d3 : w5.cell? ⟨W.heap.size, 0, none⟩ = some (.int .i64 (X L k)) := by simp [cell_of_row w5 W.heap.size 0 _ _ _ bB]
  have d4 : w5.cell? ⟨W.heap.size, 1, none⟩ = some (.int .i64 (Y L k)) := by simp [cell_of_row w5 W.heap.size 1 _ _ _ bB]
  have d5 : w5.cell? ⟨p, 0, none⟩ = some (.int .i64 (wv L k)) := by simp [cell_of_row w5 p 0 _ _ _ b6]
  have d6 : w5.cell? ⟨q, 0, none⟩ = some (.int .i64 (prevOf L k)) := by simp [cell_of_row w5 q 0 _ _ _ b7]
  have d7 : w5.cell? ⟨q, 1, none⟩ = some (.int .i64 (ay L k)) := by simp [cell_of_row w5 q 1 _ _ _ b7]
  have hpz : p ≠ W.heap.size := by omega
  have hqz : q ≠ W.heap.size := by omega
  have hpw : p < w5.heap.size := by omega
  have hqw : q < w5.heap.size := by omega
  have own6 : IO (((w5.setCell ⟨p, 0, none⟩ (.int .i64 (waitAt L k))).setCell ⟨q, 0, none⟩ (.int .i64 (X L k))).setCell ⟨q, 1, none⟩ (.int .i64 (Y L k))) b v (waitsTo L k) :=
    ((own5.setLow (by omega)).setLow (by omega)).setLow (by omega)
  have k6 : (((w5.setCell ⟨p, 0, none⟩ (.int .i64 (waitAt L k))).setCell ⟨q, 0, none⟩ (.int .i64 (X L k))).setCell ⟨q, 1, none⟩ (.int .i64 (Y L k))).heap[p]? = some (.cells #[.int .i64 (waitAt L k)] 3 (0, 0)) := by
    rw [Below.heap_setCell _ _ _ _ (by simpa using hpq'), Below.heap_setCell _ _ _ _ (by simpa using hpq')]
    simp [World.setCell, Array.getElem?_modify, b6]
  have k7 : (((w5.setCell ⟨p, 0, none⟩ (.int .i64 (waitAt L k))).setCell ⟨q, 0, none⟩ (.int .i64 (X L k))).setCell ⟨q, 1, none⟩ (.int .i64 (Y L k))).heap[q]? = some (.cells #[.int .i64 (X L k), .int .i64 (Y L k)] 35 (0, 0)) := by
    simp [World.setCell, Array.getElem?_modify, hpq', b7]
  have hlen : (waitsTo L k).length ≤ 1000000000000 := by rw [waitsTo_len]; omega
  clear hl8
  have hz6 : (((w5.setCell ⟨p, 0, none⟩ (.int .i64 (waitAt L k))).setCell ⟨q, 0, none⟩ (.int .i64 (X L k))).setCell ⟨q, 1, none⟩ (.int .i64 (Y L k))).heap.size = w5.heap.size := by simp [World.setCell]
  have B6 : Below B w5 (((w5.setCell ⟨p, 0, none⟩ (.int .i64 (waitAt L k))).setCell ⟨q, 0, none⟩ (.int .i64 (X L k))).setCell ⟨q, 1, none⟩ (.int .i64 (Y L k))) :=
    (((Below.refl B w5).setCell (p := ⟨p, 0, none⟩) h2 _).setCell (p := ⟨q, 0, none⟩) (by show B ≤ q; omega) _).setCell (p := ⟨q, 1, none⟩) (by show B ≤ q; omega) _
  have K6 := Lib.hid k6; have K7 := Lib.hid k7; have HB6 := Lib.hid B6; have HO := Lib.hid own6; clear k6 k7 B6 own6 b6 b7 bB own5
  have hsm : b ≤ (((w5.setCell ⟨p, 0, none⟩ (.int .i64 (waitAt L k))).setCell ⟨q, 0, none⟩ (.int .i64 (X L k))).setCell ⟨q, 1, none⟩ (.int .i64 (Y L k))).heap.size := by rw [hz6]; omega
  have HH := Lib.hid (And.intro h2 (And.intro h3 (And.intro h4 (And.intro h5 (And.intro hz (And.intro z5 (And.intro B5 (And.intro hz6 (And.intro hlen hsm)))))))))
  clear hwv hbd g1 g2 g3 g4 HE h2 h3 h4 h5 hz z5 B5 hz6 hpW hqW hpw hqw h hlen hsm
  go_wp2_with (refine app_I ?_ (.tmp 17) (.tmp 19) ?_ b v (waitsTo L k) (waitAt L k) w5.heap.size ?_ ?_ ?_ ?_ ?_ ?_ ?_; rfl; rfl; rfl; exact (HO.out.alloc _); rfl; (rw [← HH.out.2.2.2.2.2.2.2.1]; exact heap_alloc_new _ _); exact HH.out.2.2.2.2.2.2.2.2.1; exact (Nat.le_trans HH.out.2.2.2.2.2.2.2.2.2 (by simp)); intro g cap w7 hown7 hgr7 hb7)
  go_ret
  obtain ⟨h2, h3, h4, h5, hz, z5, B5, hz6, -, -⟩ := HH.out
  have hs7 := hb7.size
  have hs8 : w5.heap.size < w7.heap.size := by
    refine Nat.lt_of_lt_of_le ?_ hs7
    rw [← hz6]; simp
  have hBA : Below b (((w5.setCell ⟨p, 0, none⟩ (.int .i64 (waitAt L k))).setCell ⟨q, 0, none⟩ (.int .i64 (X L k))).setCell ⟨q, 1, none⟩ (.int .i64 (Y L k))) w7 := (Below.alloc (Below.refl _ _) (by rw [hz6]; omega) _).trans hb7
  exact ⟨_, rfl, (B5.trans HB6.out).trans (hBA.mono (by omega)), h2, h3, h4, by omega, (hBA.block p (by omega)).trans K6.out, (hBA.block q (by omega)).trans K7.out, by rw [waitsTo_succ]; exact hown7⟩

end Go.Proofs.Ytbipeoepcndecaa

