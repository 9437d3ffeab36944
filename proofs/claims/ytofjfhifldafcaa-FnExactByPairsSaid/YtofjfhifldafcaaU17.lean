/- Chapter 9's functions of the program, second part: LeavesBoth; fold over two functions, longestWay, LongestWay. -/
import Derived.Test.YtofjfhifldafcaaU16
namespace Go.Proofs.Ytofjfhifldafcaa
set_option linter.unusedVariables false
open Go.RowKit
attribute [local go_sem ↓] Go.wp_at_zero Go.wp_at_succ

theorem heap_set2 {w : World} {B : Nat} {a b : Value} {t : TypeId} {fr : Nat × Nat} (h : w.heap[B]? = some (.cells #[a, b] t fr)) (c d : Value) : ((w.setCell ⟨B, 0, none⟩ c).setCell ⟨B, 1, none⟩ d).heap[B]? = some (.cells #[c, d] t fr) := by
  simp only [World.setCell]
  rw [Array.getElem?_modify, if_pos rfl, Array.getElem?_modify, if_pos rfl, h]
  rfl

set_option maxRecDepth 4000 in
set_option maxHeartbeats 4000000 in
theorem c_iLeavesBoth (L : List (Int × Int)) (A : Option Addr) (c : Nat) (w : World) (hA : Cs w w.heap.size A L) (hcap : L.length ≤ c) (hn : L.length ≤ 140737488351232) :
    Calls Try.prog 22 #[.slice A L.length c] w fun e w' => ∃ v, e = .returned v ∧ IO w' w.heap.size v (leavesB L) ∧ Below w.heap.size w w' := by
  have HK := Lib.hid (c_iBothOk L A c w hA hn)
  by_cases h : bOk L = true
  · have HV := Lib.hid (show leavesB L = secs L L.length from leavesB_yes h)
    have hlen := (bOk_parts h).2
    have HXY := Lib.hid (bOk_parts h).1
    have HF := Lib.hid (pF_bd h)
    have HS := Lib.hid (secTo_bd h)
    have H := Lib.hid h; clear h
    go_enter Try.func22, Try.ntmps22
    go_wp2_with fail
    refine HK.out.mono ?_
    rintro e w1 ⟨rfl, hb1⟩
    rw [H.out]
    have hs1 := hb1.size
    have bl0 := heap_alloc_new w1 (.cells #[.int .i64 0, .int .i64 0] 60)
    have hx0 : Below w.heap.size w (w1.alloc (.cells #[.int .i64 0, .int .i64 0] 60)) := hb1.alloc hs1 _
    have hz0 : (w1.alloc (.cells #[.int .i64 0, .int .i64 0] 60)).heap.size = w1.heap.size + 1 := by simp
    clear HK
    go_wp2_with fail
    go_loopw [3, 13] (fun o i wr => ∃ k : Nat, k ≤ L.length ∧ i = .int .i64 k ∧ IO wr (w1.heap.size + 1) o (secs L k) ∧ wr.heap[w1.heap.size]? = some (.cells #[.int .i64 (pF L k), .int .i64 (secTo L k)] 60 (0, 0)) ∧ Below w.heap.size w wr ∧ w1.heap.size < wr.heap.size)
      (fun _ i _ => L.length - (intOf i).toNat)
    case atStart => exact ⟨0, by omega, rfl, IO.nil _ _, bl0, hx0, by omega⟩
    case round =>
      clear bl0 hx0 hz0
      obtain ⟨k, hk, rfl, hown, hbl, hb, hz⟩ := hrel
      by_cases hlt : k < L.length
      · obtain ⟨b, off, rfl, hlb, hc⟩ := hA (by omega)
        have c1 := (hb.cell (p := ⟨b, off + k * 2, none⟩) hlb).trans (hc k hlt).1
        have c2 := (hb.cell (p := ⟨b, off + k * 2 + 1, none⟩) hlb).trans (hc k hlt).2
        clear hc
        have bd1 := HXY.out k hlt
        have bd2 := HF.out k (by omega)
        have bd3 := HS.out k (by omega)
        have HW := Lib.hid (fun W => show Calls Try.prog 59 #[.agg #[.int .i64 (pF L k), .int .i64 (secTo L k)], .agg #[.int .i64 (X L k), .int .i64 (Y L k)]] W fun e w' => e = .returned (.agg #[.int .i64 (pF L (k + 1)), .int .i64 (secTo L (k + 1))]) ∧ Below W.heap.size W w' from
          c_next (pF L k) (secTo L k) (X L k) (Y L k) W (by omega) (by omega) (by omega) (by omega))
        obtain ⟨w2, hw2⟩ : ∃ w2, wr.alloc (.cells #[.int .i64 (X L k), .int .i64 (Y L k)] 27) = w2 := ⟨_, rfl⟩
        have hbl2 : w2.heap[w1.heap.size]? = some (.cells #[.int .i64 (pF L k), .int .i64 (secTo L k)] 60 (0, 0)) := by rw [← hw2]; exact (Below.heap_alloc _ _ _ hz).trans hbl
        have hbx2 : Below w.heap.size w w2 := by rw [← hw2]; exact hb.alloc (by omega) _
        have own2 : IO w2 (w1.heap.size + 1) u3 (secs L k) := by rw [← hw2]; exact hown.alloc _
        have hz2 : w1.heap.size < w2.heap.size := by rw [← hw2]; simp; omega
        have hbn2 : w2.heap[wr.heap.size]? = some (.cells #[.int .i64 (X L k), .int .i64 (Y L k)] 27 (0, 0)) := by rw [← hw2]; exact heap_alloc_new _ _
        have cb0 := cell_of_row w2 w1.heap.size 0 _ _ _ hbl2
        have cb1 := cell_of_row w2 w1.heap.size 1 _ _ _ hbl2
        have cn0 := cell_of_row w2 wr.heap.size 0 _ _ _ hbn2
        have cn1 := cell_of_row w2 wr.heap.size 1 _ _ _ hbn2
        have q5 : (secs L k).length ≤ 1000000000000 := by rw [secs_len]; omega
        have HL := Lib.hid q5
        clear hown hb hbl bd1 bd2 bd3 q5 hbn2
        go_wp2_with fail
        refine (HW.out _).mono ?_
        rintro e w5 ⟨rfl, hb5⟩
        have hs5 := hb5.size
        have hbl5 := (hb5.block w1.heap.size hz2).trans hbl2
        have d0 := cell_of_row w5 w1.heap.size 0 _ _ _ hbl5
        have d1 := cell_of_row w5 w1.heap.size 1 _ _ _ hbl5
        have f0 : w5.frozen? ⟨w1.heap.size, 0, none⟩ = false := by simp only [World.frozen?, hbl5]; rfl
        have f1 : w5.frozen? ⟨w1.heap.size, 1, none⟩ = false := by simp only [World.frozen?, hbl5]; rfl
        have own5 : IO w5 (w1.heap.size + 1) u3 (secs L k) := own2.below hb5 (Nat.le_refl _)
        have hbx5 : Below w.heap.size w w5 := hbx2.trans (hb5.mono (by omega))
        obtain ⟨w6, hw6⟩ : ∃ w6, (w5.setCell ⟨w1.heap.size, 0, none⟩ (.int .i64 (pF L (k + 1)))).setCell ⟨w1.heap.size, 1, none⟩ (.int .i64 (secTo L (k + 1))) = w6 := ⟨_, rfl⟩
        have g1 : w6.cell? ⟨w1.heap.size, 1, none⟩ = some (.int .i64 (secTo L (k + 1))) := by rw [← hw6]; exact World.cell?_setCell_same' _ _ _ (by rw [World.cell?_setCell_other _ _ _ _ (by intro h; injection h with _ e2 _; omega), d1]; rfl)
        have own6 : IO w6 (w1.heap.size + 1) u3 (secs L k) := by
          rw [← hw6]
          have k1 := own5.kept (grown_set w5 w1.heap.size 0 (.int .i64 (pF L (k + 1)))) (.inr fun e => by have := owns_base own5 _ e; omega)
          exact k1.kept (grown_set _ w1.heap.size 1 _) (.inr fun e => by have := owns_base own5 _ e; omega)
        have hbx6 : Below w.heap.size w w6 := by
          rw [← hw6]
          exact (hbx5.setCell (p := ⟨w1.heap.size, 0, none⟩) hs1 _).setCell (p := ⟨w1.heap.size, 1, none⟩) hs1 _
        have HZ6 := Lib.hid (show w5.heap.size ≤ w6.heap.size by rw [← hw6]; simp [World.setCell])
        have hbl6 : w6.heap[w1.heap.size]? = some (.cells #[.int .i64 (pF L (k + 1)), .int .i64 (secTo L (k + 1))] 60 (0, 0)) := by
          rw [← hw6]; exact heap_set2 hbl5 _ _
        have hl6 : w1.heap.size < w6.heap.size := Nat.lt_of_lt_of_le (by omega) HZ6.out
        have q6 : w1.heap.size + 1 ≤ (w6.alloc (.cells #[.int .i64 (secTo L (k + 1))] 3)).heap.size := by simp; omega
        clear cb0 cb1 cn0 cn1 hbl2 hbl5 own2 own5 hbx2 hbx5 hb5
        go_wp2_with (refine app_I ?_ (.tmp 20) (.tmp 23) ?_ (w1.heap.size + 1) u3 (secs L k) (secTo L (k + 1)) w6.heap.size ?_ ?_ ?_ ?_ ?_ ?_ ?_; rfl; rfl; rfl; exact (own6.alloc _); rfl; exact (heap_alloc_new _ _); exact HL.out; exact q6; intro g cap w7 own7 hgr hb7)
        go_roundw
        case rel =>
          refine ⟨k + 1, by omega, by go_num, by rw [secs_succ]; rw [secs_len] at own7 ⊢; exact own7, ?_, (hbx6.alloc (by omega) _).trans (hb7.mono (by omega)), ?_⟩
          · exact (hb7.block w1.heap.size (by omega)).trans ((Below.heap_alloc _ _ _ (by omega)).trans hbl6)
          · have := hb7.size; simp at this; omega
        case measure => simp [intOf]; omega
      · obtain rfl : k = L.length := by omega
        go_wp2_with fail
        go_ret
        exact ⟨_, rfl, by rw [HV.out]; exact hown.mono (by omega), hb⟩
  · have hno : bOk L = false := by simpa using h
    have H := Lib.hid hno
    have HV := Lib.hid (leavesB_no hno)
    clear h hno
    go_enter Try.func22, Try.ntmps22
    go_wp2_with fail
    refine HK.out.mono ?_
    rintro e w1 ⟨rfl, hb1⟩
    rw [H.out]
    go_wp2_with fail
    go_ret
    exact ⟨_, rfl, by rw [HV.out]; exact IO.nil _ _, hb1⟩

/-! fold, longestWay -/

set_option maxHeartbeats 1000000 in
theorem c_addSecond (s x y : Int) (w : World) (hs : 0 ≤ s ∧ s ≤ 1000) (hy : 0 ≤ y ∧ y ≤ 1000) :
    Calls Try.prog 79 #[.int .i64 s, .agg #[.int .i64 x, .int .i64 y]] w fun e w' => e = .returned (.int .i64 (s + y)) ∧ Below w.heap.size w w' := by
  have q1 : IntKind.i64.wrap (s + y) = s + y := IntWalk.i64_in _ (by omega)
  go_enter Try.func79, Try.ntmps79
  go_wp2
  go_ret
  exact ⟨rfl, by (repeat (first | exact rfl | exact Below.refl _ _ | (with_reducible refine Below.drew ?_) | (with_reducible refine Below.drewN ?_ _) | (with_reducible refine Below.alloc ?_ ?_ _) | (with_reducible refine Below.setCell ?_ ?_ _) | (show _ ≤ _; focus (first | omega | (simp; done) | (simp; omega)))))⟩

set_option maxHeartbeats 2000000 in
theorem c_foldS (L : List (Int × Int)) (A : Option Addr) (c : Nat) (w : World) (hA : Cs w w.heap.size A L) (hl6 : L.length ≤ 6) (hbd : ∀ k, k < L.length → (0 ≤ sTo L k ∧ sTo L k ≤ 1000) ∧ 0 ≤ Y L k ∧ Y L k ≤ 1000) :
    Calls Try.prog 78 #[.slice A L.length c, .int .i64 0, .func (.func 79) #[] #[]] w fun e w' => e = .returned (.int .i64 (sTo L L.length)) ∧ Below w.heap.size w w' := by
  have Hb := Lib.hid hbd; clear hbd
  go_enter Try.func78, Try.ntmps78
  go_wp2_with fail
  go_loopw [7, 13] (fun a i wr => ∃ k : Nat, k ≤ L.length ∧ i = .int .i64 k ∧ a = .int .i64 (sTo L k) ∧ Below w.heap.size w wr)
      (fun _ i _ => L.length - (intOf i).toNat)
  case atStart => exact ⟨0, Nat.zero_le _, rfl, rfl, Below.refl _ _⟩
  case round =>
    obtain ⟨k, hk, rfl, rfl, hb⟩ := hrel
    by_cases hlt : k < L.length
    · obtain ⟨b, off, rfl, hlb, hc⟩ := hA (by omega)
      have c1 := (hb.cell (p := ⟨b, off + k * 2, none⟩) (show b < w.heap.size by omega)).trans (hc k hlt).1
      have c2 := (hb.cell (p := ⟨b, off + k * 2 + 1, none⟩) (show b < w.heap.size by omega)).trans (hc k hlt).2
      clear hc
      have hsz := hb.size
      have hbx : Below w.heap.size w (wr.alloc (.cells #[.int .i64 (X L k), .int .i64 (Y L k)] 27)) := hb.alloc hsz _
      have HW := Lib.hid (fun W => show Calls Try.prog 79 #[.int .i64 (sTo L k), .agg #[.int .i64 (X L k), .int .i64 (Y L k)]] W fun e w' => e = .returned (.int .i64 (sTo L (k + 1))) ∧ Below W.heap.size W w' from c_addSecond (sTo L k) (X L k) (Y L k) W (Hb.out k hlt).1 (Hb.out k hlt).2)
      go_wp2_with fail
      refine (HW.out _).mono ?_
      rintro e w1 ⟨rfl, hb1⟩
      go_wp2_with fail
      go_roundw
      case rel => exact ⟨k + 1, by omega, by go_num, rfl, hbx.trans (hb1.mono hbx.size)⟩
      case measure => simp [intOf]; omega
    · go_wp2_with fail
      go_ret
      obtain rfl : k = L.length := by omega
      exact ⟨rfl, hb⟩

/-- what the second function keeps: what is up to here, and what is from here on -/
def UF (W : World) (Bu Bf : Nat) (u f : Int) : Prop := (W.cell? ⟨Bu, 0, none⟩ = some (.int .i64 u) ∧ W.frozen? ⟨Bu, 0, none⟩ = false) ∧ W.cell? ⟨Bf, 0, none⟩ = some (.int .i64 f) ∧ W.frozen? ⟨Bf, 0, none⟩ = false

set_option maxHeartbeats 2000000 in
theorem c_stepL (m u f x y : Int) (Bu Bf : Nat) (w : World) (hm : 0 ≤ m ∧ m ≤ 10000) (hu : 0 ≤ u ∧ u ≤ 1000) (hf : -1000 ≤ f ∧ f ≤ 1000) (hx : 0 ≤ x ∧ x ≤ 1000) (hy : 0 ≤ y ∧ y ≤ 1000) (h : UF w Bu Bf u f) (hne : Bu < Bf) (hz : Bf < w.heap.size) :
    Calls Try.prog 80 #[.int .i64 m, .agg #[.int .i64 x, .int .i64 y], .pointer (some ⟨Bu, 0, none⟩), .pointer (some ⟨Bf, 0, none⟩)] w fun e w' => e = .returned (.int .i64 (max m (u + x + f))) ∧ Below Bu w w' ∧ UF w' Bu Bf (u + x) (f - y) := by
  obtain ⟨⟨cu, fu⟩, cf, ff⟩ := h
  have q1 : IntKind.i64.wrap (u + x) = u + x := IntWalk.i64_in _ (by omega)
  have q2 : IntKind.i64.wrap (u + x + f) = u + x + f := IntWalk.i64_in _ (by omega)
  have q3 : IntKind.i64.wrap (f - y) = f - y := IntWalk.i64_in _ (by omega)
  obtain ⟨w1, hw1⟩ : ∃ w1, w.alloc (.cells #[.int .i64 x, .int .i64 y] 27) = w1 := ⟨_, rfl⟩
  have hn1 : w1.heap[w.heap.size]? = some (.cells #[.int .i64 x, .int .i64 y] 27 (0, 0)) := by rw [← hw1]; exact heap_alloc_new _ _
  have hb1 : Below w.heap.size w w1 := by rw [← hw1]; exact (Below.refl _ w).alloc (Nat.le_refl _) _
  have c10 := cell_of_row w1 w.heap.size 0 _ _ _ hn1
  have c11 := cell_of_row w1 w.heap.size 1 _ _ _ hn1
  have cu1 := (hb1.cell (p := ⟨Bu, 0, none⟩) (show Bu < w.heap.size by omega)).trans cu
  have cf1 := (hb1.cell (p := ⟨Bf, 0, none⟩) hz).trans cf
  have fu1 : w1.frozen? ⟨Bu, 0, none⟩ = false := by simp only [World.frozen?, hb1.block Bu (by omega)]; exact fu
  have ff1 : w1.frozen? ⟨Bf, 0, none⟩ = false := by simp only [World.frozen?, hb1.block Bf hz]; exact ff
  obtain ⟨w2, hw2⟩ : ∃ w2, w1.setCell ⟨Bu, 0, none⟩ (.int .i64 (u + x)) = w2 := ⟨_, rfl⟩
  have cu2 : w2.cell? ⟨Bu, 0, none⟩ = some (.int .i64 (u + x)) := by rw [← hw2]; exact World.cell?_setCell_same' _ _ _ (by rw [cu1]; rfl)
  have cf2 : w2.cell? ⟨Bf, 0, none⟩ = some (.int .i64 f) := by rw [← hw2, World.cell?_setCell_other _ _ _ _ (by intro h; injection h with e _ _; omega)]; exact cf1
  have c20 : w2.cell? ⟨w.heap.size, 0, none⟩ = some (.int .i64 x) := by rw [← hw2, World.cell?_setCell_other _ _ _ _ (by intro h; injection h with e _ _; omega)]; exact c10
  have c21 : w2.cell? ⟨w.heap.size, 1, none⟩ = some (.int .i64 y) := by rw [← hw2, World.cell?_setCell_other _ _ _ _ (by intro h; injection h with e _ _; omega)]; exact c11
  have fu2 : w2.frozen? ⟨Bu, 0, none⟩ = false := by rw [← hw2, World.frozen?_setCell]; exact fu1
  have ff2 : w2.frozen? ⟨Bf, 0, none⟩ = false := by rw [← hw2, World.frozen?_setCell]; exact ff1
  obtain ⟨w3, hw3⟩ : ∃ w3, w2.setCell ⟨Bf, 0, none⟩ (.int .i64 (f - y)) = w3 := ⟨_, rfl⟩
  have cf3 : w3.cell? ⟨Bf, 0, none⟩ = some (.int .i64 (f - y)) := by rw [← hw3]; exact World.cell?_setCell_same' _ _ _ (by rw [cf2]; rfl)
  have cu3 : w3.cell? ⟨Bu, 0, none⟩ = some (.int .i64 (u + x)) := by rw [← hw3, World.cell?_setCell_other _ _ _ _ (by intro h; injection h with e _ _; omega)]; exact cu2
  have fu3 : w3.frozen? ⟨Bu, 0, none⟩ = false := by rw [← hw3, World.frozen?_setCell]; exact fu2
  have ff3 : w3.frozen? ⟨Bf, 0, none⟩ = false := by rw [← hw3, World.frozen?_setCell]; exact ff2
  have hb3 : Below Bu w w3 := by
    rw [← hw3, ← hw2]
    exact ((show Below Bu w w1 from hb1.mono (by omega)).setCell (p := ⟨Bu, 0, none⟩) (show Bu ≤ Bu by omega) _).setCell (p := ⟨Bf, 0, none⟩) (show Bu ≤ Bf by omega) _
  have HU := Lib.hid (And.intro hb3 (show UF w3 Bu Bf (u + x) (f - y) from ⟨⟨cu3, fu3⟩, cf3, ff3⟩))
  clear hb1 hn1 hb3 cu cf fu ff hu hf hx hy cu3 fu3 cf3 ff3
  by_cases h : m < u + x + f
  · have HM := Lib.hid (show max m (u + x + f) = u + x + f by omega)
    clear hm
    go_enter Try.func80, Try.ntmps80
    go_wp2
    go_ret
    rw [HM.out]
    exact ⟨rfl, HU.out.1, HU.out.2⟩
  · have HM := Lib.hid (show max m (u + x + f) = m by omega)
    clear hm
    go_enter Try.func80, Try.ntmps80
    go_wp2
    go_ret
    rw [HM.out]
    exact ⟨rfl, HU.out.1, HU.out.2⟩

set_option maxHeartbeats 2000000 in
theorem c_foldL (L : List (Int × Int)) (A : Option Addr) (c B Bu Bf : Nat) (w : World) (hb : bOk L = true) (hA : Cs w B A L) (hB : B ≤ Bu) (h0 : UF w Bu Bf 0 (sTo L L.length)) (hne : Bu < Bf) (hz : Bf < w.heap.size) :
    Calls Try.prog 78 #[.slice A L.length c, .int .i64 0, .func (.func 80) #[] #[.pointer (some ⟨Bu, 0, none⟩), .pointer (some ⟨Bf, 0, none⟩)]] w fun e w' => e = .returned (.int .i64 (lw L)) ∧ Below Bu w w' := by
  have HV := Lib.hid (maxW_lw hb)
  have hl6 := (bOk_parts hb).2
  have HB := Lib.hid (fun k (hk : k < L.length) (W : World) (h : UF W Bu Bf (pF L k) (sTo L L.length - sTo L k)) (hzW : Bf < W.heap.size) => show Calls Try.prog 80 #[.int .i64 (maxW L k), .agg #[.int .i64 (X L k), .int .i64 (Y L k)], .pointer (some ⟨Bu, 0, none⟩), .pointer (some ⟨Bf, 0, none⟩)] W fun e w' => e = .returned (.int .i64 (maxW L (k + 1))) ∧ Below Bu W w' ∧ UF w' Bu Bf (pF L (k + 1)) (sTo L L.length - sTo L (k + 1)) from by
    have b1 := maxW_bd hb k (by omega)
    have b2 := pF_bd hb k (by omega)
    have b3 := sTo_bd hb k (by omega)
    have b4 := sTo_bd hb L.length (Nat.le_refl _)
    have b5 := (bOk_parts hb).1 k hk
    have K := c_stepL (maxW L k) (pF L k) (sTo L L.length - sTo L k) (X L k) (Y L k) Bu Bf W (by omega) (by omega) (by omega) (by omega) (by omega) h hne hzW
    rw [show sTo L L.length - sTo L k - Y L k = sTo L L.length - sTo L (k + 1) by simp only [sTo]; omega] at K
    exact K)
  have H0 := Lib.hid (show UF w Bu Bf (pF L 0) (sTo L L.length - sTo L 0) by simpa [pF, sTo] using h0)
  clear hb h0
  go_enter Try.func78, Try.ntmps78
  go_wp2_with fail
  go_loopw [7, 13] (fun a i wr => ∃ k : Nat, k ≤ L.length ∧ i = .int .i64 k ∧ a = .int .i64 (maxW L k) ∧ Below Bu w wr ∧ Hid (UF wr Bu Bf (pF L k) (sTo L L.length - sTo L k)))
      (fun _ i _ => L.length - (intOf i).toNat)
  case atStart => exact ⟨0, Nat.zero_le _, rfl, rfl, Below.refl _ _, H0⟩
  case round =>
    obtain ⟨k, hk, rfl, rfl, hb, hu⟩ := hrel
    by_cases hlt : k < L.length
    · obtain ⟨b, off, rfl, hlb, hc⟩ := hA (by omega)
      have c1 := (hb.cell (p := ⟨b, off + k * 2, none⟩) (show b < Bu by omega)).trans (hc k hlt).1
      have c2 := (hb.cell (p := ⟨b, off + k * 2 + 1, none⟩) (show b < Bu by omega)).trans (hc k hlt).2
      clear hc
      have hsz := hb.size
      have hba : Below wr.heap.size wr (wr.alloc (.cells #[.int .i64 (X L k), .int .i64 (Y L k)] 27)) := (Below.refl _ wr).alloc (Nat.le_refl _) _
      have hbx : Below Bu w (wr.alloc (.cells #[.int .i64 (X L k), .int .i64 (Y L k)] 27)) := hb.trans (hba.mono (by omega))
      have HW := Lib.hid (HB.out k hlt (wr.alloc (.cells #[.int .i64 (X L k), .int .i64 (Y L k)] 27)) (by
        obtain ⟨⟨x1, x2⟩, x3, x4⟩ := hu.out
        exact ⟨⟨(hba.cell (p := ⟨Bu, 0, none⟩) (show Bu < wr.heap.size by omega)).trans x1, by simp only [World.frozen?, hba.block Bu (by omega)]; exact x2⟩, (hba.cell (p := ⟨Bf, 0, none⟩) (show Bf < wr.heap.size by omega)).trans x3, by simp only [World.frozen?, hba.block Bf (by omega)]; exact x4⟩) (by simp; omega))
      go_wp2_with fail
      refine HW.out.mono ?_
      rintro e w1 ⟨rfl, hb1, hu1⟩
      have HU1 := Lib.hid hu1
      clear hu1
      go_wp2_with fail
      go_roundw
      case rel => exact ⟨k + 1, by omega, by go_num, rfl, hbx.trans hb1, HU1⟩
      case measure => simp [intOf]; omega
    · go_wp2_with fail
      go_ret
      obtain rfl : k = L.length := by omega
      exact ⟨by rw [HV.out]; rfl, hb⟩

set_option maxHeartbeats 2000000 in
theorem c_longestWay (L : List (Int × Int)) (A : Option Addr) (c : Nat) (w : World) (hA : Cs w w.heap.size A L) (h : bOk L = true) :
    Calls Try.prog 60 #[.slice A L.length c] w fun e w' => e = .returned (.int .i64 (lw L)) ∧ Below w.heap.size w w' := by
  have hl6 := (bOk_parts h).2.2
  have hn0 := heap_alloc_new w (.cells #[.int .i64 0] 3)
  have hb0 : Below w.heap.size w (w.alloc (.cells #[.int .i64 0] 3)) := (Below.refl _ w).alloc (Nat.le_refl _) _
  have hz0 : (w.alloc (.cells #[.int .i64 0] 3)).heap.size = w.heap.size + 1 := by simp
  have HS := Lib.hid (c_foldS L A c (w.alloc (.cells #[.int .i64 0] 3)) ((hA.below hb0).more (by omega)) hl6 (fun k hk => by have b1 := sTo_bd h k (by omega); have b2 := (bOk_parts h).1 k hk; omega))
  have HL := Lib.hid (fun Bf W hA' hu hne hz => c_foldL L A c w.heap.size w.heap.size Bf W h hA' (Nat.le_refl _) hu hne hz)
  clear h
  go_enter Try.func60, Try.ntmps60
  go_wp2_with fail
  refine HS.out.mono ?_
  rintro e w1 ⟨rfl, hb1⟩
  have hs1 := hb1.size
  have hx1 := hb0.trans (hb1.mono (by omega))
  have hu1 := (hb1.block w.heap.size (by omega)).trans hn0
  obtain ⟨w2, hw2⟩ : ∃ w2, w1.alloc (.cells #[.int .i64 (sTo L L.length)] 3) = w2 := ⟨_, rfl⟩
  have hn2 : w2.heap[w1.heap.size]? = some (.cells #[.int .i64 (sTo L L.length)] 3 (0, 0)) := by rw [← hw2]; exact heap_alloc_new _ _
  have hu2 : w2.heap[w.heap.size]? = some (.cells #[.int .i64 0] 3 (0, 0)) := by rw [← hw2]; exact (Below.heap_alloc _ _ _ (by omega)).trans hu1
  have hx2 : Below w.heap.size w w2 := by rw [← hw2]; exact hx1.alloc (by omega) _
  have hz2 : w2.heap.size = w1.heap.size + 1 := by rw [← hw2]; simp
  have HF := Lib.hid (HL.out w1.heap.size w2 (hA.below hx2) ⟨⟨by simp only [World.cell?, hu2]; rfl, by simp only [World.frozen?, hu2]; rfl⟩, by simp only [World.cell?, hn2]; rfl, by simp only [World.frozen?, hn2]; rfl⟩ (by omega) (by omega))
  clear hn2 hu2 hu1 hn0 HL HS
  go_wp2_with fail
  refine HF.out.mono ?_
  rintro e w3 ⟨rfl, hb3⟩
  go_wp2_with fail
  go_ret
  exact ⟨rfl, hx2.trans hb3⟩

theorem c_iLongestWay (L : List (Int × Int)) (A : Option Addr) (c : Nat) (w : World) (hA : Cs w w.heap.size A L) (hcap : L.length ≤ c) (hn : L.length ≤ 140737488351232) :
    Calls Try.prog 25 #[.slice A L.length c] w fun e w' => e = .returned (.int .i64 (longV L)) ∧ Below w.heap.size w w' := by
  have HK := Lib.hid (c_iBothOk L A c w hA hn)
  by_cases h : bOk L = true
  · have H := Lib.hid h
    have HV := Lib.hid (longV_yes h)
    have HW := Lib.hid (fun W hW => c_longestWay L A c W hW h)
    clear h
    go_enter Try.func25, Try.ntmps25
    go_wp2_with fail
    refine HK.out.mono ?_
    rintro e w1 ⟨rfl, hb1⟩
    rw [H.out]
    have hs1 := hb1.size
    go_wp2_with fail
    refine (HW.out _ ((hA.below hb1).more hs1)).mono ?_
    rintro e w2 ⟨rfl, hb2⟩
    go_wp2_with fail
    go_ret
    exact ⟨by rw [HV.out]; rfl, hb1.trans (hb2.mono hs1)⟩
  · have hno : bOk L = false := by simpa using h
    have H := Lib.hid hno
    have HV := Lib.hid (longV_no hno)
    clear h hno
    go_enter Try.func25, Try.ntmps25
    go_wp2_with fail
    refine HK.out.mono ?_
    rintro e w1 ⟨rfl, hb1⟩
    rw [H.out]
    go_wp2_with fail
    go_ret
    exact ⟨by rw [HV.out]; rfl, hb1⟩

end Go.Proofs.Ytofjfhifldafcaa

