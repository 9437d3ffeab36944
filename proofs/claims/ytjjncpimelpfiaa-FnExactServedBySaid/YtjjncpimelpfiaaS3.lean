/- impl.LeavesOf, spec.LeavesOf -/
import Derived.Test.YtjjncpimelpfiaaS2
namespace Go.Proofs.Ytjjncpimelpfiaa
set_option linter.unusedVariables false
open Go.RowKit
attribute [local go_sem ↓] Go.wp_at_zero Go.wp_at_succ

theorem leaves_waits (L : List (Int × Int)) : (leaves L).length = (waits L).length := by
  by_cases h : cOk L = true
  · rw [leaves_yes h, waits_yes h, leavesTo_len, waitsTo_len]
  · rw [leaves_no (by simpa using h), waits_no (by simpa using h)]

set_option maxHeartbeats 4000000 in
theorem c_sLeavesOf (L : List (Int × Int)) (A : Option Addr) (c : Nat) (w : World) (hA : Cs w w.heap.size A L) (hn : L.length ≤ 140737488351232) :
    Calls Try.prog 26 #[.slice A L.length c] w fun e w' => ∃ v, e = .returned v ∧ IO w' w.heap.size v (leaves L) ∧ Below w.heap.size w w' := by
  by_cases h : cOk L = true
  · have Hg := Lib.hid (leaves_yes h)
    have Hgg := Lib.hid (waits_yes h)
    have Hbd := Lib.hid (fun k => @cOk_bd L k h)
    have Hwb := Lib.hid (waitAt_bd h)
    have hlen := cOk_len h
    clear h
    go_enter Try.func26, Try.ntmps26
    go_wp2_with fail
    have hb0 : Below w.heap.size w (w.alloc (.cells #[] 3)) := by (repeat (first | exact rfl | exact Below.refl _ _ | (with_reducible refine Below.drew ?_) | (with_reducible refine Below.drewN ?_ _) | (with_reducible refine Below.alloc ?_ ?_ _) | (with_reducible refine Below.setCell ?_ ?_ _) | (show _ ≤ _; focus (first | omega | (simp; done) | (simp; omega)))))
    refine (c_sWaitsOf L A c _ ((hA.below hb0).more hb0.size) hn).mono ?_
    rintro e w1 ⟨v1, rfl, o1, hb1⟩
    rw [Hgg.out] at o1
    obtain ⟨G, g, rfl, -, hG⟩ := o1.formG
    have hbx := hb0.trans (hb1.mono hb0.size)
    have hsx : w.heap.size < w1.heap.size := by have := hb1.size; simp at this; omega
    have own0 : IO w1 w.heap.size (.slice (some ⟨w.heap.size, 0, none⟩) 0 0) [] := (IO.empty w (Nat.le_refl _)).below hb1 (Nat.le_refl _)
    rw [waitsTo_len] at hG ⊢
    have HG := Lib.hid hG
    clear o1 hb0 hb1 hG
    go_wp2_with fail
    go_loopw [3, 5] (fun o i wr => ∃ k : Nat, k ≤ L.length ∧ i = .int .i64 k ∧ IO wr w.heap.size o (leavesTo L k) ∧ Hid (Sep w.heap.size w1.heap.size o) ∧ Hid (Mid w.heap.size w1.heap.size w1 wr) ∧ w1.heap.size ≤ wr.heap.size ∧ Below w.heap.size w wr)
      (fun _ i _ => L.length - (intOf i).toNat)
    case atStart => exact ⟨0, by omega, rfl, own0, Sep.lo _ _ _ _, Mid.refl _ _ _, Nat.le_refl _, hbx⟩
    case round =>
      obtain ⟨k, hk, rfl, hown, hsep, hmid, hz1, hb⟩ := hrel
      by_cases hlt : k < L.length
      · obtain ⟨b, off, rfl, hlb, hc⟩ := hA (by omega)
        have c1 := (hb.cell (p := ⟨b, off + k * 2, none⟩) hlb).trans (hc k hlt).1
        have c2 := (hb.cell (p := ⟨b, off + k * 2 + 1, none⟩) hlb).trans (hc k hlt).2
        obtain ⟨gb, rfl, hgb1, hgb2, hgc⟩ := HG.out (by omega)
        have hgbs : w.heap.size < gb := by simp at hgb1; omega
        have c3 : wr.cell? ⟨gb, k, none⟩ = some (.int .i64 (waitAt L k)) := by
          rw [hmid.out.cell hgbs hgb2, hgc k hlt, Z_waitsTo hlt]
        clear hc hgc
        have bd1 := Hbd.out k hlt
        have bw := Hwb.out k hlt
        have q5 : (leavesTo L k).length ≤ 1000000000000 := by rw [leavesTo_len]; omega
        have hsz := hb.size
        have hlw : b < wr.heap.size := by omega
        have k1 : (k : Int) < (L.length : Int) := by omega
        have k2 : (0 : Int) ≤ (k : Int) := by omega
        go_wp2_with fail
        have q8 : IntKind.i64.wrap (X L k + waitAt L k) = X L k + waitAt L k := IntWalk.i64_in _ (by omega)
        have q9 : IntKind.i64.wrap (X L k + waitAt L k + Y L k) = X L k + waitAt L k + Y L k := IntWalk.i64_in _ (by omega)
        have hgw : gb < wr.heap.size := by omega
        have HU := Lib.hid (And.intro q5 (And.intro hz1 (And.intro hsz (And.intro hgbs hgb2))))
        clear q5 hz1 hsz hgbs hgb1 hgb2 bd1 bw hlen
        go_region_held3 (fun w' => w'.cell? ⟨b, off + k * 2, none⟩ = some (.int .i64 (X L k)) ∧ w'.cell? ⟨b, off + k * 2 + 1, none⟩ = some (.int .i64 (Y L k)) ∧ w'.cell? ⟨gb, k, none⟩ = some (.int .i64 (waitAt L k)))
          (first
            | go_keep
            | exact ⟨(hb70.cell (p := ⟨b, _, none⟩) hlb).trans ((((Below.refl _ _).alloc (Nat.le_refl _) _).cell (p := ⟨b, _, none⟩) hlw).trans c1), (hb70.cell (p := ⟨b, _, none⟩) hlb).trans ((((Below.refl _ _).alloc (Nat.le_refl _) _).cell (p := ⟨b, _, none⟩) hlw).trans c2), (hmid7.cell HU.out.2.2.2.1 HU.out.2.2.2.2).trans ((hmid.out.cell HU.out.2.2.2.1 HU.out.2.2.2.2).symm.trans c3)⟩)
          ((refine step_IS ?_ (.tmp 15) (.tmp 32) ?_ w.heap.size u3 (leavesTo L k) (X L k + waitAt L k + Y L k) wr.heap.size ?_ ?_ ?_ ?_ ?_ ?_ w.heap.size w1.heap.size w1 ?_ ?_ ?_ ?_; rfl; rfl; rfl; exact ((hown.alloc _).drew); rfl; exact (heap_alloc_new _ _); exact HU.out.1; exact (Nat.le_trans HU.out.2.2.1 (by simp)); exact hsep.out; exact (hmid.out.below (Below.alloc (Below.refl wr.heap.size _).drew (Nat.le_refl _) _) HU.out.2.1); exact (Nat.le_trans HU.out.2.1 (by simp)); intro g7 cap w7 hown7 hb70 hsep7 hmid7))
        clear q8 q9
        have hz7 := hb70.size
        go_wp2_with fail
        go_roundw
        case rel =>
          refine ⟨k + 1, by omega, by go_num, by rw [leavesTo_succ]; exact hown7, hsep7, hmid7, ?_, ?_⟩
          · have := HU.out.2.1
            simp at hz7; omega
          · refine Below.trans ?_ hb70
            have := HU.out.2.2.1
            (repeat (first | exact hb | exact Below.refl _ _ | (with_reducible refine Below.drew ?_) | (with_reducible refine Below.drewN ?_ _) | (with_reducible refine Below.alloc ?_ ?_ _) | (with_reducible refine Below.setCell ?_ ?_ _) | (show _ ≤ _; focus (first | omega | (simp; done) | (simp; omega)))))
        case measure => simp [intOf]; omega
      · go_wp2_with fail
        go_ret
        refine ⟨_, rfl, ?_, hb⟩
        rw [Hg.out, show L.length = k by omega]
        exact hown
  · have hno : cOk L = false := by simpa using h
    have Hg := Lib.hid (leaves_no hno)
    have Hgg := Lib.hid (waits_no hno)
    clear h hno
    go_enter Try.func26, Try.ntmps26
    go_wp2_with fail
    have hb0 : Below w.heap.size w (w.alloc (.cells #[] 3)) := by (repeat (first | exact rfl | exact Below.refl _ _ | (with_reducible refine Below.drew ?_) | (with_reducible refine Below.drewN ?_ _) | (with_reducible refine Below.alloc ?_ ?_ _) | (with_reducible refine Below.setCell ?_ ?_ _) | (show _ ≤ _; focus (first | omega | (simp; done) | (simp; omega)))))
    refine (c_sWaitsOf L A c _ ((hA.below hb0).more hb0.size) hn).mono ?_
    rintro e w1 ⟨v1, rfl, o1, hb1⟩
    rw [Hgg.out] at o1
    obtain ⟨G, g, rfl, -, -⟩ := o1.formG
    have hbx := hb0.trans (hb1.mono hb0.size)
    have own0 : IO w1 w.heap.size (.slice (some ⟨w.heap.size, 0, none⟩) 0 0) [] := (IO.empty w (Nat.le_refl _)).below hb1 (Nat.le_refl _)
    go_wp2_with fail
    refine wp_loop_rounds 1 ?_
    rw [rounds_succ]
    go_wp2_with fail
    go_ret
    exact ⟨_, rfl, by rw [Hg.out]; exact own0, hbx⟩

end Go.Proofs.Ytjjncpimelpfiaa

