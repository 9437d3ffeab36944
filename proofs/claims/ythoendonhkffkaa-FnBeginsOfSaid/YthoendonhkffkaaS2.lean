/- impl.WaitsOf, spec.WaitsOf -/
import Derived.Test.YthoendonhkffkaaS1
import Derived.Test.YthoendonhkffkaaO
namespace Go.Proofs.Ythoendonhkffkaa
set_option linter.unusedVariables false
open Go.RowKit
attribute [local go_sem ↓] Go.wp_at_zero Go.wp_at_succ

theorem Z_waitsTo {L : List (Int × Int)} {n k : Nat} (h : k < n) : Z (waitsTo L n) k = waitAt L k := by simp [Z, waitsTo, h]
theorem Z_leavesTo {L : List (Int × Int)} {n k : Nat} (h : k < n) : Z (leavesTo L n) k = leaveAt L k := by simp [Z, leavesTo, h]
theorem Z_gapsTo {L : List (Int × Int)} {n k : Nat} (h : k < n - 1) : Z (gapsTo L n) k = X L (k + 1) - X L k := by simp [Z, gapsTo, h]

set_option maxHeartbeats 4000000 in
theorem c_sWaitsOf (L : List (Int × Int)) (A : Option Addr) (c : Nat) (w : World) (hA : Cs w w.heap.size A L) (hn : L.length ≤ 140737488351232) :
    Calls Try.prog 16 #[.slice A L.length c] w fun e w' => ∃ v, e = .returned v ∧ IO w' w.heap.size v (waits L) ∧ Below w.heap.size w w' := by
  by_cases h : cOk L = true
  · have Hg := Lib.hid (waits_yes h)
    have Hgg := Lib.hid (gaps_yes h)
    have Hbd := Lib.hid (fun k => @cOk_bd L k h)
    have Hwb := Lib.hid (waitAt_bd h)
    have hlen := cOk_len h
    have H := Lib.hid h; clear h
    go_enter Try.func16, Try.ntmps16
    go_wp2_with fail
    have hb0 : Below w.heap.size w (w.alloc (.cells #[] 3)) := by (repeat (first | exact rfl | exact Below.refl _ _ | (with_reducible refine Below.drew ?_) | (with_reducible refine Below.drewN ?_ _) | (with_reducible refine Below.alloc ?_ ?_ _) | (with_reducible refine Below.setCell ?_ ?_ _) | (show _ ≤ _; focus (first | omega | (simp; done) | (simp; omega)))))
    refine (c_sGapsOf L A c _ ((hA.below hb0).more hb0.size) hn).mono ?_
    rintro e w1 ⟨v1, rfl, o1, hb1⟩
    rw [Hgg.out] at o1
    obtain ⟨G, g, rfl, -, hG⟩ := o1.formG
    have hbx := hb0.trans (hb1.mono hb0.size)
    have hsx : w.heap.size < w1.heap.size := by have := hb1.size; simp at this; omega
    have own0 : IO w1 w.heap.size (.slice (some ⟨w.heap.size, 0, none⟩) 0 0) [] := (IO.empty w (Nat.le_refl _)).below hb1 (Nat.le_refl _)
    have hgl : (gapsTo L L.length).length = L.length - 1 := gapsTo_len _ _
    rw [hgl] at hG ⊢
    have HG := Lib.hid hG
    clear o1 hb0 hb1 hG hgl
    go_wp2_with fail
    go_loopw [3, 5] (fun o i wr => ∃ k : Nat, k ≤ L.length ∧ i = .int .i64 k ∧ IO wr w.heap.size o (waitsTo L k) ∧ Hid (Sep w.heap.size w1.heap.size o) ∧ Hid (Mid w.heap.size w1.heap.size w1 wr) ∧ w1.heap.size ≤ wr.heap.size ∧ Below w.heap.size w wr)
      (fun _ i _ => L.length - (intOf i).toNat)
    case atStart => exact ⟨0, by omega, rfl, own0, Sep.lo _ _ _ _, Mid.refl _ _ _, Nat.le_refl _, hbx⟩
    case round =>
      obtain ⟨k, hk, rfl, hown, hsep, hmid, hz1, hb⟩ := hrel
      by_cases hlt : k < L.length
      · have hsz := hb.size
        go_wp2_with fail
        refine (c_sCustomersOk L A c _ ((hA.below hb).more hb.size) hn).mono ?_
        rintro e w5 ⟨rfl, hb5⟩
        rw [H.out]
        have hb7 : Below w.heap.size w w5 := hb.trans (hb5.mono hsz)
        have hmid5 := Lib.hid (hmid.out.below hb5 hz1)
        have hown5 := hown.below hb5 (Nat.le_refl _)
        have hz5 := hb5.size
        have q5 : (waitsTo L k).length ≤ 1000000000000 := by rw [waitsTo_len]; omega
        clear hmid hown hb5
        by_cases hk0 : k = 0
        · subst hk0
          have hkb : (((0 : Nat) : Int) == 0) = true := rfl
          have hq1 : w.heap.size ≤ w5.heap.size := by omega
          have hq2 : w1.heap.size ≤ w5.heap.size := by omega
          have HQ := Lib.hid (And.intro hq1 hq2)
          clear hq1 hq2
          go_wp2_with (refine app_IS ?_ (.tmp 21) (.tmp 22) ?_ w.heap.size u3 (waitsTo L 0) 0 w5.heap.size ?_ ?_ ?_ ?_ ?_ ?_ w.heap.size w1.heap.size w1 ?_ ?_ ?_ ?_; rfl; rfl; rfl; exact (hown5.alloc _); rfl; exact (heap_alloc_new _ _); exact q5; exact (Nat.le_trans HQ.out.1 (by simp)); exact hsep.out; exact (hmid5.out.below (Below.alloc (Below.refl w5.heap.size _) (Nat.le_refl _) _) HQ.out.2); exact (Nat.le_trans HQ.out.2 (by simp)); intro g7 cap w7 hown7 hb70 hsep7 hmid7)
          have hz7 := hb70.size
          go_roundw
          case rel =>
            refine ⟨1, by omega, by go_num, by rw [waitsTo_succ]; exact hown7, hsep7, hmid7, ?_, ?_⟩
            · simp at hz7; omega
            · refine Below.trans ?_ hb70
              (repeat (first | exact hb7 | exact Below.refl _ _ | (with_reducible refine Below.drew ?_) | (with_reducible refine Below.drewN ?_ _) | (with_reducible refine Below.alloc ?_ ?_ _) | (with_reducible refine Below.setCell ?_ ?_ _) | (show _ ≤ _; focus (first | omega | (simp; done) | (simp; omega)))))
          case measure => simp [intOf]; omega
        · have hk1 : 1 ≤ k := by omega
          have hkb : ((k : Int) == 0) = false := beq_eq_false_iff_ne.2 (by omega)
          obtain ⟨b, off, rfl, hlb, hc⟩ := hA (by omega)
          have c1 := (hb7.cell (p := ⟨b, off + (k - 1) * 2 + 1, none⟩) hlb).trans (hc (k - 1) (by omega)).2
          clear hc
          obtain ⟨O, oc, rfl, -, hO⟩ := hown5.formG
          rw [waitsTo_len] at hO hown5 hsep ⊢
          obtain ⟨ob, rfl, -, hob, hoc⟩ := hO (by omega)
          have c2 := hoc (k - 1) (by omega)
          rw [Z_waitsTo (by omega)] at c2
          obtain ⟨gb, rfl, hgb1, hgb2, hgc⟩ := HG.out (by omega)
          have c3 : w5.cell? ⟨gb, k - 1, none⟩ = some (.int .i64 (X L k - X L (k - 1))) := by
            have hgb : w.heap.size < gb := by simp at hgb1; omega
            rw [hmid5.out.cell hgb hgb2, hgc (k - 1) (by omega), Z_gapsTo (by omega), show k - 1 + 1 = k by omega]
          clear hO hoc hgc
          have bd1 := Hbd.out k (by omega)
          have bd2 := Hbd.out (k - 1) (by omega)
          have bw := Hwb.out (k - 1) (by omega)
          have hwq : waitAt L k = max (waitAt L (k - 1) + Y L (k - 1) - (X L k - X L (k - 1))) 0 := by
            obtain ⟨j, rfl⟩ : ∃ j, k = j + 1 := ⟨k - 1, by omega⟩
            simp only [waitAt, Nat.add_sub_cancel]
          have HWQ := Lib.hid hwq
          clear hwq
          go_wp2_with fail
          have k1 : (0 : Int) ≤ (k : Int) - 1 := by omega
          have k2 : (k : Int) - 1 < (k : Int) := by omega
          have k3 : (k : Int) - 1 < (L.length : Int) := by omega
          have k4 : (k : Int) - 1 < ((L.length - 1 : Nat) : Int) := by omega
          have k5 : (1 : Int) ≤ (k : Int) := by omega
          have hlw : b < w5.heap.size := by omega
          have hgw : gb < w5.heap.size := by omega
          have hz5' : w1.heap.size ≤ w5.heap.size := by omega
          have hz5'' : w.heap.size ≤ w5.heap.size := by omega
          have hgbs : w.heap.size < gb := by simp at hgb1; omega
          have q6 : ((k : Int) - 1).toNat = k - 1 := by omega
          have q7 : IntKind.i64.wrap ((k : Int) - 1) = (k : Int) - 1 := IntWalk.i64_in _ (by omega)
          have q8 : IntKind.i64.wrap (waitAt L (k - 1) + Y L (k - 1)) = waitAt L (k - 1) + Y L (k - 1) := IntWalk.i64_in _ (by omega)
          have q9 : IntKind.i64.wrap (waitAt L (k - 1) + Y L (k - 1) - (X L k - X L (k - 1))) = waitAt L (k - 1) + Y L (k - 1) - (X L k - X L (k - 1)) := IntWalk.i64_in _ (by omega)
          have HU := Lib.hid (And.intro q5 (And.intro hz5' (And.intro hz5'' (And.intro hgbs hgb2))))
          clear q5 hz5' hz5'' hgbs hgb1 hgb2 hz5 hsz hz1 bd1 bd2 bw hlen
          go_region_held3 (fun w' => w'.cell? ⟨b, off + (k - 1) * 2 + 1, none⟩ = some (.int .i64 (Y L (k - 1))) ∧ w'.cell? ⟨ob, k - 1, none⟩ = some (.int .i64 (waitAt L (k - 1))) ∧ w'.cell? ⟨gb, k - 1, none⟩ = some (.int .i64 (X L k - X L (k - 1))))
            (first
              | go_keep
              | exact ⟨(hb70.cell (p := ⟨b, _, none⟩) hlb).trans ((((Below.refl _ _).alloc (Nat.le_refl _) _).cell (p := ⟨b, _, none⟩) hlw).trans c1), (hkeep _ rfl _ (by rw [waitsTo_len]; omega)).trans ((((Below.refl _ _).alloc (Nat.le_refl _) _).cell (p := ⟨ob, _, none⟩) hob).trans c2), (hmid7.cell HU.out.2.2.2.1 HU.out.2.2.2.2).trans ((hmid5.out.cell HU.out.2.2.2.1 HU.out.2.2.2.2).symm.trans c3)⟩)
            ((refine step_ISK ?_ (.tmp 24) (.tmp 44) ?_ w.heap.size (.slice (some ⟨ob, 0, none⟩) k oc) (waitsTo L k) (if waitAt L (k - 1) + Y L (k - 1) - (X L k - X L (k - 1)) < 0 then 0 else waitAt L (k - 1) + Y L (k - 1) - (X L k - X L (k - 1))) w5.heap.size ?_ ?_ ?_ ?_ ?_ ?_ w.heap.size w1.heap.size w1 ?_ ?_ ?_ ?_; rfl; rfl; rfl; exact ((hown5.alloc _).drew); rfl; exact (heap_alloc_new _ _); exact HU.out.1; exact (Nat.le_trans HU.out.2.2.1 (by simp)); exact hsep.out; exact (hmid5.out.below (Below.alloc (Below.refl w5.heap.size _).drew (Nat.le_refl _) _) HU.out.2.1); exact (Nat.le_trans HU.out.2.1 (by simp)); intro g7 cap w7 hown7 hb70 hsep7 hmid7 hkeep))
          clear q6 q7 q8 q9
          have hy : (if waitAt L (k - 1) + Y L (k - 1) - (X L k - X L (k - 1)) < 0 then 0 else waitAt L (k - 1) + Y L (k - 1) - (X L k - X L (k - 1))) = waitAt L k := by rw [HWQ.out]; split <;> omega
          rw [hy] at hown7
          clear hy
          have hz7 := hb70.size
          go_wp2_with fail
          go_roundw
          case rel =>
            refine ⟨k + 1, by omega, by go_num, by rw [waitsTo_succ]; exact hown7, hsep7, hmid7, ?_, ?_⟩
            · have := HU.out.2.1
              simp at hz7; omega
            · refine Below.trans ?_ hb70
              have := HU.out.2.2.1
              (repeat (first | exact hb7 | exact Below.refl _ _ | (with_reducible refine Below.drew ?_) | (with_reducible refine Below.drewN ?_ _) | (with_reducible refine Below.alloc ?_ ?_ _) | (with_reducible refine Below.setCell ?_ ?_ _) | (show _ ≤ _; focus (first | omega | (simp; done) | (simp; omega)))))
          case measure => simp [intOf]; omega
      · go_wp2_with fail
        go_ret
        refine ⟨_, rfl, ?_, hb⟩
        rw [Hg.out, show L.length = k by omega]
        exact hown
  · have hno : cOk L = false := by simpa using h
    have Hg := Lib.hid (waits_no hno)
    have Hgg := Lib.hid (gaps_no hno)
    have hp : 0 < L.length := by
      cases L with
      | nil => exact absurd rfl h
      | cons _ _ => simp
    have H := Lib.hid hno; clear h hno
    go_enter Try.func16, Try.ntmps16
    go_wp2_with fail
    have hb0 : Below w.heap.size w (w.alloc (.cells #[] 3)) := by (repeat (first | exact rfl | exact Below.refl _ _ | (with_reducible refine Below.drew ?_) | (with_reducible refine Below.drewN ?_ _) | (with_reducible refine Below.alloc ?_ ?_ _) | (with_reducible refine Below.setCell ?_ ?_ _) | (show _ ≤ _; focus (first | omega | (simp; done) | (simp; omega)))))
    refine (c_sGapsOf L A c _ ((hA.below hb0).more hb0.size) hn).mono ?_
    rintro e w1 ⟨v1, rfl, o1, hb1⟩
    have hbx := hb0.trans (hb1.mono hb0.size)
    have own0 : IO w1 w.heap.size (.slice (some ⟨w.heap.size, 0, none⟩) 0 0) [] := (IO.empty w (Nat.le_refl _)).below hb1 (Nat.le_refl _)
    clear o1 hb0 hb1
    go_wp2_with fail
    refine wp_loop_rounds 1 ?_
    rw [rounds_succ]
    go_wp2_with fail
    refine (c_sCustomersOk L A c _ ((hA.below hbx).more hbx.size) hn).mono ?_
    rintro e w5 ⟨rfl, hb5⟩
    rw [H.out]
    go_wp2_with fail
    go_ret
    refine ⟨_, rfl, ?_, hbx.trans (hb5.mono hbx.size)⟩
    rw [Hg.out]
    exact own0.below hb5 (Nat.le_refl _)

end Go.Proofs.Ythoendonhkffkaa

