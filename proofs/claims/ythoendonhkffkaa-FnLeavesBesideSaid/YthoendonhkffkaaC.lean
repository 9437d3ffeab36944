/- impl.NeedOf, fold, spec.NeedOf · impl.comeUpTo, impl.ComeBy, spec.ComeBy · gapTo, impl.GapsOf, spec.GapsOf · later, impl.LaterBy, spec.LaterBy, spec.LastLeave -/
import Derived.Test.YthoendonhkffkaaA
import Derived.Test.YthoendonhkffkaaB
import Derived.Test.YthoendonhkffkaaM
import Derived.Test.YthoendonhkffkaaO
namespace Go.Proofs.Ythoendonhkffkaa
set_option linter.unusedVariables false
open Go.RowKit

end Go.Proofs.Ythoendonhkffkaa

namespace Go.Proofs.Ythoendonhkffkaa
set_option linter.unusedVariables false
open Go.RowKit

end Go.Proofs.Ythoendonhkffkaa

namespace Go.Proofs.Ythoendonhkffkaa
set_option linter.unusedVariables false
open Go.RowKit
attribute [local go_sem ↓] Go.wp_at_zero Go.wp_at_succ

set_option maxHeartbeats 2000000 in
theorem c_sGapsOf (L : List (Int × Int)) (A : Option Addr) (c : Nat) (w : World) (hA : Cs w w.heap.size A L) (hn : L.length ≤ 140737488351232) :
    Calls Try.prog 46 #[.slice A L.length c] w fun e w' => ∃ v, e = .returned v ∧ IO w' w.heap.size v (gaps L) ∧ Below w.heap.size w w' := by
  by_cases h : cOk L = true
  · have Hg := Lib.hid (gaps_yes h)
    have Hbd := Lib.hid (fun k => @cOk_bd L k h)
    have hlen := cOk_len h
    have H := Lib.hid h; clear h
    go_enter Try.func46, Try.ntmps46
    go_wp2_with fail
    go_loopw [3, 4] (fun o i wr => ∃ k : Nat, 1 ≤ k ∧ (k ≤ L.length ∨ k = 1) ∧ i = .int .i64 k ∧ IO wr w.heap.size o (gapsTo L k) ∧ Below w.heap.size w wr)
      (fun _ i _ => L.length - (intOf i).toNat)
    case atStart => exact ⟨1, by omega, .inr rfl, rfl, IO.empty _ (Nat.le_refl _), by (repeat (first | exact rfl | exact Below.refl _ _ | (with_reducible refine Below.drew ?_) | (with_reducible refine Below.drewN ?_ _) | (with_reducible refine Below.alloc ?_ ?_ _) | (with_reducible refine Below.setCell ?_ ?_ _) | (show _ ≤ _; focus (first | omega | (simp; done) | (simp; omega)))))⟩
    case round =>
      obtain ⟨k, hk1, hk, rfl, hown, hb⟩ := hrel
      by_cases hlt : k < L.length
      · have hsz := hb.size
        go_wp2_with fail
        refine (c_sCustomersOk L A c _ ((hA.below hb).more hb.size) hn).mono ?_
        rintro e w5 ⟨rfl, hb5⟩
        rw [H.out]
        obtain ⟨b, off, rfl, hlb, hc⟩ := hA (by omega)
        have hb7 : Below w.heap.size w w5 := hb.trans (hb5.mono hsz)
        have hsz7 := hb7.size
        have c1 := (hb7.cell (p := ⟨b, off + k * 2, none⟩) hlb).trans (hc k hlt).1
        have c3 := (hb7.cell (p := ⟨b, off + (k - 1) * 2, none⟩) hlb).trans (hc (k - 1) (by omega)).1
        clear hc
        have bd1 := Hbd.out k (by omega)
        have bd2 := Hbd.out (k - 1) (by omega)
        clear hA
        go_wp2_with fail
        have hown5 := hown.below hb5 (Nat.le_refl _)
        have hk0' : (0 : Int) ≤ (k : Int) - 1 := by omega
        have hk1' : (k : Int) - 1 < (L.length : Int) := by omega
        have hk2' : (1 : Int) ≤ (k : Int) := by omega
        have hk3' : (k : Int) ≤ (L.length : Int) := by omega
        have hk4' : k ≤ L.length := by omega
        have hlw : b < w5.heap.size := by omega
        have q5 : (gapsTo L k).length ≤ 1000000000000 := by rw [gapsTo_len]; omega
        have q6 : ((k : Int) - 1).toNat = k - 1 := by omega
        have q8 : IntKind.i64.wrap (X L k - X L (k - 1)) = X L k - X L (k - 1) := IntWalk.i64_in _ (by omega)
        have q7 : IntKind.i64.wrap ((k : Int) - 1) = (k : Int) - 1 := IntWalk.i64_in _ (by omega)
        go_region_held3 (fun w' => w'.cell? ⟨b, off + k * 2, none⟩ = some (.int .i64 (X L k)) ∧ w'.cell? ⟨b, off + (k - 1) * 2, none⟩ = some (.int .i64 (X L (k - 1))))
          (first
            | go_keep
            | exact ⟨(hb6.cell (p := ⟨b, _, none⟩) hlb).trans ((((Below.refl _ _).alloc (Nat.le_refl _) _).cell (p := ⟨b, _, none⟩) hlw).trans c1), (hb6.cell (p := ⟨b, _, none⟩) hlb).trans ((((Below.refl _ _).alloc (Nat.le_refl _) _).cell (p := ⟨b, _, none⟩) hlw).trans c3)⟩)
          ((refine step_I (by rfl) (.tmp 16) (.tmp 29) (by rfl) w.heap.size u3 (gapsTo L k) (X L k - X L (k - 1)) w5.heap.size (by rfl) ((hown5.alloc _).drew) (by rfl) (heap_alloc_new _ _) q5 ?_ ?_; (clear q6 q7 q8; simp; omega); intro g cap w6 hown6 hgr hb6))
        clear q6 q7 q8
        go_wp2_with fail
        go_roundw
        case rel =>
          refine ⟨k + 1, by omega, .inl (by omega), by go_num, by rw [gapsTo_succ L k hk1]; exact hown6, ?_⟩
          refine Below.trans ?_ hb6
          (repeat (first | exact hb7 | exact Below.refl _ _ | (with_reducible refine Below.drew ?_) | (with_reducible refine Below.drewN ?_ _) | (with_reducible refine Below.alloc ?_ ?_ _) | (with_reducible refine Below.setCell ?_ ?_ _) | (show _ ≤ _; focus (first | omega | (simp; done) | (simp; omega)))))
        case measure => simp [intOf]; omega
      · go_wp2_with fail
        go_ret
        refine ⟨_, rfl, ?_, hb⟩
        rw [Hg.out]
        have e : gapsTo L k = gapsTo L L.length := by
          rcases hk with hk | hk
          · rw [show k = L.length by omega]
          · subst hk
            have e1 : L.length - 1 = 0 := by omega
            simp [gapsTo, e1]
        rw [← e]
        exact hown
  · have hno : cOk L = false := by simpa using h
    have Hg := Lib.hid (gaps_no hno)
    have H := Lib.hid hno; clear h hno
    by_cases h1 : 1 < L.length
    · go_enter Try.func46, Try.ntmps46
      go_wp2_with fail
      refine wp_loop_rounds 1 ?_
      rw [rounds_succ]
      go_wp2_with fail
      have hbw : Below w.heap.size w (w.alloc (.cells #[] 3)) := by (repeat (first | exact rfl | exact Below.refl _ _ | (with_reducible refine Below.drew ?_) | (with_reducible refine Below.drewN ?_ _) | (with_reducible refine Below.alloc ?_ ?_ _) | (with_reducible refine Below.setCell ?_ ?_ _) | (show _ ≤ _; focus (first | omega | (simp; done) | (simp; omega)))))
      refine (c_sCustomersOk L A c _ ((hA.below hbw).more hbw.size) hn).mono ?_
      rintro e w5 ⟨rfl, hb5⟩
      rw [H.out]
      go_wp2_with fail
      go_ret
      refine ⟨_, rfl, ?_, hbw.trans (hb5.mono hbw.size)⟩
      rw [Hg.out]
      exact (IO.empty _ (Nat.le_refl _)).below hb5 (Nat.le_refl _)
    · go_enter Try.func46, Try.ntmps46
      go_wp2_with fail
      refine wp_loop_rounds 1 ?_
      rw [rounds_succ]
      go_wp2_with fail
      go_ret
      refine ⟨_, rfl, ?_, by (repeat (first | exact rfl | exact Below.refl _ _ | (with_reducible refine Below.drew ?_) | (with_reducible refine Below.drewN ?_ _) | (with_reducible refine Below.alloc ?_ ?_ _) | (with_reducible refine Below.setCell ?_ ?_ _) | (show _ ≤ _; focus (first | omega | (simp; done) | (simp; omega)))))⟩
      rw [Hg.out]
      exact IO.empty _ (Nat.le_refl _)

end Go.Proofs.Ythoendonhkffkaa

namespace Go.Proofs.Ythoendonhkffkaa
set_option linter.unusedVariables false
open Go.RowKit
attribute [local go_sem ↓] Go.wp_at_zero Go.wp_at_succ

def laterV (v : Value) (b : Bool) : Value := .tuple #[v, .bool b]

end Go.Proofs.Ythoendonhkffkaa

