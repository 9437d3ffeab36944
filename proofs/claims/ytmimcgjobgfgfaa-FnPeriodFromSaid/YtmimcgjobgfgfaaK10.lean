/- spec.TimesOf, SumOf, ThereAt, LeastSum, SpreadOf (ahead of the landing) -/
import Derived.Test.YtmimcgjobgfgfaaK7
import Derived.Test.YtmimcgjobgfgfaaM16
namespace Go.Proofs.Ytmimcgjobgfgfaa
set_option linter.unusedVariables false
open Go.RowKit
attribute [local go_sem ↓] Go.wp_at_zero Go.wp_at_succ

set_option maxRecDepth 4000 in
set_option maxHeartbeats 8000000 in
theorem c_sTimesOf (L : List (Int × Int)) (o : List Int) (A O : Option Addr) (c d : Nat) (w : World) (hA : Cs w w.heap.size A L) (hO : Is w w.heap.size O o) (hn : L.length ≤ 1000000000000) (ho : o.length ≤ 140737488351232) :
    Calls Try.prog 40 #[.slice A L.length c, .slice O o.length d] w fun e w' => ∃ v, e = .returned v ∧ IO w' w.heap.size v (timesR L o) ∧ Below w.heap.size w w' := by
  have hbz : Below w.heap.size w (w.alloc (.cells #[] 3)) := by (repeat (first | exact rfl | exact Below.refl _ _ | (with_reducible refine Below.drew ?_) | (with_reducible refine Below.drewN ?_ _) | (with_reducible refine Below.alloc ?_ ?_ _) | (with_reducible refine Below.setCell ?_ ?_ _) | (show _ ≤ _; focus (first | omega | (simp; done) | (simp; omega)))))
  have own0 := IO.empty w (Nat.le_refl w.heap.size)
  have HK := Lib.hid (c_sEndsOf L o A O c d _ ((hA.below hbz).more hbz.size) ((hO.below hbz).more hbz.size) hn ho)
  by_cases hok : ordOk L o = true
  · have HV := Lib.hid (timesR_yes hok)
    have HE := Lib.hid (ends_yes hok)
    have Hb := Lib.hid (fun k (hk : k < L.length) => time_bd hok hk)
    have Hc := Lib.hid (fun k (hk : k < L.length) => cOk_bd (ordOk_parts hok).1 hk)
    have hlen := cOk_len (ordOk_parts hok).1
    clear hok
    go_enter Try.func40, Try.ntmps40
    go_wp2_with fail
    refine HK.out.mono ?_
    rintro e w1 ⟨v1, rfl, o1, hb1⟩
    rw [HE.out] at o1
    obtain ⟨G, g, rfl, -, hG⟩ := o1.formG
    rw [endsL_len] at hG ⊢
    have HG := Lib.hid hG
    have own1 := own0.below hb1 (Nat.le_refl _)
    have hbx := hbz.trans (hb1.mono hbz.size)
    have hsx := hbx.size
    clear hG o1 HK own0 hbz hb1
    go_wp2_with fail
    go_loopw [5, 7] (fun q i wr => ∃ k : Nat, k ≤ L.length ∧ i = .int .i64 k ∧ IO wr w.heap.size q (timeL L o k) ∧ Hid (Sep w.heap.size w1.heap.size q) ∧ Hid (Mid w.heap.size w1.heap.size w1 wr) ∧ w1.heap.size ≤ wr.heap.size ∧ Below w.heap.size w wr) (fun _ i _ => L.length - (intOf i).toNat)
    case atStart => exact ⟨0, by omega, rfl, own1, Sep.lo _ _ _ _, Mid.refl _ _ _, Nat.le_refl _, hbx⟩
    case round =>
      obtain ⟨k, hk, rfl, hown, hsep, hmid, hz, hb⟩ := hrel
      have hsz := hb.size
      by_cases hlt : k < L.length
      · obtain ⟨gb, rfl, hgl, hgb, hgc⟩ := HG.out (by omega)
        obtain ⟨b, off, rfl, hlb, hc⟩ := hA (by omega)
        have c1 := (hb.cell (p := ⟨b, off + k * 2, none⟩) hlb).trans (hc k hlt).1
        have hgs : w.heap.size < gb := by simp at hgl; omega
        have c0 := hgc k hlt
        rw [endsL_Z hlt] at c0
        have c2 := (hmid.out.cell (o := k) hgs hgb).trans c0
        have tb := Hb.out k hlt
        have cb := Hc.out k hlt
        have p1 : (0 : Int) ≤ (k : Int) := by omega
        have p2 : (k : Int) < (L.length : Int) := by omega
        have q7 : IntKind.i64.wrap (endTo o k o.length - X L k) = endTo o k o.length - X L k := IntWalk.i64_in _ (by omega)
        have q5 : (timeL L o k).length ≤ 1000000000000 := by rw [timeL_len]; omega
        have HS := Lib.hid (timeL_succ L o k)
        have hlw : b < wr.heap.size := by omega
        have hal : Mid w.heap.size w1.heap.size w1 (wr.alloc (.cells #[.int .i64 (endTo o k o.length - X L k)] 3)) := hmid.out.below ((Below.refl wr.heap.size _).alloc (Nat.le_refl _) _) hz
        clear hc hgc tb cb
        go_wp2_with fail
        go_region_held3 (fun w' => w'.cell? ⟨b, off + k * 2, none⟩ = some (.int .i64 (X L k)) ∧ w'.cell? ⟨gb, k, none⟩ = some (.int .i64 (endTo o k o.length)))
          (first
            | go_keep
            | exact ⟨(hb6.cell (p := ⟨b, _, none⟩) hlb).trans ((((Below.refl _ _).alloc (Nat.le_refl _) _).cell (p := ⟨b, _, none⟩) hlw).trans c1), (hmid6.cell hgs hgb).trans c0⟩)
          ((refine step_IS (by rfl) (.tmp 18) (.tmp 29) (by rfl) w.heap.size u5 (timeL L o k) (endTo o k o.length - X L k) wr.heap.size (by rfl) ((hown.alloc _).drew) (by rfl) (heap_alloc_new _ _) q5 ?_ w.heap.size w1.heap.size w1 hsep.out hal ?_ ?_; (clear q7; simp; omega); (clear q7; simp; omega); intro g cap w6 hown6 hb6 hsep6 hmid6))
        clear q7
        have hz6 := hb6.size
        go_wp2_with fail
        go_roundw
        case rel =>
          refine ⟨k + 1, by omega, by go_num, by rw [HS.out]; exact hown6, hsep6, hmid6, by simp at hz6; omega, ?_⟩
          refine Below.trans ?_ hb6
          (repeat (first | exact hb | exact Below.refl _ _ | (with_reducible refine Below.drew ?_) | (with_reducible refine Below.drewN ?_ _) | (with_reducible refine Below.alloc ?_ ?_ _) | (with_reducible refine Below.setCell ?_ ?_ _) | (show _ ≤ _; focus (first | omega | (simp; done) | (simp; omega)))))
        case measure => simp [intOf]; omega
      · have hlf : ¬ ((k : Int) < (L.length : Int)) := by omega
        go_wp2_with fail
        go_ret
        refine ⟨_, rfl, ?_, hb⟩
        rw [HV.out, show L.length = k by omega]
        exact hown
  · have H := Lib.hid (show ordOk L o = false by simpa using hok)
    have HV := Lib.hid (timesR_no H.out)
    clear hok
    go_enter Try.func40, Try.ntmps40
    go_wp2_with fail
    refine HK.out.mono ?_
    rintro e w1 ⟨v1, rfl, o1, hb1⟩
    rw [ends_no H.out] at o1
    obtain ⟨G, g, rfl, -, -⟩ := o1.formG
    have own1 := own0.below hb1 (Nat.le_refl _)
    have hbx := hbz.trans (hb1.mono hbz.size)
    go_wp2_with fail
    refine wp_loop_rounds 1 ?_
    rw [rounds_succ]
    go_wp2_with fail
    go_ret
    exact ⟨_, rfl, by rw [HV.out]; exact own1, hbx⟩

end Go.Proofs.Ytmimcgjobgfgfaa

