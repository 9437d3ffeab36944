/- impl.EndsOf -/
import Derived.Test.YtecoefjkobpbgaaU1
import Derived.Test.YtecoefjkobpbgaaO2
import Derived.OwnWalk
namespace Go.Proofs.Ytecoefjkobpbgaa
set_option linter.unusedVariables false
open Go.RowKit
attribute [local go_sem ↓] Go.wp_at_zero Go.wp_at_succ

def endsAt (L : List (Int × Int)) (o : List Int) (t : Nat) : List Int := (List.range L.length).map fun k => endTo o k t
theorem endsAt_len (L : List (Int × Int)) (o : List Int) (t : Nat) : (endsAt L o t).length = L.length := by simp [endsAt]
theorem endsAt_zero (L : List (Int × Int)) (o : List Int) : endsAt L o 0 = List.replicate L.length 0 := by
  refine List.ext_getElem (by simp [endsAt]) fun k h1 h2 => ?_
  simp [endsAt, endTo]
theorem endsAt_set {L : List (Int × Int)} {o : List Int} {t p : Nat} (e : Z o t = p) : endsAt L o (t + 1) = (endsAt L o t).set p ((t : Int) + 1) := by
  refine List.ext_getElem (by simp [endsAt]) fun k h1 h2 => ?_
  rw [List.getElem_set]
  simp only [endsAt, List.getElem_map, List.getElem_range, endTo, e]
  by_cases h : p = k
  · rw [if_pos h, if_pos (by omega)]
  · rw [if_neg h, if_neg (by omega)]
theorem endsAt_idle {L : List (Int × Int)} {o : List Int} {t : Nat} (e : Z o t = -1) : endsAt L o (t + 1) = endsAt L o t := by
  refine List.ext_getElem (by simp [endsAt]) fun k h1 h2 => ?_
  simp only [endsAt, List.getElem_map, List.getElem_range, endTo, e]
  rw [if_neg (by omega)]

set_option maxHeartbeats 4000000 in
theorem c_iEndsOf (L : List (Int × Int)) (o : List Int) (A O : Option Addr) (c d : Nat) (w : World) (hA : Cs w w.heap.size A L) (hO : Is w w.heap.size O o) (hn : L.length ≤ 140737488351232) (ho : o.length ≤ 140737488351232) :
    Calls Try.prog 44 #[.slice A L.length c, .slice O o.length d] w fun e w' => ∃ v, e = .returned v ∧ IO w' w.heap.size v (ends L o) ∧ Below w.heap.size w w' := by
  have HK := Lib.hid (c_iOrderOk L o A O c d w hA hO hn ho)
  by_cases hok : ordOk L o = true
  · obtain ⟨hc, hl2, hu, -⟩ := ordOk_parts hok
    have H := Lib.hid hok
    have HE := Lib.hid (ends_yes hok)
    have hlen := cOk_len hc
    have HU := Lib.hid (fun t (ht : t < o.length) => unitsOk_at _ hu t ht)
    clear hok hc hu
    go_enter Try.func44, Try.ntmps44
    go_wp2_with fail
    refine HK.out.mono ?_
    rintro e w1 ⟨rfl, hb1⟩
    rw [H.out]
    have hs1 := hb1.size
    clear HK
    go_wp2_with (refine make_I ?_ (.tmp 13) ?_ w.heap.size L.length ?_ ?_ ?_ ?_; rfl; rfl; rfl; omega; exact hs1; intro w2 hown2 hg2)
    rw [← endsAt_zero L o] at hown2
    have hb2 := hb1.grown hg2 hs1 (fun k e => by cases e)
    go_wp2_with fail
    go_loopw [17] (fun i wr => ∃ t : Nat, t ≤ o.length ∧ i = .int .i64 t ∧ IO wr w.heap.size (.slice (some ⟨w1.heap.size, 0, none⟩) L.length L.length) (endsAt L o t) ∧ Below w.heap.size w wr) (fun i _ => o.length - (intOf i).toNat)
    case atStart => exact ⟨0, by omega, rfl, hown2, hb2⟩
    case round =>
      obtain ⟨t, ht, rfl, hown, hb⟩ := hrel
      have hsz := hb.size
      by_cases hlt : t < o.length
      · obtain ⟨ob, oo, rfl, hob, hoc⟩ := hO (by omega)
        have c0 := (hb.cell (p := ⟨ob, oo + t, none⟩) hob).trans (hoc t hlt)
        have p1 : (0 : Int) ≤ (t : Int) := by omega
        have p2 : (t : Int) < (o.length : Int) := by omega
        clear hoc
        rcases unitOk_cases (HU.out t hlt) with e | ⟨p, e, hp, hx, hz⟩
        · have hn1 : (Z o t == -1) = true := beq_iff_eq.2 e
          have HN := Lib.hid (endsAt_idle (L := L) e)
          clear e
          go_wp2_with fail
          go_roundw
          case rel => exact ⟨t + 1, by omega, by go_num, by rw [HN.out]; exact hown, hb⟩
          case measure => simp [intOf]; omega
        · have HN := Lib.hid (endsAt_set (L := L) e)
          have hn1 : ((p : Int) == -1) = false := beq_eq_false_iff_ne.2 (by omega)
          have q1 : (0 : Int) ≤ (p : Int) := by omega
          have q2 : (p : Int) < (L.length : Int) := by omega
          rw [e] at c0
          obtain ⟨-, cs, fz⟩ := hown.cells
          have f0 := fz p
          have cp := cs p hp
          have HO2 := Lib.hid hown
          clear e cs fz hown
          go_wp2_with fail
          go_roundw
          case rel => exact ⟨t + 1, by omega, by go_num, by rw [HN.out]; exact HO2.out.store p _, hb.setCell (p := ⟨w1.heap.size, p, none⟩) hs1 _⟩
          case measure => simp [intOf]; omega
      · have hlf : ¬ ((t : Int) < (o.length : Int)) := by omega
        obtain rfl : t = o.length := by omega
        go_wp2_with fail
        go_ret
        exact ⟨_, rfl, by rw [HE.out]; exact hown, hb⟩
  · have H := Lib.hid (show ordOk L o = false by simpa using hok)
    clear hok
    go_enter Try.func44, Try.ntmps44
    go_wp2_with fail
    refine HK.out.mono ?_
    rintro e w1 ⟨rfl, hb1⟩
    rw [H.out]
    go_wp2_with fail
    go_ret
    exact ⟨_, rfl, by rw [ends_no H.out]; exact IO.nil _ _, hb1⟩


end Go.Proofs.Ytecoefjkobpbgaa

