/- spec.EndsOf (ahead of the landing) -/
import Derived.Test.YtecoefjkobpbgaaK6
namespace Go.Proofs.Ytecoefjkobpbgaa
set_option linter.unusedVariables false
open Go.RowKit
attribute [local go_sem ↓] Go.wp_at_zero Go.wp_at_succ

set_option maxHeartbeats 8000000 in
theorem c_sEndsOf (L : List (Int × Int)) (o : List Int) (A O : Option Addr) (c d : Nat) (w : World) (hA : Cs w w.heap.size A L) (hO : Is w w.heap.size O o) (hn : L.length ≤ 1000000000000) (ho : o.length ≤ 140737488351232) :
    Calls Try.prog 54 #[.slice A L.length c, .slice O o.length d] w fun e w' => ∃ v, e = .returned v ∧ IO w' w.heap.size v (ends L o) ∧ Below w.heap.size w w' := by
  go_enter Try.func54, Try.ntmps54
  have hbz : Below w.heap.size w (w.alloc (.cells #[] 3)) := by (repeat (first | exact rfl | exact Below.refl _ _ | (with_reducible refine Below.drew ?_) | (with_reducible refine Below.drewN ?_ _) | (with_reducible refine Below.alloc ?_ ?_ _) | (with_reducible refine Below.setCell ?_ ?_ _) | (show _ ≤ _; focus (first | omega | (simp; done) | (simp; omega)))))
  go_wp2_with fail
  go_loopw [5, 6] (fun q i wr => ∃ k : Nat, k ≤ L.length ∧ i = .int .i64 k ∧ (ordOk L o = true ∨ k = 0) ∧ IO wr w.heap.size q (endsL L o k) ∧ Below w.heap.size w wr) (fun _ i _ => L.length - (intOf i).toNat)
  case atStart => exact ⟨0, by omega, rfl, .inr rfl, IO.empty w (Nat.le_refl _), hbz⟩
  case round =>
    obtain ⟨k, hk, rfl, hor, hown, hb⟩ := hrel
    have hsz := hb.size
    by_cases hlt : k < L.length
    · have HK := Lib.hid (c_sOrderOk L o A O c d wr ((hA.below hb).more hsz) ((hO.below hb).more hsz) hn ho)
      by_cases hok : ordOk L o = true
      · have H := Lib.hid hok
        clear hok hor
        go_wp2_with fail
        refine HK.out.mono ?_
        rintro e w5 ⟨rfl, hb5⟩
        have hown5 := hown.below hb5 (Nat.le_refl _)
        have hb6 := hb.trans (hb5.mono hsz)
        have hz6 := hb6.size
        clear HK hown hb hb5 hsz
        rw [H.out]
        go_wp2_with fail
        go_loopw [7, 8] (fun q i wq => ∃ t : Nat, t ≤ o.length ∧ i = .int .i64 t ∧ q = .int .i64 (endTo o k t) ∧ wq = w5) (fun _ i _ => o.length - (intOf i).toNat)
        case atStart => exact ⟨0, by omega, rfl, rfl, rfl⟩
        case round =>
          obtain ⟨t, ht, rfl, rfl, rfl⟩ := hrel
          by_cases hlt2 : t < o.length
          · obtain ⟨ob, oo, rfl, hob, hoc⟩ := hO (by omega)
            have c0 := (hb6.cell (p := ⟨ob, oo + t, none⟩) hob).trans (hoc t hlt2)
            clear hoc
            by_cases he : Z o t = (k : Int)
            · have heb : (Z o t == (k : Int)) = true := beq_iff_eq.2 he
              have E := Lib.hid (show endTo o k (t + 1) = (t : Int) + 1 by simp [endTo, he])
              clear he
              go_wp2_with fail
              go_roundw
              case rel => exact ⟨t + 1, by omega, by go_num, by rw [E.out], trivial⟩
              case measure => simp [intOf]; omega
            · have heb : (Z o t == (k : Int)) = false := beq_eq_false_iff_ne.2 he
              have E := Lib.hid (show endTo o k (t + 1) = endTo o k t by simp [endTo, he])
              clear he
              go_wp2_with fail
              go_roundw
              case rel => exact ⟨t + 1, by omega, by go_num, by rw [E.out], trivial⟩
              case measure => simp [intOf]; omega
          · have hlf2 : ¬ ((t : Int) < (o.length : Int)) := by omega
            obtain rfl : t = o.length := by omega
            have q5 : (endsL L o k).length ≤ 1000000000000 := by rw [endsL_len]; omega
            go_wp2_with (refine app_I ?_ (.tmp 35) (.tmp 37) ?_ w.heap.size u5 (endsL L o k) (endTo o k o.length) wr.heap.size ?_ ?_ ?_ ?_ ?_ ?_ ?_; rfl; rfl; rfl; exact (hown5.alloc _); rfl; exact (heap_alloc_new _ _); exact q5; exact (Nat.le_trans hz6 (by simp)); intro g7 cap w7 hown7 hgr7 hb7)
            go_roundw
            case rel =>
              refine ⟨k + 1, by omega, by go_num, .inl H.out, by rw [endsL_succ]; exact hown7, ?_⟩
              refine Below.trans ?_ hb7
              (repeat (first | exact hb6 | exact Below.refl _ _ | (with_reducible refine Below.drew ?_) | (with_reducible refine Below.drewN ?_ _) | (with_reducible refine Below.alloc ?_ ?_ _) | (with_reducible refine Below.setCell ?_ ?_ _) | (show _ ≤ _; focus (first | omega | (simp; done) | (simp; omega)))))
            case measure => simp [intOf]; omega
      · have hok' : ordOk L o = false := by simpa using hok
        have H := Lib.hid hok'
        obtain rfl : k = 0 := by rcases hor with h | h; exact absurd h hok; exact h
        clear hok hok'
        go_wp2_with fail
        refine HK.out.mono ?_
        rintro e w5 ⟨rfl, hb5⟩
        rw [H.out]
        go_wp2_with fail
        go_ret
        exact ⟨_, rfl, by rw [ends_no H.out]; exact hown.below hb5 (Nat.le_refl _), hb.trans (hb5.mono hsz)⟩
    · have hlf : ¬ ((k : Int) < (L.length : Int)) := by omega
      have HE := Lib.hid (show ends L o = endsL L o k by
        rcases hor with h | h
        · rw [ends_yes h]; congr 1; omega
        · subst h
          have e0 : L.length = 0 := by omega
          unfold ends; split
          · rw [e0]
          · rfl)
      clear hor
      go_wp2_with fail
      go_ret
      exact ⟨_, rfl, by rw [HE.out]; exact hown, hb⟩

end Go.Proofs.Ytecoefjkobpbgaa

