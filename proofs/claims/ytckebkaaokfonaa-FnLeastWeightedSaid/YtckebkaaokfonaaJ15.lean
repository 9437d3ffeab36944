/- walks of the laws of chapter 7, fourth part: FnLeastWeighted -/
import Derived.Test.YtckebkaaokfonaaKN
import Derived.Test.YtckebkaaokfonaaI6
import Derived.Test.YtckebkaaokfonaaH
namespace Go.Proofs.Ytckebkaaokfonaa
set_option linter.unusedVariables false
open Go.RowKit
attribute [local go_sem ↓] Go.wp_at_zero Go.wp_at_succ

theorem leastW_bd (L : List (Int × Int)) : -1 ≤ leastW L ∧ leastW L ≤ 3000 ∧ (tOk L = true → 0 ≤ leastW L) := by
  cases h : tOk L with
  | false => rw [leastW_no h]; simp
  | true =>
    have he := byR_each h
    have b := wsW_bd h he L.length (by rw [byR_len]; omega)
    rw [leastW_ratio h, wsumV_yes h he, byR_len]
    have := (tOk_parts h).2
    omega

set_option maxRecDepth 4000 in
set_option maxHeartbeats 4000000 in
theorem w_FnLeastWeighted (A : Option Addr) (n c : Nat) (w : World) (h : Bs w w.heap.size A n) (hc : n ≤ c) :
    Calls Try.prog 7 #[.slice A n c] w fun e w' => e = .returned (.bool true) ∧ Below w.heap.size w w' := by
  by_cases hn : n ≤ 1048576
  · go_enter Try.func7, Try.ntmps7
    go_wp2_with fail
    refine (c_DrawLeastWeighted A n c _ h hn hc).mono ?_
    rintro e w1 ⟨L, v, rfl, hv, hl, hb1⟩
    obtain ⟨D, d, rfl, hd1, hd2, hD⟩ := hv.form
    have hs1 := hb1.size
    clear hv h
    go_wp2_with fail
    refine (c_iLeastWeighted L D d _ hD (by omega)).mono ?_
    rintro e w2 ⟨rfl, hb2⟩
    have k2 := hb1.trans (hb2.mono hs1)
    have hs2 := k2.size
    have hD2 := (hD.below hb2).more hb2.size
    clear hb1 hb2 hD
    go_wp2_with fail
    refine (c_sLeastWeighted L D d _ hD2 (by omega)).mono ?_
    rintro e w3 ⟨rfl, hb3⟩
    have k3 := k2.trans (hb3.mono hs2)
    have hs3 := k3.size
    have hD3 := (hD2.below hb3).more hb3.size
    have hne : (leastW L != leastW L) = false := by simp
    have hlb := leastW_bd L
    clear k2 hb3 hD2
    cases ht : tOk L with
    | true =>
      have hl0 : ¬ leastW L < 0 := by have := hlb.2.2 ht; omega
      have HD := Lib.hid (diag_zero ht)
      have HS := Lib.hid (fun k (hk : k < L.length) => show diagTo L (k + 1) = diagTo L k + X L k * Y L k from rfl)
      have HLD := Lib.hid (least_diag ht)
      have HLN := Lib.hid (fun hd => least_none ht hd)
      have HFL := Lib.hid (free_least ht)
      have HN := Lib.hid (fun i (hi : i < L.length) => (tOk_parts ht).1 i hi)
      have hb0 : Below w3.heap.size w3 (w3.alloc (.cells #[] 27)) := by (repeat (first | exact rfl | exact Below.refl _ _ | (with_reducible refine Below.drew ?_) | (with_reducible refine Below.drewN ?_ _) | (with_reducible refine Below.alloc ?_ ?_ _) | (with_reducible refine Below.setCell ?_ ?_ _) | (show _ ≤ _; focus (first | omega | (simp; done) | (simp; omega)))))
      clear ht hlb
      generalize leastW L = lw at *
      go_wp2_with fail
      go_loopw [5, 6, 7] (fun s lv i wr => ∃ k : Nat, k ≤ L.length ∧ i = .int .i64 k ∧ s = .int .i64 (diagTo L k) ∧ TO wr w3.heap.size lv (freeTo L k) ∧ Below w3.heap.size w3 wr) (fun _ _ i _ => L.length - (intOf i).toNat)
      case atStart => exact ⟨0, by omega, rfl, rfl, TO.empty w3 (Nat.le_refl _), hb0⟩
      case round =>
        obtain ⟨k, hk, rfl, rfl, hown, hb⟩ := hrel
        have hsz := hb.size
        by_cases hlt : k < L.length
        · obtain ⟨b, off, rfl, hlb, hcc⟩ := hD3 (by omega)
          have c1 := (hb.cell (p := ⟨b, off + k * 2, none⟩) hlb).trans (hcc k hlt).1
          have c2 := (hb.cell (p := ⟨b, off + k * 2 + 1, none⟩) hlb).trans (hcc k hlt).2
          have p1 : (0 : Int) ≤ (k : Int) := by omega
          have p2 : (k : Int) < (L.length : Int) := by omega
          obtain ⟨⟨n1, n2⟩, n3, n4⟩ := HN.out k hlt
          obtain ⟨z1, z2, -⟩ := HD.out k (by omega)
          have m1 : 0 ≤ X L k * Y L k ∧ X L k * Y L k ≤ 81 := ⟨Int.mul_nonneg (by omega) n3, Int.mul_le_mul n2 n4 n3 (by omega)⟩
          have q1 : IntKind.i64.wrap (X L k * Y L k) = X L k * Y L k := IntWalk.i64_in _ (by omega)
          have q2 : IntKind.i64.wrap (diagTo L k + X L k * Y L k) = diagTo L k + X L k * Y L k := IntWalk.i64_in _ (by omega)
          have q5 : (freeTo L k).length = k := freeTo_len (by omega)
          have Q5 := Lib.hid q5
          have HE := Lib.hid (freeTo_succ hlt)
          have HSk := Lib.hid (HS.out k hlt)
          clear hcc n1 n2 n3 n4 z1 z2 m1 q5
          go_wp2_with fail
          go_quiet (fail)
          have c1q : (wr.drewN nq).cell? ⟨b, off + k * 2, none⟩ = some (.int .i64 (X L k)) := c1
          have ownq : TO (wr.drewN nq) w3.heap.size u6 (freeTo L k) := hown
          have hbq : Below w3.heap.size w3 (wr.drewN nq) := by (repeat (first | exact hb | exact Below.refl _ _ | (with_reducible refine Below.drew ?_) | (with_reducible refine Below.drewN ?_ _) | (with_reducible refine Below.alloc ?_ ?_ _) | (with_reducible refine Below.setCell ?_ ?_ _) | (show _ ≤ _; focus (first | omega | (simp; done) | (simp; omega)))))
          clear q1 q2 c1 c2 hown hb hsz
          generalize wr.drewN nq = wq at *
          have hsq := hbq.size
          go_wp2_with (refine app_T (by rfl) (.tmp 46) (.tmp 53) (by rfl) w3.heap.size u6 (freeTo L k) (X L k) 0 wq.heap.size (by rfl) (ownq.alloc _) (by rfl) (heap_alloc_new _ _) (by rw [Q5.out]; omega) (by simp; omega) ?_; intro g cap w7 hown7 hgr7 hb7)
          go_roundw
          case rel => exact ⟨k + 1, by omega, by go_num, by rw [HSk.out], by rw [HE.out]; exact hown7, hbq.trans (Below.trans (by (repeat (first | exact rfl | exact Below.refl _ _ | (with_reducible refine Below.drew ?_) | (with_reducible refine Below.drewN ?_ _) | (with_reducible refine Below.alloc ?_ ?_ _) | (with_reducible refine Below.setCell ?_ ?_ _) | (show _ ≤ _; focus (first | omega | (simp; done) | (simp; omega)))))) hb7)⟩
          case measure => simp [intOf]; omega
        · have hlf : ¬ ((k : Int) < (L.length : Int)) := by omega
          obtain rfl : k = L.length := by omega
          obtain ⟨G, g, rfl, hg1, hg2, hG⟩ := hown.form
          have kr := k3.trans (hb.mono hs3)
          have HF := Lib.hid (show Calls Try.prog 27 #[.slice G (freeTo L L.length).length g] wr fun e w' => e = .returned (.int .i64 0) ∧ Below wr.heap.size wr w' from by
            have K := c_iLeastWeighted (freeTo L L.length) G g wr hG (by rw [freeTo_len (Nat.le_refl _)]; omega)
            rw [HFL.out] at K
            exact K)
          have d1 : decide (diagTo L L.length ≤ lw) = true := decide_eq_true HLD.out
          have z1 := (HD.out L.length (Nat.le_refl _)).1
          clear hown
          by_cases hd : diagTo L L.length = 0
          · have hlw := HLN.out hd
            rw [hd] at d1 ⊢
            subst hlw
            clear hd z1 d1
            go_wp2_with fail
            refine HF.out.mono ?_
            rintro e w5 ⟨rfl, hb5⟩
            go_wp2_with fail
            go_ret
            exact ⟨rfl, kr.trans (hb5.mono kr.size)⟩
          · have hd2 : 0 < diagTo L L.length := by omega
            have d2 : decide (0 < diagTo L L.length) = true := decide_eq_true hd2
            have hle := HLD.out
            clear hd z1
            generalize diagTo L L.length = dg at *
            go_wp2_with fail
            refine HF.out.mono ?_
            rintro e w5 ⟨rfl, hb5⟩
            go_wp2_with fail
            go_ret
            exact ⟨rfl, kr.trans (hb5.mono kr.size)⟩
    | false =>
      have hlw := leastW_no ht
      rw [hlw]
      clear ht hlb hne hlw
      go_wp2_with fail
      refine (c_alive _).mono ?_
      rintro e w5 ⟨rfl, hb5⟩
      go_wp2_with fail
      go_ret
      exact ⟨rfl, k3.trans (hb5.mono hs3)⟩
  · go_enter Try.func7, Try.ntmps7
    go_wp2_with fail
    go_ret
    exact ⟨rfl, Below.refl _ _⟩

end Go.Proofs.Ytckebkaaokfonaa

