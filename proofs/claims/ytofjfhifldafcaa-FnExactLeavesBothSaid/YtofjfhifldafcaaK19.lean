/- spec.BothOk, LongestWay, LeavesBoth (ahead of the landing) -/
import Derived.Test.YtofjfhifldafcaaB
import Derived.Test.YtofjfhifldafcaaO
import Derived.Test.YtofjfhifldafcaaM28
namespace Go.Proofs.Ytofjfhifldafcaa
set_option linter.unusedVariables false
open Go.RowKit
attribute [local go_sem ↓] Go.wp_at_zero Go.wp_at_succ

theorem bOk_bad {L : List (Int × Int)} {k : Nat} (hk : k < L.length) (h : ¬ ((1 ≤ X L k ∧ X L k ≤ 9) ∧ 1 ≤ Y L k ∧ Y L k ≤ 9)) : bOk L = false := by
  cases e : bOk L with
  | false => rfl
  | true => exact absurd ((bOk_parts e).1 k hk) h
theorem bOkTo_step {L : List (Int × Int)} {k : Nat} (h : bOkTo L k = true) (h1 : 1 ≤ X L k ∧ X L k ≤ 9) (h2 : 1 ≤ Y L k ∧ Y L k ≤ 9) : bOkTo L (k + 1) = true := by
  simp only [bOkTo, h, Bool.true_and, decide_eq_true_eq]; exact ⟨h1, h2⟩

set_option maxHeartbeats 2000000 in
theorem c_sBothOk (L : List (Int × Int)) (A : Option Addr) (c : Nat) (w : World) (hA : Cs w w.heap.size A L) (hn : L.length ≤ 140737488351232) :
    Calls Try.prog 19 #[.slice A L.length c] w fun e w' => e = .returned (.bool (bOk L)) ∧ Below w.heap.size w w' := by
  go_enter Try.func19, Try.ntmps19
  go_wp2_with fail
  go_loop [3] (fun i => ∃ k : Nat, k ≤ L.length ∧ i = .int .i64 k ∧ Hid (bOkTo L k = true)) (fun i => L.length - (intOf i).toNat)
  case atStart => exact ⟨0, Nat.zero_le _, rfl, rfl⟩
  case round =>
    obtain ⟨k, hk, rfl, hok⟩ := hrel
    by_cases hlt : k < L.length
    · obtain ⟨b, off, rfl, hlb, hc⟩ := hA (by omega)
      have c1 := (hc k hlt).1
      have c2 := (hc k hlt).2
      clear hc
      by_cases h1 : 1 ≤ X L k ∧ X L k ≤ 9
      · have h1' : decide (1 ≤ X L k ∧ X L k ≤ 9) = true := decide_eq_true h1
        by_cases h2 : 1 ≤ Y L k ∧ Y L k ≤ 9
        · have h2' : decide (1 ≤ Y L k ∧ Y L k ≤ 9) = true := decide_eq_true h2
          go_wp2_with fail
          refine (c_l1In _ _ _ _).mono ?_
          rintro e w' ⟨rfl, rfl⟩
          rw [h1']
          go_wp2_with fail
          refine (c_l1In _ _ _ _).mono ?_
          rintro e w' ⟨rfl, rfl⟩
          rw [h2']
          go_wp2_with fail
          go_round
          case rel => exact ⟨k + 1, by omega, by go_num, bOkTo_step hok.out h1 h2⟩
          case measure => simp [intOf]; omega
        · have h2' : decide (1 ≤ Y L k ∧ Y L k ≤ 9) = false := decide_eq_false h2
          have HB := Lib.hid (bOk_bad hlt (fun h => h2 h.2))
          clear h2
          go_wp2_with fail
          refine (c_l1In _ _ _ _).mono ?_
          rintro e w' ⟨rfl, rfl⟩
          rw [h1']
          go_wp2_with fail
          refine (c_l1In _ _ _ _).mono ?_
          rintro e w' ⟨rfl, rfl⟩
          rw [h2']
          go_wp2_with fail
          go_ret
          exact ⟨by rw [HB.out]; rfl, Below.refl _ _⟩
      · have h1' : decide (1 ≤ X L k ∧ X L k ≤ 9) = false := decide_eq_false h1
        have HB := Lib.hid (bOk_bad hlt (fun h => h1 h.1))
        clear h1
        go_wp2_with fail
        refine (c_l1In _ _ _ _).mono ?_
        rintro e w' ⟨rfl, rfl⟩
        rw [h1']
        go_wp2_with fail
        go_ret
        exact ⟨by rw [HB.out]; rfl, Below.refl _ _⟩
    · have hlf : ¬ ((k : Int) < (L.length : Int)) := by omega
      obtain rfl : k = L.length := by omega
      have HV : bOk L = decide (1 ≤ (L.length : Int) ∧ (L.length : Int) ≤ 6) := by rw [bOk, hok.out, Bool.true_and]
      go_wp2_with fail
      refine (c_l1In _ _ _ _).mono ?_
      rintro e w' ⟨rfl, rfl⟩
      have HV' := Lib.hid HV
      clear HV
      go_wp2_with fail
      go_ret
      exact ⟨by rw [HV'.out, Bool.decide_and]; rfl, Below.refl _ _⟩
set_option maxHeartbeats 4000000 in
theorem c_sLongestWay (L : List (Int × Int)) (A : Option Addr) (c : Nat) (w : World) (hA : Cs w w.heap.size A L) (hn : L.length ≤ 140737488351232) :
    Calls Try.prog 27 #[.slice A L.length c] w fun e w' => e = .returned (.int .i64 (longV L)) ∧ Below w.heap.size w w' := by
  cases h : bOk L with
  | true =>
    have HV := Lib.hid ((longV_yes h).trans (longTo_lw (bOk_okB h) (bOk_parts h).2.1).symm)
    have hlen := (bOk_parts h).2
    have HXY := Lib.hid (bOk_parts h).1
    have HF := Lib.hid (pF_bd h)
    have HS := Lib.hid (fS_bd h)
    have H := Lib.hid h; clear h
    go_enter Try.func27, Try.ntmps27
    go_wp2_with fail
    go_loopw [3, 4] (fun b i wr => ∃ k : Nat, k ≤ L.length ∧ i = .int .i64 k ∧ b = .int .i64 (longTo L k) ∧ Below w.heap.size w wr) (fun _ i _ => L.length - (intOf i).toNat)
    case atStart => exact ⟨0, by omega, rfl, rfl, Below.refl _ _⟩
    case round =>
      obtain ⟨k, hk, rfl, rfl, hb⟩ := hrel
      have hsz := hb.size
      by_cases hlt : k < L.length
      · go_wp2_with fail
        refine (c_sBothOk L A c _ ((hA.below hb).more hsz) hn).mono ?_
        rintro e w1 ⟨rfl, hb1⟩
        rw [H.out]
        have hbx := hb.trans (hb1.mono hsz)
        obtain ⟨b, off, rfl, hlb, hc⟩ := hA (by omega)
        have HC := Lib.hid hc
        clear hc hA hb hb1
        go_wp2_with fail
        go_loop [5, 6] (fun s j => ∃ m : Nat, m ≤ k + 1 ∧ j = .int .i64 m ∧ s = .int .i64 (pF L m)) (fun _ j => k + 1 - (intOf j).toNat)
        case atStart => exact ⟨0, by omega, rfl, rfl⟩
        case round =>
          obtain ⟨m, hm, rfl, rfl⟩ := hrel
          by_cases hlt2 : m ≤ k
          · have c1 := (hbx.cell (p := ⟨b, off + m * 2, none⟩) hlb).trans (HC.out m (by omega)).1
            have f1 := HF.out m (by omega)
            have f2 := HXY.out m (by omega)
            have q1 : IntKind.i64.wrap (pF L m + X L m) = pF L (m + 1) := by rw [IntWalk.i64_in _ (by omega)]; rfl
            go_wp2_with fail
            go_round
            case rel => exact ⟨m + 1, by omega, by go_num, rfl⟩
            case measure => simp [intOf]; omega
          · obtain rfl : m = k + 1 := by omega
            go_wp2_with fail
            go_loop [5, 7] (fun s j => ∃ m : Nat, k ≤ m ∧ m ≤ L.length ∧ j = .int .i64 m ∧ s = .int .i64 (pF L (k + 1) + fS L k m)) (fun _ j => L.length - (intOf j).toNat)
            case atStart =>
              refine ⟨k, Nat.le_refl _, by omega, rfl, ?_⟩
              have e0 : fS L k k = 0 := by
                cases k with
                | zero => rfl
                | succ k => rw [fS, if_neg (by omega)]
              rw [e0, Int.add_zero]
            case round =>
              obtain ⟨m, hm1, hm2, rfl, rfl⟩ := hrel
              by_cases hlt3 : m < L.length
              · have c1 := (hbx.cell (p := ⟨b, off + m * 2 + 1, none⟩) hlb).trans (HC.out m (by omega)).2
                have f1 := HF.out (k + 1) (by omega)
                have f2 := HXY.out m (by omega)
                have f3 := HS.out k m (by omega)
                have q1 : IntKind.i64.wrap (pF L (k + 1) + fS L k m + Y L m) = pF L (k + 1) + fS L k (m + 1) := by rw [IntWalk.i64_in _ (by omega), fS, if_pos hm1]; omega
                go_wp2_with fail
                go_round
                case rel => exact ⟨m + 1, by omega, by omega, by go_num, rfl⟩
                case measure => simp [intOf]; omega
              · obtain rfl : m = L.length := by omega
                go_wp2_with fail
                go_roundw
                case rel =>
                  refine ⟨k + 1, by omega, by go_num, ?_, hbx⟩
                  simp only [longTo, wayAt]
                  congr 1; split <;> omega
                case measure => simp [intOf]; omega
      · obtain rfl : k = L.length := by omega
        go_wp2_with fail
        go_ret
        exact ⟨by rw [HV.out]; rfl, hb⟩
  | false =>
    have HV := Lib.hid (longV_no h)
    have H := Lib.hid h; clear h
    by_cases h0 : 0 < L.length
    · have z1 : (0 : Int) < (L.length : Int) := by omega
      go_enter Try.func27, Try.ntmps27
      go_wp2_with fail
      go_loopw [3, 4] (fun b i wr => i = .int .i64 0 ∧ b = .int .i64 (-1) ∧ Below w.heap.size w wr) (fun _ _ _ => 0)
      case atStart => exact ⟨rfl, rfl, Below.refl _ _⟩
      case round =>
        obtain ⟨rfl, rfl, hb⟩ := hrel
        have hsz := hb.size
        go_wp2_with fail
        refine (c_sBothOk L A c _ ((hA.below hb).more hsz) hn).mono ?_
        rintro e w1 ⟨rfl, hb1⟩
        rw [H.out]
        go_wp2_with fail
        go_ret
        exact ⟨by rw [HV.out]; rfl, hb.trans (hb1.mono hsz)⟩
    · have z1 : ¬ (0 : Int) < (L.length : Int) := by omega
      go_enter Try.func27, Try.ntmps27
      go_wp2_with fail
      go_loopw [3, 4] (fun b i wr => i = .int .i64 0 ∧ b = .int .i64 (-1) ∧ Below w.heap.size w wr) (fun _ _ _ => 0)
      case atStart => exact ⟨rfl, rfl, Below.refl _ _⟩
      case round =>
        obtain ⟨rfl, rfl, hb⟩ := hrel
        go_wp2_with fail
        go_ret
        exact ⟨by rw [HV.out]; rfl, hb⟩

theorem secTo_bd {L : List (Int × Int)} (h : bOk L = true) : ∀ k, k ≤ L.length → 0 ≤ secTo L k ∧ secTo L k ≤ 18 * k := by
  intro k
  induction k with
  | zero => intro _; simp [secTo]
  | succ k ih => intro hk; have := ih (by omega); have := (bOk_parts h).1 k (by omega); have := pF_bd h (k + 1) hk; simp only [secTo]; omega
def secs (L : List (Int × Int)) (k : Nat) : List Int := (List.range k).map fun j => secTo L (j + 1)
theorem secs_len (L : List (Int × Int)) (k : Nat) : (secs L k).length = k := by simp [secs]
theorem secs_succ (L : List (Int × Int)) (k : Nat) : secs L (k + 1) = secs L k ++ [secTo L (k + 1)] := by simp [secs, List.range_succ]

set_option maxHeartbeats 4000000 in
theorem c_sLeavesBoth (L : List (Int × Int)) (A : Option Addr) (c : Nat) (w : World) (hA : Cs w w.heap.size A L) (hn : L.length ≤ 140737488351232) :
    Calls Try.prog 24 #[.slice A L.length c] w fun e w' => ∃ v, e = .returned v ∧ IO w' w.heap.size v (leavesB L) ∧ Below w.heap.size w w' := by
  cases h : bOk L with
  | true =>
    have HV := Lib.hid (show leavesB L = secs L L.length from leavesB_yes h)
    have hlen := (bOk_parts h).2
    have HXY := Lib.hid (bOk_parts h).1
    have HF := Lib.hid (pF_bd h)
    have HS := Lib.hid (secTo_bd h)
    have H := Lib.hid h; clear h
    go_enter Try.func24, Try.ntmps24
    go_wp2_with fail
    go_loopw [3, 4, 5, 6] (fun o p s i wr => ∃ k : Nat, k ≤ L.length ∧ i = .int .i64 k ∧ p = .int .i64 (pF L k) ∧ s = .int .i64 (secTo L k) ∧ IO wr w.heap.size o (secs L k) ∧ Below w.heap.size w wr)
      (fun _ _ _ i _ => L.length - (intOf i).toNat)
    case atStart => exact ⟨0, by omega, rfl, rfl, rfl, IO.empty _ (Nat.le_refl _), by (repeat (first | exact rfl | exact Below.refl _ _ | (with_reducible refine Below.drew ?_) | (with_reducible refine Below.drewN ?_ _) | (with_reducible refine Below.alloc ?_ ?_ _) | (with_reducible refine Below.setCell ?_ ?_ _) | (show _ ≤ _; focus (first | omega | (simp; done) | (simp; omega)))))⟩
    case round =>
      obtain ⟨k, hk, rfl, rfl, rfl, hown, hb⟩ := hrel
      have hsz := hb.size
      by_cases hlt : k < L.length
      · go_wp2_with fail
        refine (c_sBothOk L A c _ ((hA.below hb).more hsz) hn).mono ?_
        rintro e w5 ⟨rfl, hb5⟩
        rw [H.out]
        obtain ⟨b, off, rfl, hlb, hc⟩ := hA (by omega)
        have hb7 : Below w.heap.size w w5 := hb.trans (hb5.mono hsz)
        have hsz7 := hb7.size
        have c1 := (hb7.cell (p := ⟨b, off + k * 2, none⟩) hlb).trans (hc k hlt).1
        have c2 := (hb7.cell (p := ⟨b, off + k * 2 + 1, none⟩) hlb).trans (hc k hlt).2
        clear hc hA
        have bd1 := HXY.out k hlt
        have bd2 := HF.out k (by omega)
        have bd3 := HS.out k (by omega)
        have q1 : IntKind.i64.wrap (pF L k + X L k) = pF L (k + 1) := by rw [IntWalk.i64_in _ (by omega)]; rfl
        have bd4 := HF.out (k + 1) (by omega)
        have own5 := hown.below hb5 (Nat.le_refl _)
        have q5 : (secs L k).length ≤ 1000000000000 := by rw [secs_len]; omega
        have hse : secTo L (k + 1) = max (pF L (k + 1)) (secTo L k) + Y L k := rfl
        by_cases hm : pF L (k + 1) < secTo L k
        · have q2 : IntKind.i64.wrap (secTo L k + Y L k) = secTo L (k + 1) := by rw [IntWalk.i64_in _ (by omega), hse]; omega
          have m1 : max (pF L (k + 1)) (secTo L k) = secTo L k := by omega
          clear hse bd1 bd2 bd3 bd4 hb5 hown
          go_wp2_with (refine app_I ?_ (.tmp 34) (.tmp 36) ?_ w.heap.size u3 (secs L k) (secTo L (k + 1)) w5.heap.size ?_ ?_ ?_ ?_ ?_ ?_ ?_; rfl; rfl; rfl; exact (own5.alloc _); rfl; exact (heap_alloc_new _ _); exact q5; exact (Nat.le_trans hsz7 (by simp)); intro g cap w6 own6 hgr hb6)
          go_wp2_with fail
          go_roundw
          case rel => exact ⟨k + 1, by omega, by go_num, rfl, rfl, by rw [secs_succ]; rw [secs_len] at own6 ⊢; exact own6, (hb7.alloc hsz7 _).trans hb6⟩
          case measure => simp [intOf]; omega
        · have q2 : IntKind.i64.wrap (pF L (k + 1) + Y L k) = secTo L (k + 1) := by rw [IntWalk.i64_in _ (by omega), hse]; omega
          have m1 : max (pF L (k + 1)) (secTo L k) = pF L (k + 1) := by omega
          clear hse bd1 bd2 bd3 bd4 hb5 hown
          go_wp2_with (refine app_I ?_ (.tmp 34) (.tmp 36) ?_ w.heap.size u3 (secs L k) (secTo L (k + 1)) w5.heap.size ?_ ?_ ?_ ?_ ?_ ?_ ?_; rfl; rfl; rfl; exact (own5.alloc _); rfl; exact (heap_alloc_new _ _); exact q5; exact (Nat.le_trans hsz7 (by simp)); intro g cap w6 own6 hgr hb6)
          go_wp2_with fail
          go_roundw
          case rel => exact ⟨k + 1, by omega, by go_num, rfl, rfl, by rw [secs_succ]; rw [secs_len] at own6 ⊢; exact own6, (hb7.alloc hsz7 _).trans hb6⟩
          case measure => simp [intOf]; omega
      · obtain rfl : k = L.length := by omega
        go_wp2_with fail
        go_ret
        exact ⟨_, rfl, by rw [HV.out]; exact hown, hb⟩
  | false =>
    have HV := Lib.hid (leavesB_no h)
    have H := Lib.hid h; clear h
    by_cases h0 : 0 < L.length
    · have z1 : (0 : Int) < (L.length : Int) := by omega
      go_enter Try.func24, Try.ntmps24
      go_wp2_with fail
      go_loopw [3, 6] (fun o i wr => i = .int .i64 0 ∧ IO wr w.heap.size o [] ∧ Below w.heap.size w wr) (fun _ _ _ => 0)
      case atStart => exact ⟨rfl, IO.empty _ (Nat.le_refl _), by (repeat (first | exact rfl | exact Below.refl _ _ | (with_reducible refine Below.drew ?_) | (with_reducible refine Below.drewN ?_ _) | (with_reducible refine Below.alloc ?_ ?_ _) | (with_reducible refine Below.setCell ?_ ?_ _) | (show _ ≤ _; focus (first | omega | (simp; done) | (simp; omega)))))⟩
      case round =>
        obtain ⟨rfl, hown, hb⟩ := hrel
        have hsz := hb.size
        go_wp2_with fail
        refine (c_sBothOk L A c _ ((hA.below hb).more hsz) hn).mono ?_
        rintro e w1 ⟨rfl, hb1⟩
        rw [H.out]
        go_wp2_with fail
        go_ret
        exact ⟨_, rfl, by rw [HV.out]; exact hown.below hb1 (Nat.le_refl _), hb.trans (hb1.mono hsz)⟩
    · have z1 : ¬ (0 : Int) < (L.length : Int) := by omega
      go_enter Try.func24, Try.ntmps24
      go_wp2_with fail
      go_loopw [3, 6] (fun o i wr => i = .int .i64 0 ∧ IO wr w.heap.size o [] ∧ Below w.heap.size w wr) (fun _ _ _ => 0)
      case atStart => exact ⟨rfl, IO.empty _ (Nat.le_refl _), by (repeat (first | exact rfl | exact Below.refl _ _ | (with_reducible refine Below.drew ?_) | (with_reducible refine Below.drewN ?_ _) | (with_reducible refine Below.alloc ?_ ?_ _) | (with_reducible refine Below.setCell ?_ ?_ _) | (show _ ≤ _; focus (first | omega | (simp; done) | (simp; omega)))))⟩
      case round =>
        obtain ⟨rfl, hown, hb⟩ := hrel
        go_wp2_with fail
        go_ret
        exact ⟨_, rfl, by rw [HV.out]; exact hown, hb⟩


end Go.Proofs.Ytofjfhifldafcaa

