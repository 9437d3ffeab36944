/- spec.TasksOk, EachOnce, WeightedSum (ahead of the landing) -/
import Derived.Test.YtckebkaaokfonaaB
import Derived.Test.YtckebkaaokfonaaO
import Derived.Test.YtckebkaaokfonaaM21
namespace Go.Proofs.Ytckebkaaokfonaa
set_option linter.unusedVariables false
open Go.RowKit
attribute [local go_sem ↓] Go.wp_at_zero Go.wp_at_succ

theorem tOk_bad {L : List (Int × Int)} {k : Nat} (hk : k < L.length) (h : ¬ ((1 ≤ X L k ∧ X L k ≤ 9) ∧ 0 ≤ Y L k ∧ Y L k ≤ 9)) : tOk L = false := by
  cases e : tOk L with
  | false => rfl
  | true => exact absurd ((tOk_parts e).1 k hk) h
theorem tOkTo_step {L : List (Int × Int)} {k : Nat} (h : tOkTo L k = true) (h1 : 1 ≤ X L k ∧ X L k ≤ 9) (h2 : 0 ≤ Y L k ∧ Y L k ≤ 9) : tOkTo L (k + 1) = true := by
  simp only [tOkTo, h, Bool.true_and, decide_eq_true_eq]; exact ⟨h1, h2⟩

set_option maxHeartbeats 2000000 in
theorem c_sTasksOk (L : List (Int × Int)) (A : Option Addr) (c : Nat) (w : World) (hA : Cs w w.heap.size A L) (hn : L.length ≤ 140737488351232) :
    Calls Try.prog 17 #[.slice A L.length c] w fun e w' => e = .returned (.bool (tOk L)) ∧ Below w.heap.size w w' := by
  go_enter Try.func17, Try.ntmps17
  go_wp2_with fail
  go_loop [3] (fun i => ∃ k : Nat, k ≤ L.length ∧ i = .int .i64 k ∧ Hid (tOkTo L k = true)) (fun i => L.length - (intOf i).toNat)
  case atStart => exact ⟨0, Nat.zero_le _, rfl, rfl⟩
  case round =>
    obtain ⟨k, hk, rfl, hok⟩ := hrel
    by_cases hlt : k < L.length
    · obtain ⟨b, off, rfl, hlb, hc⟩ := hA (by omega)
      have c1 := (hc k hlt).1
      have c2 := (hc k hlt).2
      clear hc
      by_cases h1 : 1 ≤ X L k ∧ X L k ≤ 9
      · have h1' : decide (1 ≤ X L k ∧ X L k ≤ 9) = true := decide_eq_true h1
        by_cases h2 : 0 ≤ Y L k ∧ Y L k ≤ 9
        · have h2' : decide (0 ≤ Y L k ∧ Y L k ≤ 9) = true := decide_eq_true h2
          go_wp2_with fail
          refine (c_l1In _ _ _ _).mono ?_
          rintro e w' ⟨rfl, rfl⟩
          rw [h1']
          go_wp2_with fail
          refine (c_l1In _ _ _ _).mono ?_
          rintro e w' ⟨rfl, rfl⟩
          rw [h2']
          go_wp2_with fail
          go_round
          case rel => exact ⟨k + 1, by omega, by go_num, tOkTo_step hok.out h1 h2⟩
          case measure => simp [intOf]; omega
        · have h2' : decide (0 ≤ Y L k ∧ Y L k ≤ 9) = false := decide_eq_false h2
          have HB := Lib.hid (tOk_bad hlt (fun h => h2 h.2))
          clear h2
          go_wp2_with fail
          refine (c_l1In _ _ _ _).mono ?_
          rintro e w' ⟨rfl, rfl⟩
          rw [h1']
          go_wp2_with fail
          refine (c_l1In _ _ _ _).mono ?_
          rintro e w' ⟨rfl, rfl⟩
          rw [h2']
          go_wp2_with fail
          go_ret
          exact ⟨by rw [HB.out]; rfl, Below.refl _ _⟩
      · have h1' : decide (1 ≤ X L k ∧ X L k ≤ 9) = false := decide_eq_false h1
        have HB := Lib.hid (tOk_bad hlt (fun h => h1 h.1))
        clear h1
        go_wp2_with fail
        refine (c_l1In _ _ _ _).mono ?_
        rintro e w' ⟨rfl, rfl⟩
        rw [h1']
        go_wp2_with fail
        go_ret
        exact ⟨by rw [HB.out]; rfl, Below.refl _ _⟩
    · have hlf : ¬ ((k : Int) < (L.length : Int)) := by omega
      obtain rfl : k = L.length := by omega
      have HV : tOk L = decide (1 ≤ (L.length : Int) ∧ (L.length : Int) ≤ 6) := by rw [tOk, hok.out, Bool.true_and]
      go_wp2_with fail
      refine (c_l1In _ _ _ _).mono ?_
      rintro e w' ⟨rfl, rfl⟩
      have HV' := Lib.hid HV
      clear HV
      go_wp2_with fail
      go_ret
      exact ⟨by rw [HV'.out, Bool.decide_and]; rfl, Below.refl _ _⟩

theorem eachTo_step {o : List Int} {n : Int} {k : Nat} (h : eachTo o n k = true) (h1 : 0 ≤ Z o k ∧ Z o k ≤ n - 1) (h2 : newAt o k k = true) : eachTo o n (k + 1) = true := by
  simp only [eachTo, h, h2, decide_eq_true h1, Bool.and_self]
theorem each_bad {o : List Int} {n b : Int} {k : Nat} (hb : (1 ≤ n ∧ n ≤ 6) → b = n - 1) (hk : k < o.length) (h : ¬ ((0 ≤ Z o k ∧ Z o k ≤ b) ∧ ∀ j, j < k → Z o j ≠ Z o k)) : eachV o n = false := by
  cases e : eachV o n with
  | false => rfl
  | true =>
    have h' := e
    simp only [eachV, Bool.and_eq_true, decide_eq_true_eq] at e
    have x := (eachTo_iff.1 e.1) k hk
    have y := hb e.2.1
    exact absurd ⟨⟨x.1.1, by omega⟩, x.2⟩ h
theorem each_end {o : List Int} {n b : Int} (hb : (1 ≤ n ∧ n ≤ 6) → b = n - 1) (h : eachTo o (b + 1) o.length = true) : eachV o n = (decide (1 ≤ n ∧ n ≤ 6) && decide ((o.length : Int) = n)) := by
  by_cases hn : 1 ≤ n ∧ n ≤ 6
  · rw [show b + 1 = n by have := hb hn; omega] at h
    rw [eachV, h, Bool.true_and]
  · simp [eachV, hn]

set_option maxRecDepth 4000 in
set_option maxHeartbeats 4000000 in
theorem c_sEachOnce (o : List Int) (O : Option Addr) (d : Nat) (n : Int) (w : World) (hO : Is w w.heap.size O o) (ho : o.length ≤ 140737488351232) :
    Calls Try.prog 21 #[.slice O o.length d, .int .i64 n] w fun e w' => e = .returned (.bool (eachV o n)) ∧ Below w.heap.size w w' := by
  have hb : (1 ≤ n ∧ n ≤ 6) → IntKind.i64.wrap (n - 1) = n - 1 := fun h => IntWalk.i64_in _ (by omega)
  obtain ⟨m, hm⟩ : ∃ m, IntKind.i64.wrap (n - 1) = m := ⟨_, rfl⟩
  rw [hm] at hb
  have HE := Lib.hid (fun (b : Int) (hb : (1 ≤ n ∧ n ≤ 6) → b = n - 1) => @each_end o n b hb)
  have HX := Lib.hid (fun (b : Int) (hb : (1 ≤ n ∧ n ≤ 6) → b = n - 1) k => @each_bad o n b k hb)
  have HL := Lib.hid (fun k W => c_l1In (Z o k) 0 (m) W)
  have HM := Lib.hid (fun W => c_l1In n 1 6 W)
  have hHb := Lib.hid hb
  clear hb
  go_enter Try.func21, Try.ntmps21
  go_wp2_with fail
  go_loopw [5] (fun i wr => ∃ k : Nat, k ≤ o.length ∧ i = .int .i64 k ∧ Hid (eachTo o (m + 1) k = true) ∧ Below w.heap.size w wr) (fun i _ => o.length - (intOf i).toNat)
  case atStart => exact ⟨0, Nat.zero_le _, rfl, rfl, Below.refl _ _⟩
  case round =>
    obtain ⟨k, hk, rfl, hok, hbw⟩ := hrel
    by_cases hlt : k < o.length
    · obtain ⟨b, off, rfl, hlb, hc⟩ := hO (by omega)
      have c1 := (hbw.cell (p := ⟨b, off + k, none⟩) hlb).trans (hc k hlt)
      by_cases h1 : 0 ≤ Z o k ∧ Z o k ≤ m
      · have HD := Lib.hid (decide_eq_true h1)
        have H1 := Lib.hid h1
        clear h1
        go_wp2_with fail
        refine (HL.out k _).mono ?_
        rintro e w' ⟨rfl, rfl⟩
        rw [HD.out]
        go_wp2_with fail
        go_loopw [6] (fun i wr => ∃ j : Nat, j ≤ k ∧ i = .int .i64 j ∧ Hid (newAt o k j = true) ∧ Below w.heap.size w wr) (fun i _ => k - (intOf i).toNat)
        case atStart => exact ⟨0, Nat.zero_le _, rfl, rfl, hbw⟩
        case round =>
          obtain ⟨j, hj, rfl, hnew, hbj⟩ := hrel
          by_cases hjk : j < k
          · have d1 := (hbj.cell (p := ⟨b, off + k, none⟩) hlb).trans (hc k hlt)
            have d2 := (hbj.cell (p := ⟨b, off + j, none⟩) hlb).trans (hc j (by omega))
            have p1 : (0 : Int) ≤ (j : Int) := by omega
            have p2 : (j : Int) < (o.length : Int) := by omega
            have p3 : (0 : Int) ≤ (k : Int) := by omega
            have p4 : (k : Int) < (o.length : Int) := by omega
            have p5 : (j : Int) < (k : Int) := by omega
            have hHc := Lib.hid hc
            clear hc c1
            by_cases he : Z o j = Z o k
            · have HB := Lib.hid (HX.out _ hHb.out k hlt (fun h => h.2 j hjk he))
              have de : (Z o j == Z o k) = true := beq_iff_eq.2 he
              clear he
              go_wp2_with fail
              go_quiet (fail)
              clear d1 d2
              have hbq : Below w.heap.size w (wr.drewN nq) := by (repeat (first | exact hbj | exact Below.refl _ _ | (with_reducible refine Below.drew ?_) | (with_reducible refine Below.drewN ?_ _) | (with_reducible refine Below.alloc ?_ ?_ _) | (with_reducible refine Below.setCell ?_ ?_ _) | (show _ ≤ _; focus (first | omega | (simp; done) | (simp; omega)))))
              generalize wr.drewN nq = wq at hbq ⊢
              go_wp2_with fail
              go_ret
              exact ⟨by rw [HB.out]; rfl, hbq⟩
            · have de : (Z o j == Z o k) = false := by simpa using he
              go_wp2_with fail
              go_quiet (fail)
              clear d1 d2
              have hbq : Below w.heap.size w (wr.drewN nq) := by (repeat (first | exact hbj | exact Below.refl _ _ | (with_reducible refine Below.drew ?_) | (with_reducible refine Below.drewN ?_ _) | (with_reducible refine Below.alloc ?_ ?_ _) | (with_reducible refine Below.setCell ?_ ?_ _) | (show _ ≤ _; focus (first | omega | (simp; done) | (simp; omega)))))
              generalize wr.drewN nq = wq at hbq ⊢
              go_wp2_with fail
              go_roundw
              case rel =>
                refine ⟨j + 1, by omega, by go_num, ?_, hbq⟩
                exact (by simp only [newAt, hnew.out, Bool.true_and, decide_eq_true_eq]; exact he : newAt o k (j + 1) = true)
              case measure => simp [intOf]; omega
          · have hjf : ¬ ((j : Int) < (k : Int)) := by omega
            obtain rfl : j = k := by omega
            go_wp2_with fail
            go_roundw
            case rel => exact ⟨j + 1, by omega, by go_num, eachTo_step hok.out (by have := H1.out; omega) hnew.out, hbj⟩
            case measure => simp [intOf]; omega
      · have HD := Lib.hid (decide_eq_false h1)
        have HB := Lib.hid (HX.out _ hHb.out k hlt (fun h => h1 h.1))
        clear h1 hc
        go_wp2_with fail
        refine (HL.out k _).mono ?_
        rintro e w' ⟨rfl, rfl⟩
        rw [HD.out]
        go_wp2_with fail
        go_ret
        exact ⟨by rw [HB.out]; rfl, hbw⟩
    · have hlf : ¬ ((k : Int) < (o.length : Int)) := by omega
      obtain rfl : k = o.length := by omega
      have HV := HE.out _ hHb.out hok.out
      by_cases hn : 1 ≤ n ∧ n ≤ 6
      · have HD := Lib.hid (decide_eq_true hn)
        rw [HD.out, Bool.true_and] at HV
        have HV' := Lib.hid HV
        clear HV hn
        by_cases he : (o.length : Int) = n
        · have HV2 := Lib.hid (HV'.out.trans (decide_eq_true he))
          go_wp2_with fail
          refine (HM.out _).mono ?_
          rintro e w' ⟨rfl, rfl⟩
          rw [HD.out]
          go_wp2_with fail
          go_ret
          exact ⟨by rw [HV2.out]; first | rfl | simp [he], hbw⟩
        · have HV2 := Lib.hid (HV'.out.trans (decide_eq_false he))
          have de : ((o.length : Int) == n) = false := by simpa using he
          go_wp2_with fail
          refine (HM.out _).mono ?_
          rintro e w' ⟨rfl, rfl⟩
          rw [HD.out]
          go_wp2_with fail
          go_ret
          exact ⟨by rw [HV2.out]; first | rfl | simp [he], hbw⟩
      · have HD := Lib.hid (decide_eq_false hn)
        rw [HD.out, Bool.false_and] at HV
        have HV' := Lib.hid HV
        clear HV hn
        go_wp2_with fail
        refine (HM.out _).mono ?_
        rintro e w' ⟨rfl, rfl⟩
        rw [HD.out]
        go_wp2_with fail
        go_ret
        exact ⟨by rw [HV'.out]; rfl, hbw⟩

set_option maxRecDepth 4000 in
set_option maxHeartbeats 4000000 in
theorem c_sWeightedSum (L : List (Int × Int)) (o : List Int) (A O : Option Addr) (c d : Nat) (w : World) (hA : Cs w w.heap.size A L) (hO : Is w w.heap.size O o) (hn : L.length ≤ 140737488351232) (ho : o.length ≤ 140737488351232) :
    Calls Try.prog 25 #[.slice A L.length c, .slice O o.length d] w fun e w' => e = .returned (.int .i64 (wsumV L o)) ∧ Below w.heap.size w w' := by
  have HT := Lib.hid (c_sTasksOk L A c w hA hn)
  have HE := Lib.hid (fun W hW => c_sEachOnce o O d (L.length : Int) W hW ho)
  cases ht : tOk L with
  | true =>
    cases he : eachV o L.length with
    | true =>
      have H1 := Lib.hid ht
      have H2 := Lib.hid he
      have HV := Lib.hid (wsumV_yes ht he)
      have HB := Lib.hid (fun k (hk : k ≤ o.length) => wsW_bd ht he k hk)
      have HZ := Lib.hid (fun k (hk : k < o.length) => each_Z he hk)
      have HN := Lib.hid (fun v (hv : 0 ≤ v ∧ v ≤ (L.length : Int) - 1) => tOk_at ht hv)
      have hlo : o.length ≤ 6 := by
        have := (each_iff.1 he).1; have := (each_iff.1 he).2.1; omega
      clear ht he
      go_enter Try.func25, Try.ntmps25
      go_wp2_with fail
      refine HT.out.mono ?_
      rintro e w1 ⟨rfl, hb1⟩
      rw [H1.out]
      have hs1 := hb1.size
      clear HT
      go_wp2_with fail
      refine (HE.out _ ((hO.below hb1).more hs1)).mono ?_
      rintro e w2 ⟨rfl, hb2⟩
      rw [H2.out]
      have hb3 := hb1.trans (hb2.mono hs1)
      clear hb1 hb2 HE
      go_wp2_with fail
      go_loop [5, 6, 7] (fun s t i => ∃ k : Nat, k ≤ o.length ∧ i = .int .i64 k ∧ t = .int .i64 (tmW L o k) ∧ s = .int .i64 (wsW L o k)) (fun _ _ i => o.length - (intOf i).toNat)
      case atStart => exact ⟨0, by omega, rfl, rfl, rfl⟩
      case round =>
        obtain ⟨k, hk, rfl, rfl, rfl⟩ := hrel
        by_cases hlt : k < o.length
        · obtain ⟨ob, off, rfl, hlb, hoc⟩ := hO (by omega)
          have z := HZ.out k hlt
          obtain ⟨b, off2, rfl, hlb2, hc⟩ := hA (by omega)
          have c0 := (hb3.cell (p := ⟨ob, off + k, none⟩) hlb).trans (hoc k hlt)
          have zn : Z o k = (((Z o k).toNat : Nat) : Int) := by omega
          have c1 := (hb3.cell (p := ⟨b, off2 + (Z o k).toNat * 2, none⟩) hlb2).trans (hc (Z o k).toNat (by omega)).1
          have c2 := (hb3.cell (p := ⟨b, off2 + (Z o k).toNat * 2 + 1, none⟩) hlb2).trans (hc (Z o k).toNat (by omega)).2
          obtain ⟨⟨b1, b2⟩, b3, b4⟩ := HB.out k (by omega)
          obtain ⟨⟨d1, d2⟩, d3, d4⟩ := HB.out (k + 1) (by omega)
          obtain ⟨⟨n1, n2⟩, n3, n4⟩ := HN.out _ z
          have HS1 := Lib.hid (show tmW L o (k + 1) = tmW L o k + nd L (Z o k) from rfl)
          have HS2 := Lib.hid (show wsW L o (k + 1) = wsW L o k + (tmW L o k + nd L (Z o k)) * wt L (Z o k) from rfl)
          have z1 := z.1
          have z2 : Z o k < (L.length : Int) := by omega
          have p1 : (0 : Int) ≤ (k : Int) := by omega
          have p2 : (k : Int) < (o.length : Int) := by omega
          have q0 : IntKind.i64.wrap (tmW L o k + nd L (Z o k)) = tmW L o k + nd L (Z o k) := IntWalk.i64_in _ (by omega)
          have m1 : 0 ≤ (tmW L o k + nd L (Z o k)) * wt L (Z o k) := Int.mul_nonneg (by omega) n3
          have m2 : (tmW L o k + nd L (Z o k)) * wt L (Z o k) ≤ 63 * 9 := Int.mul_le_mul (by omega) n4 n3 (by omega)
          have q1 : IntKind.i64.wrap ((tmW L o k + nd L (Z o k)) * wt L (Z o k)) = (tmW L o k + nd L (Z o k)) * wt L (Z o k) := IntWalk.i64_in _ (by omega)
          have q2 : IntKind.i64.wrap (wsW L o k + (tmW L o k + nd L (Z o k)) * wt L (Z o k)) = wsW L o k + (tmW L o k + nd L (Z o k)) * wt L (Z o k) := IntWalk.i64_in _ (by omega)
          change _ = some (Value.int .i64 (nd L (Z o k))) at c1
          change _ = some (Value.int .i64 (wt L (Z o k))) at c2
          clear hoc hc zn z b1 b2 b3 b4 d1 d2 d3 d4 n1 n2 n3 n4 m1 m2
          go_wp2_with fail
          go_round
          case rel => exact ⟨k + 1, by omega, by go_num, by rw [HS1.out], by rw [HS2.out]⟩
          case measure => simp [intOf]; omega
        · have hlf : ¬ ((k : Int) < (o.length : Int)) := by omega
          go_wp2_with fail
          go_ret
          exact ⟨by rw [HV.out, show o.length = k by omega]; rfl, hb3⟩
    | false =>
      have H1 := Lib.hid ht
      have H2 := Lib.hid he
      have HV := Lib.hid (wsumV_no (L := L) (o := o) (fun h => by rw [he] at h; exact absurd h.2 (by simp)))
      clear ht he
      go_enter Try.func25, Try.ntmps25
      go_wp2_with fail
      refine HT.out.mono ?_
      rintro e w1 ⟨rfl, hb1⟩
      rw [H1.out]
      have hs1 := hb1.size
      clear HT
      go_wp2_with fail
      refine (HE.out _ ((hO.below hb1).more hs1)).mono ?_
      rintro e w2 ⟨rfl, hb2⟩
      rw [H2.out]
      go_wp2_with fail
      go_ret
      exact ⟨by rw [HV.out]; rfl, hb1.trans (hb2.mono hs1)⟩
  | false =>
    have H1 := Lib.hid ht
    have HV := Lib.hid (wsumV_no (L := L) (o := o) (fun h => by rw [ht] at h; exact absurd h.1 (by simp)))
    clear ht
    go_enter Try.func25, Try.ntmps25
    go_wp2_with fail
    refine HT.out.mono ?_
    rintro e w1 ⟨rfl, hb1⟩
    rw [H1.out]
    go_wp2_with fail
    go_ret
    exact ⟨by rw [HV.out]; rfl, hb1⟩

end Go.Proofs.Ytckebkaaokfonaa

