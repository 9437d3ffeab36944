/- spec.BeginsOf, LeavesBeside, ServedAt, WaitSum (ahead of the landing) -/
import Derived.Test.YthoendonhkffkaaK23
namespace Go.Proofs.Ythoendonhkffkaa
set_option linter.unusedVariables false
open Go.RowKit
attribute [local go_sem ↓] Go.wp_at_zero Go.wp_at_succ

theorem counter_nat {c : Int} (h : 1 ≤ c ∧ c ≤ 4) : ∃ n : Nat, c = (n : Int) ∧ 1 ≤ n ∧ n ≤ 4 ∧ c.toNat = n := ⟨c.toNat, by omega, by omega, by omega, rfl⟩

set_option maxHeartbeats 2000000 in
theorem c_sBeginsOf (L : List (Int × Int)) (A : Option Addr) (d : Nat) (c : Int) (w : World) (hA : Cs w w.heap.size A L) (hn : L.length ≤ 140737488351232) :
    Calls Try.prog 14 #[.slice A L.length d, .int .i64 c] w fun e w' => ∃ v, e = .returned v ∧ IO w' w.heap.size v (beginsV L c) ∧ Below w.heap.size w w' := by
  have HC := Lib.hid (c_sCustomersOk L A d _ hA hn)
  have HI := Lib.hid (fun W => c_l1In c 1 4 W)
  cases hok : cOk L with
  | true =>
    have H := Lib.hid hok
    by_cases hr : 1 ≤ c ∧ c ≤ 4
    · have HV := Lib.hid (beginsV_yes (show besOk L c = true by simp [besOk, hok, hr]))
      obtain ⟨cn, rfl, h1, h4, hcn⟩ := counter_nat hr
      have HR := Lib.hid (decide_eq_true hr)
      have HB := Lib.hid (fun W hW => c_l10Begins L hok cn h1 h4 A d W hW)
      clear hok hr
      go_enter Try.func14, Try.ntmps14
      go_wp2_with fail
      refine HC.out.mono ?_
      rintro e w1 ⟨rfl, hb1⟩
      rw [H.out]
      have hA1 := (hA.below hb1).more hb1.size
      go_wp2_with fail
      refine (HI.out _).mono ?_
      rintro e w2 ⟨rfl, rfl⟩
      rw [HR.out]
      go_wp2_with fail
      refine (HB.out _ hA1).mono ?_
      rintro e w3 ⟨v, rfl, o3, hb3⟩
      go_wp2_with fail
      go_ret
      exact ⟨_, rfl, by rw [HV.out, hcn]; exact o3.mono hb1.size, hb1.trans (hb3.mono hb1.size)⟩
    · have HV := Lib.hid (beginsV_no (show besOk L c = false by simp [besOk]; intro _ a; omega))
      have HR := Lib.hid (decide_eq_false hr)
      clear hok hr
      go_enter Try.func14, Try.ntmps14
      go_wp2_with fail
      refine HC.out.mono ?_
      rintro e w1 ⟨rfl, hb1⟩
      rw [H.out]
      go_wp2_with fail
      refine (HI.out _).mono ?_
      rintro e w2 ⟨rfl, rfl⟩
      rw [HR.out]
      have own0 := IO.empty w2 (Nat.le_refl w2.heap.size)
      have hb0 := hb1.alloc hb1.size (.cells #[] 3)
      go_wp2_with fail
      go_ret
      exact ⟨_, rfl, by rw [HV.out]; exact own0.mono hb1.size, hb0⟩
  | false =>
    have HV := Lib.hid (beginsV_no (c := c) (show besOk L c = false by simp [besOk, hok]))
    have H := Lib.hid hok
    clear hok
    go_enter Try.func14, Try.ntmps14
    go_wp2_with fail
    refine HC.out.mono ?_
    rintro e w1 ⟨rfl, hb1⟩
    rw [H.out]
    have own0 := IO.empty w1 (Nat.le_refl w1.heap.size)
    have hb0 := hb1.alloc hb1.size (.cells #[] 3)
    go_wp2_with fail
    go_ret
    exact ⟨_, rfl, by rw [HV.out]; exact own0.mono hb1.size, hb0⟩

theorem beginsV_len (L : List (Int × Int)) (c : Int) : (beginsV L c).length ≤ 8 := by
  cases h : besOk L c with
  | true => have := cOk_len (besOk_parts h).1; rw [beginsV_yes h, beginsTo_len]; omega
  | false => rw [beginsV_no h]; simp

set_option maxRecDepth 4000 in
set_option maxHeartbeats 8000000 in
theorem c_sLeavesBeside (L : List (Int × Int)) (A : Option Addr) (d : Nat) (c : Int) (w : World) (hA : Cs w w.heap.size A L) (hn : L.length ≤ 140737488351232) :
    Calls Try.prog 20 #[.slice A L.length d, .int .i64 c] w fun e w' => ∃ v, e = .returned v ∧ IO w' w.heap.size v (leaveBeV L c) ∧ Below w.heap.size w w' := by
  have hbz : Below w.heap.size w (w.alloc (.cells #[] 3)) := by (repeat (first | exact rfl | exact Below.refl _ _ | (with_reducible refine Below.drew ?_) | (with_reducible refine Below.drewN ?_ _) | (with_reducible refine Below.alloc ?_ ?_ _) | (with_reducible refine Below.setCell ?_ ?_ _) | (show _ ≤ _; focus (first | omega | (simp; done) | (simp; omega)))))
  have own0 := IO.empty w (Nat.le_refl w.heap.size)
  have HK := Lib.hid (c_sBeginsOf L A d c _ ((hA.below hbz).more hbz.size) hn)
  cases hok : besOk L c with
  | true =>
    obtain ⟨hc, hr⟩ := besOk_parts hok
    obtain ⟨cn, rfl, h1, h4, hcn⟩ := counter_nat hr
    have HV := Lib.hid (show leaveBeV L (cn : Int) = leaveBeTo L cn L.length by rw [leaveBeV_yes hok, hcn])
    have HE := Lib.hid (show beginsV L (cn : Int) = beginsTo L cn L.length by rw [beginsV_yes hok, hcn])
    have Hb := Lib.hid (fun k (hk : k < L.length) => bgn_bd hc h1 hk)
    have Hc := Lib.hid (fun k (hk : k < L.length) => cOk_bd hc hk)
    have hlen := cOk_len hc
    clear hok hc hr hcn
    go_enter Try.func20, Try.ntmps20
    go_wp2_with fail
    refine HK.out.mono ?_
    rintro e w1 ⟨v1, rfl, o1, hb1⟩
    rw [HE.out] at o1
    obtain ⟨G, g, rfl, -, hG⟩ := o1.formG
    rw [beginsTo_len] at hG ⊢
    have HG := Lib.hid hG
    have own1 := own0.below hb1 (Nat.le_refl _)
    have hbx := hbz.trans (hb1.mono hbz.size)
    have hsx := hbx.size
    clear hG o1 HK own0 hbz hb1
    go_wp2_with fail
    go_loopw [5, 7] (fun q i wr => ∃ k : Nat, k ≤ L.length ∧ i = .int .i64 k ∧ IO wr w.heap.size q (leaveBeTo L cn k) ∧ Hid (Sep w.heap.size w1.heap.size q) ∧ Hid (Mid w.heap.size w1.heap.size w1 wr) ∧ w1.heap.size ≤ wr.heap.size ∧ Below w.heap.size w wr) (fun _ i _ => L.length - (intOf i).toNat)
    case atStart => exact ⟨0, by omega, rfl, own1, Sep.lo _ _ _ _, Mid.refl _ _ _, Nat.le_refl _, hbx⟩
    case round =>
      obtain ⟨k, hk, rfl, hown, hsep, hmid, hz, hb⟩ := hrel
      have hsz := hb.size
      by_cases hlt : k < L.length
      · obtain ⟨gb, rfl, hgl, hgb, hgc⟩ := HG.out (by omega)
        obtain ⟨b, off, rfl, hlb, hc⟩ := hA (by omega)
        have c1 := (hb.cell (p := ⟨b, off + k * 2 + 1, none⟩) hlb).trans (hc k hlt).2
        have hgs : w.heap.size < gb := by simp at hgl; omega
        have c0 := hgc k hlt
        rw [beginsTo_Z hlt] at c0
        have c2 := (hmid.out.cell (o := k) hgs hgb).trans c0
        have tb := Hb.out k hlt
        have cb := Hc.out k hlt
        have p1 : (0 : Int) ≤ (k : Int) := by omega
        have p2 : (k : Int) < (L.length : Int) := by omega
        have q7 : IntKind.i64.wrap (bgn L cn k + Y L k) = bgn L cn k + Y L k := IntWalk.i64_in _ (by omega)
        have q5 : (leaveBeTo L cn k).length ≤ 1000000000000 := by rw [leaveBeTo_len]; omega
        have HS := Lib.hid (leaveBeTo_succ L cn k)
        have hlw : b < wr.heap.size := by omega
        have hal : Mid w.heap.size w1.heap.size w1 (wr.alloc (.cells #[.int .i64 (bgn L cn k + Y L k)] 3)) := hmid.out.below ((Below.refl wr.heap.size _).alloc (Nat.le_refl _) _) hz
        clear hc hgc tb cb
        go_wp2_with fail
        go_region_held3 (fun w' => w'.cell? ⟨b, off + k * 2 + 1, none⟩ = some (.int .i64 (Y L k)) ∧ w'.cell? ⟨gb, k, none⟩ = some (.int .i64 (bgn L cn k)))
          (first
            | go_keep
            | exact ⟨(hb6.cell (p := ⟨b, _, none⟩) hlb).trans ((((Below.refl _ _).alloc (Nat.le_refl _) _).cell (p := ⟨b, _, none⟩) hlw).trans c1), (hmid6.cell hgs hgb).trans c0⟩)
          ((refine step_IS (by rfl) (.tmp 18) (.tmp 29) (by rfl) w.heap.size u5 (leaveBeTo L cn k) (bgn L cn k + Y L k) wr.heap.size (by rfl) ((hown.alloc _).drew) (by rfl) (heap_alloc_new _ _) q5 ?_ w.heap.size w1.heap.size w1 hsep.out hal ?_ ?_; (clear q7; simp; omega); (clear q7; simp; omega); intro g cap w6 hown6 hb6 hsep6 hmid6))
        clear q7
        have hz6 := hb6.size
        go_wp2_with fail
        go_roundw
        case rel =>
          refine ⟨k + 1, by omega, by go_num, by rw [HS.out]; exact hown6, hsep6, hmid6, by simp at hz6; omega, ?_⟩
          refine Below.trans ?_ hb6
          (repeat (first | exact hb | exact Below.refl _ _ | (with_reducible refine Below.drew ?_) | (with_reducible refine Below.drewN ?_ _) | (with_reducible refine Below.alloc ?_ ?_ _) | (with_reducible refine Below.setCell ?_ ?_ _) | (show _ ≤ _; focus (first | omega | (simp; done) | (simp; omega)))))
        case measure => simp [intOf]; omega
      · have hlf : ¬ ((k : Int) < (L.length : Int)) := by omega
        obtain rfl : k = L.length := by omega
        go_wp2_with fail
        go_ret
        exact ⟨_, rfl, by rw [HV.out]; exact hown, hb⟩
  | false =>
    have HV := Lib.hid (leaveBeV_no hok)
    have HE := Lib.hid (beginsV_no hok)
    clear hok
    go_enter Try.func20, Try.ntmps20
    go_wp2_with fail
    refine HK.out.mono ?_
    rintro e w1 ⟨v1, rfl, o1, hb1⟩
    rw [HE.out] at o1
    obtain ⟨G, g, rfl, -, -, -⟩ := o1.form
    have own1 := own0.below hb1 (Nat.le_refl _)
    have hbx := hbz.trans (hb1.mono hbz.size)
    clear o1 HK own0 hbz hb1
    go_wp2_with fail
    go_loopw [5, 7] (fun q i wr => i = .int .i64 0 ∧ IO wr w.heap.size q [] ∧ Below w.heap.size w wr) (fun _ i _ => 0)
    case atStart => exact ⟨rfl, own1, hbx⟩
    case round =>
      obtain ⟨rfl, hown, hb⟩ := hrel
      go_wp2_with fail
      go_ret
      exact ⟨_, rfl, by rw [HV.out]; exact hown, hb⟩

set_option maxRecDepth 4000 in
set_option maxHeartbeats 8000000 in
theorem c_sWaitSum (L : List (Int × Int)) (A : Option Addr) (d : Nat) (c : Int) (w : World) (hA : Cs w w.heap.size A L) (hn : L.length ≤ 140737488351232) :
    Calls Try.prog 27 #[.slice A L.length d, .int .i64 c] w fun e w' => e = .returned (.int .i64 (waitSumV L c)) ∧ Below w.heap.size w w' := by
  have HC := Lib.hid (c_sCustomersOk L A d _ hA hn)
  have HI := Lib.hid (fun W => c_l1In c 1 4 W)
  cases hok : cOk L with
  | true =>
    have H := Lib.hid hok
    by_cases hr : 1 ≤ c ∧ c ≤ 4
    · have hbes : besOk L c = true := by simp [besOk, hok, hr]
      have HV := Lib.hid (waitSumV_yes hbes)
      obtain ⟨cn, rfl, h1, h4, hcn⟩ := counter_nat hr
      rw [hcn] at HV
      have HR := Lib.hid (decide_eq_true hr)
      have HB := Lib.hid (fun W hW => c_l10Begins L hok cn h1 h4 A d W hW)
      have Hb := Lib.hid (fun k (hk : k < L.length) => bgn_bd hok h1 hk)
      have Hc := Lib.hid (fun k (hk : k < L.length) => cOk_bd hok hk)
      have Hw := Lib.hid (fun k (hk : k ≤ L.length) => waitS_bd hok h1 k hk)
      have hlen := cOk_len hok
      clear hok hr hbes hcn
      go_enter Try.func27, Try.ntmps27
      go_wp2_with fail
      refine HC.out.mono ?_
      rintro e w1 ⟨rfl, hb1⟩
      rw [H.out]
      have hA1 := (hA.below hb1).more hb1.size
      go_wp2_with fail
      refine (HI.out _).mono ?_
      rintro e w2 ⟨rfl, rfl⟩
      rw [HR.out]
      go_wp2_with fail
      refine (HB.out _ hA1).mono ?_
      rintro e w3 ⟨v, rfl, o3, hb3⟩
      obtain ⟨G, g, rfl, -, -, hG⟩ := o3.form
      have hbx := hb1.trans (hb3.mono hb1.size)
      rw [beginsTo_len]
      have HG := Lib.hid hG
      clear hG o3 hb3 hb1 hA1 HC HI
      go_wp2_with fail
      go_loopw [5, 7] (fun s i wr => ∃ k : Nat, k ≤ L.length ∧ i = .int .i64 k ∧ s = .int .i64 (waitS L cn k) ∧ Below w3.heap.size w3 wr) (fun _ i _ => L.length - (intOf i).toNat)
      case atStart => exact ⟨0, by omega, rfl, rfl, Below.refl _ _⟩
      case round =>
        obtain ⟨k, hk, rfl, rfl, hb⟩ := hrel
        by_cases hlt : k < L.length
        · obtain ⟨gb, go, rfl, hgb, hgc⟩ := HG.out (by rw [beginsTo_len]; omega)
          obtain ⟨b, off, rfl, hlb, hc⟩ := hA (by omega)
          have c0 := (hb.cell (p := ⟨gb, go + k, none⟩) hgb).trans (hgc k (by rw [beginsTo_len]; omega))
          rw [beginsTo_Z hlt] at c0
          have c1 := ((hbx.trans (hb.mono hbx.size)).cell (p := ⟨b, off + k * 2, none⟩) hlb).trans (hc k hlt).1
          have tb := Hb.out k hlt
          have cb := Hc.out k hlt
          have wb := Hw.out k hk
          have p1 : (0 : Int) ≤ (k : Int) := by omega
          have p2 : (k : Int) < (L.length : Int) := by omega
          have q1 : IntKind.i64.wrap (waitS L cn k + bgn L cn k) = waitS L cn k + bgn L cn k := IntWalk.i64_in _ (by omega)
          have q2 : IntKind.i64.wrap (waitS L cn k + bgn L cn k - X L k) = waitS L cn k + bgn L cn k - X L k := IntWalk.i64_in _ (by omega)
          have HS := Lib.hid (show waitS L cn (k + 1) = waitS L cn k + bgn L cn k - X L k from rfl)
          clear hgc hc
          go_wp2_with fail
          go_quiet (fail)
          clear q1 q2 c0 c1
          have hbq : Below w3.heap.size w3 (wr.drewN nq) := by (repeat (first | exact hb | exact Below.refl _ _ | (with_reducible refine Below.drew ?_) | (with_reducible refine Below.drewN ?_ _) | (with_reducible refine Below.alloc ?_ ?_ _) | (with_reducible refine Below.setCell ?_ ?_ _) | (show _ ≤ _; focus (first | omega | (simp; done) | (simp; omega)))))
          generalize wr.drewN nq = wq at hbq ⊢
          clear hb
          go_wp2_with fail
          go_roundw
          case rel => exact ⟨k + 1, by omega, by go_num, by rw [HS.out], hbq⟩
          case measure => simp [intOf]; omega
        · have hlf : ¬ ((k : Int) < (L.length : Int)) := by omega
          obtain rfl : k = L.length := by omega
          go_wp2_with fail
          go_ret
          exact ⟨by rw [HV.out]; rfl, hbx.trans (hb.mono hbx.size)⟩
    · have HV := Lib.hid (waitSumV_no (show besOk L c = false by simp [besOk]; intro _ a; omega))
      have HR := Lib.hid (decide_eq_false hr)
      clear hok hr
      go_enter Try.func27, Try.ntmps27
      go_wp2_with fail
      refine HC.out.mono ?_
      rintro e w1 ⟨rfl, hb1⟩
      rw [H.out]
      go_wp2_with fail
      refine (HI.out _).mono ?_
      rintro e w2 ⟨rfl, rfl⟩
      rw [HR.out]
      go_wp2_with fail
      go_ret
      exact ⟨by rw [HV.out]; rfl, hb1⟩
  | false =>
    have HV := Lib.hid (waitSumV_no (c := c) (show besOk L c = false by simp [besOk, hok]))
    have H := Lib.hid hok
    clear hok
    go_enter Try.func27, Try.ntmps27
    go_wp2_with fail
    refine HC.out.mono ?_
    rintro e w1 ⟨rfl, hb1⟩
    rw [H.out]
    go_wp2_with fail
    go_ret
    exact ⟨by rw [HV.out]; rfl, hb1⟩

set_option maxRecDepth 4000 in
set_option maxHeartbeats 8000000 in
theorem c_sServedAt (L : List (Int × Int)) (A : Option Addr) (d : Nat) (c t : Int) (w : World) (hA : Cs w w.heap.size A L) (hn : L.length ≤ 140737488351232) :
    Calls Try.prog 25 #[.slice A L.length d, .int .i64 c, .int .i64 t] w fun e w' => e = .returned (.int .i64 (servedAtV L c t)) ∧ Below w.heap.size w w' := by
  have HC := Lib.hid (c_sCustomersOk L A d _ hA hn)
  have HI := Lib.hid (fun W => c_l1In c 1 4 W)
  have HJ := Lib.hid (fun W => c_l1In t 0 200 W)
  cases hok : cOk L with
  | true =>
    have H := Lib.hid hok
    by_cases hr : 1 ≤ c ∧ c ≤ 4
    · have hbes : besOk L c = true := by simp [besOk, hok, hr]
      by_cases ht : 0 ≤ t ∧ t ≤ 200
      · have HV := Lib.hid (servedAtV_yes hbes ht)
        obtain ⟨cn, rfl, h1, h4, hcn⟩ := counter_nat hr
        rw [hcn] at HV
        have HR := Lib.hid (decide_eq_true hr)
        have HT := Lib.hid (decide_eq_true ht)
        have HB := Lib.hid (fun W hW => c_l10Begins L hok cn h1 h4 A d W hW)
        have Hb := Lib.hid (fun k (hk : k < L.length) => bgn_bd hok h1 hk)
        have Hc := Lib.hid (fun k (hk : k < L.length) => cOk_bd hok hk)
        have Hw := Lib.hid (fun k => servedN_bd L cn t k)
        have hlen := cOk_len hok
        clear hok hr hbes hcn ht
        go_enter Try.func25, Try.ntmps25
        go_wp2_with fail
        refine HC.out.mono ?_
        rintro e w1 ⟨rfl, hb1⟩
        rw [H.out]
        have hA1 := (hA.below hb1).more hb1.size
        go_wp2_with fail
        refine (HI.out _).mono ?_
        rintro e w2 ⟨rfl, rfl⟩
        rw [HR.out]
        go_wp2_with fail
        refine (HJ.out _).mono ?_
        rintro e w3 ⟨rfl, rfl⟩
        rw [HT.out]
        go_wp2_with fail
        refine (HB.out _ hA1).mono ?_
        rintro e w4 ⟨v, rfl, o3, hb3⟩
        obtain ⟨G, g, rfl, -, -, hG⟩ := o3.form
        have hbx := hb1.trans (hb3.mono hb1.size)
        rw [beginsTo_len]
        have HG := Lib.hid hG
        clear hG o3 hb3 hb1 hA1 HC HI HJ
        go_wp2_with fail
        go_loopw [7, 9] (fun s i wr => ∃ k : Nat, k ≤ L.length ∧ i = .int .i64 k ∧ s = .int .i64 (servedN L cn t k) ∧ Below w4.heap.size w4 wr) (fun _ i _ => L.length - (intOf i).toNat)
        case atStart => exact ⟨0, by omega, rfl, rfl, Below.refl _ _⟩
        case round =>
          obtain ⟨k, hk, rfl, rfl, hb⟩ := hrel
          have hsz := hb.size
          by_cases hlt : k < L.length
          · obtain ⟨gb, go, rfl, hgb, hgc⟩ := HG.out (by rw [beginsTo_len]; omega)
            obtain ⟨b, off, rfl, hlb, hc⟩ := hA (by omega)
            have c0 := (hb.cell (p := ⟨gb, go + k, none⟩) hgb).trans (hgc k (by rw [beginsTo_len]; omega))
            rw [beginsTo_Z hlt] at c0
            have c1 := ((hbx.trans (hb.mono hbx.size)).cell (p := ⟨b, off + k * 2 + 1, none⟩) hlb).trans (hc k hlt).2
            have e0 := WB.cell (B := wr.heap.size) (by omega) c0
            have e1 := WB.cell (B := wr.heap.size) (by have := hbx.size; omega) c1
            have tb := Hb.out k hlt
            have cb := Hc.out k hlt
            have wb := Hw.out k
            have p1 : (0 : Int) ≤ (k : Int) := by omega
            have p2 : (k : Int) < (L.length : Int) := by omega
            have q1 : IntKind.i64.wrap (bgn L cn k + Y L k) = bgn L cn k + Y L k := IntWalk.i64_in _ (by omega)
            have q2 : IntKind.i64.wrap (bgn L cn k + Y L k - 1) = bgn L cn k + Y L k - 1 := IntWalk.i64_in _ (by omega)
            have HS := Lib.hid (show servedN L cn t (k + 1) = servedN L cn t k + (if bgn L cn k ≤ t ∧ t ≤ bgn L cn k + Y L k - 1 then 1 else 0) from rfl)
            have HL := Lib.hid (fun W => show Calls Try.prog 43 #[.int .i64 t, .int .i64 (bgn L cn k), .int .i64 (bgn L cn k + Y L k - 1)] W fun e w' => e = .returned (.bool (decide (bgn L cn k ≤ t ∧ t ≤ bgn L cn k + Y L k - 1))) ∧ Below W.heap.size W w' from (c_l1In _ _ _ W).mono fun e w' ⟨h1, h2⟩ => ⟨h1, by first | (rw [h2]; exact Below.refl _ _) | (rw [← h2]; exact Below.refl _ _)⟩)
            clear hgc hc c0 c1
            by_cases hin : bgn L cn k ≤ t ∧ t ≤ bgn L cn k + Y L k - 1
            · rw [decide_eq_true hin] at HL
              rw [if_pos hin] at HS
              clear hin
              go_wp2_with fail
              refine wp_region_wb wr.heap.size (by kernel_rfl) (by kernel_rfl) ?_
              repeat (go_big_quiet_step (first | (go_at_call 43; exact Calls.inB (Nat.le_refl _) (HL.out _))))
              refine wpQuiet_nil ?_
              rintro w5 ⟨⟨_, hb5⟩, rfl⟩
              have hb6 := hb.trans (hb5.mono hsz)
              clear hb5 hb e0 e1 q1 q2 HL tb cb
              go_wp2_with fail
              go_roundw
              case rel => exact ⟨k + 1, by omega, by go_num, by rw [HS.out], hb6⟩
              case measure => simp [intOf]; omega
            · rw [decide_eq_false hin] at HL
              rw [if_neg hin] at HS
              clear hin
              go_wp2_with fail
              refine wp_region_wb wr.heap.size (by kernel_rfl) (by kernel_rfl) ?_
              repeat (go_big_quiet_step (first | (go_at_call 43; exact Calls.inB (Nat.le_refl _) (HL.out _))))
              refine wpQuiet_nil ?_
              rintro w5 ⟨⟨_, hb5⟩, rfl⟩
              have hb6 := hb.trans (hb5.mono hsz)
              clear hb5 hb e0 e1 q1 q2 HL tb cb
              go_wp2_with fail
              go_roundw
              case rel => exact ⟨k + 1, by omega, by go_num, by rw [HS.out, Int.add_zero], hb6⟩
              case measure => simp [intOf]; omega
          · have hlf : ¬ ((k : Int) < (L.length : Int)) := by omega
            obtain rfl : k = L.length := by omega
            go_wp2_with fail
            go_ret
            exact ⟨by rw [HV.out]; rfl, hbx.trans (hb.mono hbx.size)⟩
      · have HV := Lib.hid (servedAtV_no (L := L) (c := c) (t := t) (fun h => ht h.2))
        have HR := Lib.hid (decide_eq_true hr)
        have HT := Lib.hid (decide_eq_false ht)
        clear hok hr hbes ht
        go_enter Try.func25, Try.ntmps25
        go_wp2_with fail
        refine HC.out.mono ?_
        rintro e w1 ⟨rfl, hb1⟩
        rw [H.out]
        go_wp2_with fail
        refine (HI.out _).mono ?_
        rintro e w2 ⟨rfl, rfl⟩
        rw [HR.out]
        go_wp2_with fail
        refine (HJ.out _).mono ?_
        rintro e w3 ⟨rfl, rfl⟩
        rw [HT.out]
        go_wp2_with fail
        go_ret
        exact ⟨by rw [HV.out]; rfl, hb1⟩
    · have HV := Lib.hid (servedAtV_no (L := L) (c := c) (t := t) (fun h => hr (besOk_parts h.1).2))
      have HR := Lib.hid (decide_eq_false hr)
      clear hok hr
      go_enter Try.func25, Try.ntmps25
      go_wp2_with fail
      refine HC.out.mono ?_
      rintro e w1 ⟨rfl, hb1⟩
      rw [H.out]
      go_wp2_with fail
      refine (HI.out _).mono ?_
      rintro e w2 ⟨rfl, rfl⟩
      rw [HR.out]
      go_wp2_with fail
      go_ret
      exact ⟨by rw [HV.out]; rfl, hb1⟩
  | false =>
    have HV := Lib.hid (servedAtV_no (L := L) (c := c) (t := t) (fun h => by have := (besOk_parts h.1).1; rw [hok] at this; cases this))
    have H := Lib.hid hok
    clear hok
    go_enter Try.func25, Try.ntmps25
    go_wp2_with fail
    refine HC.out.mono ?_
    rintro e w1 ⟨rfl, hb1⟩
    rw [H.out]
    go_wp2_with fail
    go_ret
    exact ⟨by rw [HV.out]; rfl, hb1⟩

end Go.Proofs.Ythoendonhkffkaa

