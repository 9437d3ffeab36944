/- spec.l3Work, spec.WorkAt, spec.ServedBy -/
import Derived.Test.YtjjncpimelpfiaaB
import Derived.Test.YtjjncpimelpfiaaT
import Derived.Test.YtjjncpimelpfiaaM9
namespace Go.Proofs.Ytjjncpimelpfiaa
set_option linter.unusedVariables false
open Go.RowKit
attribute [local go_sem ↓] Go.wp_at_zero Go.wp_at_succ

theorem Z_workTo {L : List (Int × Int)} {n k : Nat} (h : k < n) : Z (workTo L n) k = wk L k := by simp [Z, workTo, h]

set_option maxHeartbeats 4000000 in
theorem c_l3Work (L : List (Int × Int)) (h : cOk L = true) (A : Option Addr) (c : Nat) (m : Nat) (hm : m ≤ 200) (w : World) (hA : Cs w w.heap.size A L) (hn : L.length ≤ 140737488351232) :
    Calls Try.prog 46 #[.slice A L.length c, .int .i64 m] w fun e w' => ∃ v, e = .returned v ∧ IO w' w.heap.size v (workTo L (m + 1)) ∧ Below w.heap.size w w' := by
  have Hbd := Lib.hid (fun k => @cOk_bd L k h)
  have Harr := Lib.hid (fun t j hj => @arrTo_nn L h t j hj)
  have Hwk := Lib.hid (fun t => @wk_bd L h t)
  have hlen := cOk_len h
  clear h
  go_enter Try.func46, Try.ntmps46
  go_wp2_with fail
  go_loopw [5, 6, 7] (fun o s i wr => ∃ t : Nat, t ≤ m + 1 ∧ i = .int .i64 t ∧ s = .int .i64 (carry L t) ∧ IO wr w.heap.size o (workTo L t) ∧ Below w.heap.size w wr)
    (fun _ _ i _ => m + 1 - (intOf i).toNat)
  case atStart => exact ⟨0, by omega, rfl, rfl, IO.empty _ (Nat.le_refl _), by (repeat (first | exact rfl | exact Below.refl _ _ | (with_reducible refine Below.drew ?_) | (with_reducible refine Below.drewN ?_ _) | (with_reducible refine Below.alloc ?_ ?_ _) | (with_reducible refine Below.setCell ?_ ?_ _) | (show _ ≤ _; focus (first | omega | (simp; done) | (simp; omega)))))⟩
  case round =>
    obtain ⟨t, ht, rfl, rfl, hown, hb⟩ := hrel
    have hsz := hb.size
    by_cases hlt : t ≤ m
    · have bw := Hwk.out t
      have hwc := wk_carry L t
      have bc : 0 ≤ carry L t ∧ carry L t ≤ 72 := by
        have := (Harr.out (t : Int) L.length (Nat.le_refl _)).1
        cases t with
        | zero => simp [carry]
        | succ u => have := Hwk.out u; simp only [carry]; omega
      have HWC := Lib.hid hwc
      clear hwc
      go_wp2_with fail
      go_loop [6, 8] (fun s i => ∃ j : Nat, j ≤ L.length ∧ i = .int .i64 j ∧ s = .int .i64 (carry L t + arrTo L t j))
        (fun _ i => L.length - (intOf i).toNat)
      case atStart => exact ⟨0, by omega, rfl, by simp [arrTo]⟩
      case round =>
        obtain ⟨j, hj, rfl, rfl⟩ := hrel
        by_cases hjl : j < L.length
        · obtain ⟨b, off, rfl, hlb, hc⟩ := hA (by omega)
          have c1 := (hb.cell (p := ⟨b, off + j * 2, none⟩) hlb).trans (hc j hjl).1
          have c2 := (hb.cell (p := ⟨b, off + j * 2 + 1, none⟩) hlb).trans (hc j hjl).2
          clear hc
          have b1 := Harr.out (t : Int) j (by omega)
          have b2 := Hbd.out j hjl
          by_cases he : X L j = t
          · have heb : (X L j == (t : Int)) = true := beq_iff_eq.2 he
            have E := Lib.hid (show arrTo L t (j + 1) = arrTo L t j + Y L j by simp only [arrTo]; rw [if_pos he])
            clear he
            go_wp2_with fail
            go_round
            case rel => exact ⟨j + 1, by omega, by go_num, by rw [E.out]; simp; omega⟩
            case measure => simp [intOf]; omega
          · have heb : (X L j == (t : Int)) = false := beq_eq_false_iff_ne.2 he
            have E := Lib.hid (show arrTo L t (j + 1) = arrTo L t j by simp only [arrTo]; rw [if_neg he]; omega)
            clear he
            go_wp2_with fail
            go_round
            case rel => exact ⟨j + 1, by omega, by go_num, by rw [E.out]⟩
            case measure => simp [intOf]; omega
        · have hjf : ¬ ((j : Int) < (L.length : Int)) := by omega
          have hv : carry L t + arrTo L t j = wk L t := by rw [HWC.out, show j = L.length by omega]; rfl
          rw [hv]
          clear hv
          have q5 : (workTo L t).length ≤ 1000000000000 := by rw [workTo_len]; omega
          go_wp2_with (refine app_I ?_ (.tmp 35) (.tmp 37) ?_ w.heap.size u5 (workTo L t) (wk L t) wr.heap.size ?_ ?_ ?_ ?_ ?_ ?_ ?_; rfl; rfl; rfl; exact (hown.alloc _); rfl; exact (heap_alloc_new _ _); exact q5; exact (Nat.le_trans hsz (by simp)); intro g7 cap w7 hown7 hgr7 hb7)
          go_roundw
          case rel =>
            refine ⟨t + 1, by omega, by go_num, ?_, by rw [workTo_succ]; exact hown7, ?_⟩
            · simp only [carry]
              congr 1
              split <;> omega
            · refine Below.trans ?_ hb7
              (repeat (first | exact hb | exact Below.refl _ _ | (with_reducible refine Below.drew ?_) | (with_reducible refine Below.drewN ?_ _) | (with_reducible refine Below.alloc ?_ ?_ _) | (with_reducible refine Below.setCell ?_ ?_ _) | (show _ ≤ _; focus (first | omega | (simp; done) | (simp; omega)))))
          case measure => simp [intOf]; omega
    · have hlf : ¬ ((t : Int) ≤ (m : Int)) := by omega
      go_wp2_with fail
      go_ret
      refine ⟨_, rfl, ?_, hb⟩
      rw [show m + 1 = t by omega]
      exact hown

set_option maxHeartbeats 2000000 in
theorem c_sWorkAt (L : List (Int × Int)) (A : Option Addr) (c : Nat) (t : Int) (w : World) (hA : Cs w w.heap.size A L) (hn : L.length ≤ 140737488351232) :
    Calls Try.prog 13 #[.slice A L.length c, .int .i64 t] w fun e w' => e = .returned (.int .i64 (workV L t)) ∧ Below w.heap.size w w' := by
  by_cases hp : momentOk L t = true
  · have HV := Lib.hid (workV_yes hp)
    obtain ⟨n, rfl, hn2, h⟩ := momentOk_nat hp
    have ht' : decide ((0 : Int) ≤ (n : Int) ∧ (n : Int) ≤ 200) = true := by simp; omega
    have hlen := cOk_len h
    have H := Lib.hid h; clear h hp
    go_enter Try.func13, Try.ntmps13
    go_wp2_with fail
    refine (c_sCustomersOk L A c _ hA hn).mono ?_
    rintro e w1 ⟨rfl, hb1⟩
    rw [H.out]
    go_wp2_with fail
    refine (c_l1In _ _ _ _).mono ?_
    rintro e w' ⟨rfl, rfl⟩
    rw [ht']
    clear ht'
    have hs1 := hb1.size
    go_wp2_with fail
    refine (c_l3Work L H.out A c n hn2 _ ((hA.below hb1).more hs1) hn).mono ?_
    rintro e w2 ⟨v, rfl, o2, hb2⟩
    obtain ⟨G, g, rfl, -, hG⟩ := o2.formG
    rw [workTo_len] at hG ⊢
    obtain ⟨gb, rfl, -, hgb, hgc⟩ := hG (by omega)
    have HGC := Lib.hid hgc
    have k1 : (0 : Int) ≤ (n : Int) := by omega
    have k2 : (n : Int) < ((n + 1 : Nat) : Int) := by omega
    have hb3 := hb1.trans (hb2.mono hs1)
    clear hG hgc o2 hb2 hb1
    have c1 := HGC.out n (by omega)
    rw [Z_workTo (by omega)] at c1
    go_wp2_with fail
    go_ret
    exact ⟨by rw [HV.out]; rfl, hb3⟩
  · have hpn : momentOk L t = false := by simpa using hp
    have HV := Lib.hid (workV_no hpn)
    by_cases h : cOk L = true
    · have ht' : decide (0 ≤ t ∧ t ≤ 200) = false := by simpa [momentOk, h] using hpn
      have H := Lib.hid h; clear h hp hpn
      go_enter Try.func13, Try.ntmps13
      go_wp2_with fail
      refine (c_sCustomersOk L A c _ hA hn).mono ?_
      rintro e w1 ⟨rfl, hb1⟩
      rw [H.out]
      go_wp2_with fail
      refine (c_l1In _ _ _ _).mono ?_
      rintro e w' ⟨rfl, rfl⟩
      rw [ht']
      clear ht'
      go_wp2_with fail
      go_ret
      exact ⟨by rw [HV.out]; rfl, hb1⟩
    · have hno : cOk L = false := by simpa using h
      have H := Lib.hid hno; clear h hno hp hpn
      go_enter Try.func13, Try.ntmps13
      go_wp2_with fail
      refine (c_sCustomersOk L A c _ hA hn).mono ?_
      rintro e w1 ⟨rfl, hb1⟩
      rw [H.out]
      go_wp2_with fail
      go_ret
      exact ⟨by rw [HV.out]; rfl, hb1⟩

set_option maxHeartbeats 2000000 in
theorem c_sServedBy (L : List (Int × Int)) (A : Option Addr) (c : Nat) (t : Int) (w : World) (hA : Cs w w.heap.size A L) (hn : L.length ≤ 140737488351232) :
    Calls Try.prog 29 #[.slice A L.length c, .int .i64 t] w fun e w' => e = .returned (.int .i64 (servedV L t)) ∧ Below w.heap.size w w' := by
  by_cases hp : momentOk L t = true
  · have HV := Lib.hid (servedV_yes hp)
    obtain ⟨n, rfl, hn2, h⟩ := momentOk_nat hp
    have ht' : decide ((0 : Int) ≤ (n : Int) ∧ (n : Int) ≤ 200) = true := by simp; omega
    have hlen := cOk_len h
    have H := Lib.hid h; clear h hp
    go_enter Try.func29, Try.ntmps29
    go_wp2_with fail
    refine (c_sCustomersOk L A c _ hA hn).mono ?_
    rintro e w1 ⟨rfl, hb1⟩
    rw [H.out]
    go_wp2_with fail
    refine (c_l1In _ _ _ _).mono ?_
    rintro e w' ⟨rfl, rfl⟩
    rw [ht']
    clear ht'
    have hs1 := hb1.size
    go_wp2_with fail
    refine (c_l3Work L H.out A c n hn2 _ ((hA.below hb1).more hs1) hn).mono ?_
    rintro e w2 ⟨v, rfl, o2, hb2⟩
    obtain ⟨G, g, rfl, -, hG⟩ := o2.formG
    rw [workTo_len] at hG ⊢
    obtain ⟨gb, rfl, -, hgb, hgc⟩ := hG (by omega)
    have HGC := Lib.hid hgc
    have k1 : (0 : Int) ≤ (n : Int) := by omega
    have k2 : (n : Int) < ((n + 1 : Nat) : Int) := by omega
    have hb3 := hb1.trans (hb2.mono hs1)
    clear hG hgc o2 hb2 hb1
    have Hwn := Lib.hid (fun t => @wk_nn L H.out t)
    have Hsn := Lib.hid (fun t => @srv_nn L t)
    go_wp2_with fail
    go_loop [6, 7] (fun s i => ∃ k : Nat, k ≤ n ∧ i = .int .i64 k ∧ s = .int .i64 (srv L k))
      (fun _ i => n - (intOf i).toNat)
    case atStart => exact ⟨0, by omega, rfl, rfl⟩
    case round =>
      obtain ⟨k, hk, rfl, rfl⟩ := hrel
      by_cases hlt : k < n
      · have c1 := HGC.out k (by omega)
        rw [Z_workTo (by omega)] at c1
        have bs := Hsn.out k
        have p1 : (0 : Int) ≤ (k : Int) := by omega
        have p2 : (k : Int) < ((n + 1 : Nat) : Int) := by omega
        by_cases hw : 0 < wk L k
        · have E := Lib.hid (show srv L (k + 1) = srv L k + 1 by simp only [srv]; rw [if_pos hw])
          go_wp2_with fail
          go_round
          case rel => exact ⟨k + 1, by omega, by go_num, by rw [E.out]⟩
          case measure => simp [intOf]; omega
        · have E := Lib.hid (show srv L (k + 1) = srv L k by simp only [srv]; rw [if_neg hw]; omega)
          go_wp2_with fail
          go_round
          case rel => exact ⟨k + 1, by omega, by go_num, by rw [E.out]⟩
          case measure => simp [intOf]; omega
      · have hlf : ¬ ((k : Int) < (n : Int)) := by omega
        go_wp2_with fail
        go_ret
        obtain rfl : k = n := by omega
        exact ⟨by rw [HV.out]; rfl, hb3⟩
  · have hpn : momentOk L t = false := by simpa using hp
    have HV := Lib.hid (servedV_no hpn)
    by_cases h : cOk L = true
    · have ht' : decide (0 ≤ t ∧ t ≤ 200) = false := by simpa [momentOk, h] using hpn
      have H := Lib.hid h; clear h hp hpn
      go_enter Try.func29, Try.ntmps29
      go_wp2_with fail
      refine (c_sCustomersOk L A c _ hA hn).mono ?_
      rintro e w1 ⟨rfl, hb1⟩
      rw [H.out]
      go_wp2_with fail
      refine (c_l1In _ _ _ _).mono ?_
      rintro e w' ⟨rfl, rfl⟩
      rw [ht']
      clear ht'
      go_wp2_with fail
      go_ret
      exact ⟨by rw [HV.out]; rfl, hb1⟩
    · have hno : cOk L = false := by simpa using h
      have H := Lib.hid hno; clear h hno hp hpn
      go_enter Try.func29, Try.ntmps29
      go_wp2_with fail
      refine (c_sCustomersOk L A c _ hA hn).mono ?_
      rintro e w1 ⟨rfl, hb1⟩
      rw [H.out]
      go_wp2_with fail
      go_ret
      exact ⟨by rw [HV.out]; rfl, hb1⟩

end Go.Proofs.Ytjjncpimelpfiaa

