/- spec.ComeIn -/
import Derived.Test.YtjjncpimelpfiaaK2
namespace Go.Proofs.Ytjjncpimelpfiaa
set_option linter.unusedVariables false
open Go.RowKit
attribute [local go_sem ↓] Go.wp_at_zero Go.wp_at_succ

def perOk (L : List (Int × Int)) (t : Int) : Bool := decide (0 ≤ t ∧ t ≤ ((busyP L).length : Int) - 1)
def comeR (L : List (Int × Int)) (t : Int) : List Int := if perOk L t = true then places L (X (busyP L) t.toNat) (Y (busyP L) t.toNat) else []
theorem comeR_yes {L : List (Int × Int)} {t : Int} (h : perOk L t = true) : comeR L t = places L (X (busyP L) t.toNat) (Y (busyP L) t.toNat) := if_pos h
theorem comeR_no {L : List (Int × Int)} {t : Int} (h : perOk L t = false) : comeR L t = [] := by simp [comeR, h]
theorem perOk_nat {L : List (Int × Int)} {t : Int} (h : perOk L t = true) : ∃ n : Nat, t = n ∧ n < (busyP L).length ∧ cOk L = true := by
  have h2 : 0 ≤ t ∧ t ≤ ((busyP L).length : Int) - 1 := of_decide_eq_true h
  refine ⟨t.toNat, by omega, by omega, ?_⟩
  by_cases hc : cOk L = true
  · exact hc
  · rw [busyP_no (by simpa using hc)] at h2
    simp at h2; omega
theorem busyP_inv {L : List (Int × Int)} (h : cOk L = true) : BInv L 200 (busyP L) := by rw [busyP_yes h]; exact busyT_inv L 200
theorem busyP_len (L : List (Int × Int)) : (busyP L).length ≤ 200 := by
  unfold busyP; split
  · exact busyT_len L 200
  · simp

set_option maxRecDepth 4000 in
set_option maxHeartbeats 4000000 in
theorem c_sComeIn (L : List (Int × Int)) (A : Option Addr) (c : Nat) (t : Int) (w : World) (hA : Cs w w.heap.size A L) (hn : L.length ≤ 140737488351232) :
    Calls Try.prog 25 #[.slice A L.length c, .int .i64 t] w fun e w' => ∃ v, e = .returned v ∧ IO w' w.heap.size v (comeR L t) ∧ Below w.heap.size w w' := by
  have hbl := busyP_len L
  have KB := Lib.hid (fun W (hW : Cs W W.heap.size A L) => c_sBusyOf L A c W hW hn)
  have hb0 : Below w.heap.size w (w.alloc (.cells #[] 3)) := by (repeat (first | exact rfl | exact Below.refl _ _ | (with_reducible refine Below.drew ?_) | (with_reducible refine Below.drewN ?_ _) | (with_reducible refine Below.alloc ?_ ?_ _) | (with_reducible refine Below.setCell ?_ ?_ _) | (show _ ≤ _; focus (first | omega | (simp; done) | (simp; omega)))))
  have own0 := IO.empty w (Nat.le_refl w.heap.size)
  have HB0 := Lib.hid hb0
  clear hb0
  by_cases hp : perOk L t = true
  · have HV := Lib.hid (comeR_yes hp)
    obtain ⟨n, rfl, hnl, h⟩ := perOk_nat hp
    have hr : decide ((0 : Int) ≤ (n : Int) ∧ (n : Int) ≤ ((busyP L).length : Int) - 1) = true := hp
    have hrg := (busyP_inv h).rng n hnl
    have Hbd := Lib.hid (fun k => @cOk_bd L k h)
    have hlen := cOk_len h
    generalize busyP L = B at HV hnl hr hbl KB hrg
    have hev : ((n : Int)).toNat = n := by simp
    rw [hev] at HV
    have HR := Lib.hid hr
    clear hp h hev hr
    go_enter Try.func25, Try.ntmps25
    go_wp2_with fail
    refine (KB.out _ ((hA.below HB0.out).more HB0.out.size)).mono ?_
    rintro e w1 ⟨v1, rfl, ⟨vs, o1⟩, hb1⟩
    obtain ⟨O, oc, rfl, -, -, hO⟩ := o1.form
    rw [rows_len] at hO ⊢
    obtain ⟨g0, rfl, hg0, hg0lt, hcl, -⟩ := hO (by omega)
    obtain ⟨ib, ic, hvs, hib, hiblt, e1, e2⟩ := o1.pair hnl
    have d0 := hcl n hnl
    rw [hvs] at d0
    have own1 := own0.below hb1 (Nat.le_refl _)
    have hbx := HB0.out.trans (hb1.mono HB0.out.size)
    have hsx : w.heap.size < w1.heap.size := by have := hb1.size; simp at this; omega
    have hgs : w.heap.size < g0 ∧ w.heap.size < ib := by simp at hg0 hib; omega
    have HM := Lib.hid (And.intro hgs (And.intro hg0lt hiblt))
    have D := Lib.hid (And.intro d0 (And.intro e1 e2))
    clear hO hcl o1 hvs hg0 hg0lt hib hiblt d0 e1 e2 hb1 own0 HB0 hgs
    go_wp2_with fail
    go_loopw [5, 7] (fun o i wr => ∃ k : Nat, k ≤ L.length ∧ i = .int .i64 k ∧ IO wr w.heap.size o (placesTo L (X B n) (Y B n) k) ∧ Hid (Sep w.heap.size w1.heap.size o) ∧ Hid (Mid w.heap.size w1.heap.size w1 wr) ∧ w1.heap.size ≤ wr.heap.size ∧ Below w.heap.size w wr)
      (fun _ i _ => L.length - (intOf i).toNat)
    case atStart => exact ⟨0, by omega, rfl, own1, Sep.lo _ _ _ _, Mid.refl _ _ _, Nat.le_refl _, hbx⟩
    case round =>
      obtain ⟨k, hk, rfl, hown, hsep, hmid, hz1, hb⟩ := hrel
      have hsz := hb.size
      by_cases hlt : k < L.length
      · have K := c_l1In (n : Int) 0 ((B.length : Int) - 1) wr
        rw [HR.out] at K
        have HK := Lib.hid K
        clear K
        have d0 := (hmid.out.cell (o := n) HM.out.1.1 HM.out.2.1).trans D.out.1
        have d1 := (hmid.out.cell (o := 0) HM.out.1.2 HM.out.2.2).trans D.out.2.1
        have d2 := (hmid.out.cell (o := 1) HM.out.1.2 HM.out.2.2).trans D.out.2.2
        obtain ⟨b, off, rfl, hlb, hc⟩ := hA (by omega)
        have c1 := (hb.cell (p := ⟨b, off + k * 2, none⟩) hlb).trans (hc k hlt).1
        clear hc
        have bd := Hbd.out k hlt
        have p1 : (0 : Int) ≤ (k : Int) := by omega
        have p2 : (k : Int) < (L.length : Int) := by omega
        have p3 : (0 : Int) ≤ (n : Int) := by omega
        have p4 : (n : Int) < (B.length : Int) := by omega
        by_cases hin : X B n ≤ X L k ∧ X L k ≤ Y B n - 1
        · have hd : decide (X B n ≤ X L k ∧ X L k ≤ Y B n - 1) = true := decide_eq_true hin
          have E := Lib.hid (show placesTo L (X B n) (Y B n) (k + 1) = placesTo L (X B n) (Y B n) k ++ [(k : Int)] by simp only [placesTo]; rw [if_pos hin])
          have K2 := fun W => c_l1In (X L k) (X B n) (Y B n - 1) W
          rw [hd] at K2
          have HK2 := Lib.hid K2
          clear K2 hin hd
          go_wp2_with fail
          refine HK.out.mono ?_
          rintro e w' ⟨rfl, rfl⟩
          go_wp2_with fail
          have q7 : IntKind.i64.wrap (Y B n - 1) = Y B n - 1 := IntWalk.i64_in _ (by omega)
          go_quiet ((go_at_call 45; exact Calls.quiet_of_same (HK2.out _)))
          clear q7
          have q5 : (placesTo L (X B n) (Y B n) k).length ≤ 1000000000000 := by have := placesTo_len (L := L) (b := X B n) (e := Y B n) k; omega
          have hownq : IO (w'.drewN nq) w.heap.size u5 (placesTo L (X B n) (Y B n) k) := hown
          have hmidq : Mid w.heap.size w1.heap.size w1 (w'.drewN nq) := hmid.out
          have hszq : w.heap.size ≤ (w'.drewN nq).heap.size := hsz
          have hz1q : w1.heap.size ≤ (w'.drewN nq).heap.size := hz1
          have hbq : Below w.heap.size w (w'.drewN nq) := by (repeat (first | exact hb | exact Below.refl _ _ | (with_reducible refine Below.drew ?_) | (with_reducible refine Below.drewN ?_ _) | (with_reducible refine Below.alloc ?_ ?_ _) | (with_reducible refine Below.setCell ?_ ?_ _) | (show _ ≤ _; focus (first | omega | (simp; done) | (simp; omega)))))
          generalize w'.drewN nq = wq at hownq hmidq hszq hz1q hbq ⊢
          have HU := Lib.hid (And.intro q5 (And.intro hszq (And.intro hz1q hmidq)))
          clear q5 hszq hz1q hmidq
          go_wp2_with (refine app_IS ?_ (.tmp 43) (.tmp 45) ?_ w.heap.size u5 (placesTo L (X B n) (Y B n) k) (k : Int) wq.heap.size ?_ ?_ ?_ ?_ ?_ ?_ w.heap.size w1.heap.size w1 ?_ ?_ ?_ ?_; rfl; rfl; rfl; exact (hownq.alloc _); rfl; exact (heap_alloc_new _ _); exact HU.out.1; exact (Nat.le_trans HU.out.2.1 (by simp)); exact hsep.out; exact (HU.out.2.2.2.below (Below.alloc (Below.refl wq.heap.size _) (Nat.le_refl _) _) HU.out.2.2.1); exact (Nat.le_trans HU.out.2.2.1 (by simp)); intro g7 cap w7 hown7 hb70 hsep7 hmid7)
          have hz7 := hb70.size
          go_roundw
          case rel =>
            refine ⟨k + 1, by omega, by go_num, by rw [E.out]; exact hown7, hsep7, hmid7, ?_, ?_⟩
            · have := HU.out.2.2.1
              simp at hz7; omega
            · have := HU.out.2.1
              refine Below.trans ?_ hb70
              (repeat (first | exact hbq | exact Below.refl _ _ | (with_reducible refine Below.drew ?_) | (with_reducible refine Below.drewN ?_ _) | (with_reducible refine Below.alloc ?_ ?_ _) | (with_reducible refine Below.setCell ?_ ?_ _) | (show _ ≤ _; focus (first | omega | (simp; done) | (simp; omega)))))
          case measure => simp [intOf]; omega
        · have hd : decide (X B n ≤ X L k ∧ X L k ≤ Y B n - 1) = false := decide_eq_false hin
          have E := Lib.hid (show placesTo L (X B n) (Y B n) (k + 1) = placesTo L (X B n) (Y B n) k by simp only [placesTo]; rw [if_neg hin])
          have K2 := fun W => c_l1In (X L k) (X B n) (Y B n - 1) W
          rw [hd] at K2
          have HK2 := Lib.hid K2
          clear K2 hin hd
          go_wp2_with fail
          refine HK.out.mono ?_
          rintro e w' ⟨rfl, rfl⟩
          go_wp2_with fail
          have q7 : IntKind.i64.wrap (Y B n - 1) = Y B n - 1 := IntWalk.i64_in _ (by omega)
          go_quiet ((go_at_call 45; exact Calls.quiet_of_same (HK2.out _)))
          clear q7
          go_wp2_with fail
          go_roundw
          case rel => exact ⟨k + 1, by omega, by go_num, by rw [E.out]; exact hown, hsep, hmid, hz1, by (repeat (first | exact hb | exact Below.refl _ _ | (with_reducible refine Below.drew ?_) | (with_reducible refine Below.drewN ?_ _) | (with_reducible refine Below.alloc ?_ ?_ _) | (with_reducible refine Below.setCell ?_ ?_ _) | (show _ ≤ _; focus (first | omega | (simp; done) | (simp; omega)))))⟩
          case measure => simp [intOf]; omega
      · have hlf : ¬ ((k : Int) < (L.length : Int)) := by omega
        go_wp2_with fail
        go_ret
        refine ⟨_, rfl, ?_, hb⟩
        rw [HV.out, places, show L.length = k by omega]
        exact hown
  · have hpn : perOk L t = false := by simpa using hp
    have HV := Lib.hid (comeR_no hpn)
    have hr : decide (0 ≤ t ∧ t ≤ ((busyP L).length : Int) - 1) = false := hpn
    generalize busyP L = B at hr hbl KB
    have HR := Lib.hid hr
    clear hp hpn hr
    go_enter Try.func25, Try.ntmps25
    go_wp2_with fail
    refine (KB.out _ ((hA.below HB0.out).more HB0.out.size)).mono ?_
    rintro e w1 ⟨v1, rfl, ⟨vs, o1⟩, hb1⟩
    obtain ⟨O, oc, rfl, -, -, -⟩ := o1.form
    rw [rows_len]
    have own1 := own0.below hb1 (Nat.le_refl _)
    have hbx := HB0.out.trans (hb1.mono HB0.out.size)
    have K := c_l1In t 0 ((B.length : Int) - 1) w1
    rw [HR.out] at K
    have HK := Lib.hid K
    clear K o1 hb1 own0 HB0
    by_cases hL : 0 < L.length
    · go_wp2_with fail
      refine wp_loop_rounds 1 ?_
      rw [rounds_succ]
      go_wp2_with fail
      refine HK.out.mono ?_
      rintro e w' ⟨rfl, rfl⟩
      go_wp2_with fail
      go_ret
      exact ⟨_, rfl, by rw [HV.out]; exact own1, hbx⟩
    · go_wp2_with fail
      refine wp_loop_rounds 1 ?_
      rw [rounds_succ]
      go_wp2_with fail
      go_ret
      exact ⟨_, rfl, by rw [HV.out]; exact own1, hbx⟩

end Go.Proofs.Ytjjncpimelpfiaa

