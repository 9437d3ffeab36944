/- impl.ComeIn -/
import Derived.Test.YtjjncpimelpfiaaN6
namespace Go.Proofs.Ytjjncpimelpfiaa
set_option linter.unusedVariables false
open Go.RowKit
attribute [local go_sem ↓] Go.wp_at_zero Go.wp_at_succ

set_option maxRecDepth 4000 in
set_option maxHeartbeats 4000000 in
theorem c_iComeIn (L : List (Int × Int)) (A : Option Addr) (c : Nat) (t : Int) (w : World) (hA : Cs w w.heap.size A L) (hn : L.length ≤ 140737488351232) :
    Calls Try.prog 24 #[.slice A L.length c, .int .i64 t] w fun e w' => ∃ v, e = .returned v ∧ IO w' w.heap.size v (comeR L t) ∧ Below w.heap.size w w' := by
  have hbl := busyP_len L
  have KB := Lib.hid (c_busyPeriods L A c w hA hn)
  by_cases hp : perOk L t = true
  · have HV := Lib.hid (comeR_yes hp)
    obtain ⟨n, rfl, hnl, h⟩ := perOk_nat hp
    have hr : decide ((0 : Int) ≤ (n : Int) ∧ (n : Int) ≤ ((busyP L).length : Int) - 1) = true := hp
    have hrg := (busyP_inv h).rng n hnl
    have hlen := cOk_len h
    generalize busyP L = B at HV hnl hr hbl KB hrg
    have hev : ((n : Int)).toNat = n := by simp
    rw [hev] at HV
    have HR := Lib.hid (fun W => by have K := c_within (n : Int) 0 ((B.length : Int) - 1) W; rw [hr] at K; exact K)
    clear hp h hev hr
    go_enter Try.func24, Try.ntmps24
    go_wp2_with fail
    refine KB.out.mono ?_
    rintro e w1 ⟨v1, rfl, o1, hb1⟩
    have hs1 := hb1.size
    obtain ⟨O, oc, rfl, hO⟩ := o1.form
    obtain ⟨g0, rfl, hg0, hg0lt, hcl, -⟩ := hO (by omega)
    obtain ⟨d0, d1⟩ := hcl n hnl
    clear hO hcl o1 KB
    go_wp2_with fail
    refine (HR.out _).mono ?_
    rintro e w' ⟨rfl, rfl⟩
    go_wp2_with fail
    go_loopw [6, 19] (fun o i wr => ∃ k : Nat, k ≤ L.length ∧ i = .int .i64 k ∧ IO wr w1.heap.size o (placesTo L (X B n) (Y B n) k) ∧ Below w1.heap.size w1 wr)
      (fun _ i _ => L.length - (intOf i).toNat)
    case atStart => exact ⟨0, by omega, rfl, IO.nil _ _, Below.refl _ _⟩
    case round =>
      obtain ⟨k, hk, rfl, hown, hb⟩ := hrel
      have hsz := hb.size
      by_cases hlt : k < L.length
      · obtain ⟨b, off, rfl, hlb, hc⟩ := hA (by omega)
        have hbw := hb1.trans (hb.mono hs1)
        have c1 := (hbw.cell (p := ⟨b, off + k * 2, none⟩) hlb).trans (hc k hlt).1
        have c2 := (hbw.cell (p := ⟨b, off + k * 2 + 1, none⟩) hlb).trans (hc k hlt).2
        have p1 : (0 : Int) ≤ (k : Int) := by omega
        have p2 : (k : Int) < (L.length : Int) := by omega
        have p3 : (0 : Int) ≤ (n : Int) := by omega
        have p4 : (n : Int) < (B.length : Int) := by omega
        clear hc
        have bB0 := heap_alloc_new wr (.cells #[.int .i64 (X L k), .int .i64 (Y L k)] 38)
        have hba : Below wr.heap.size wr (wr.alloc (.cells #[.int .i64 (X L k), .int .i64 (Y L k)] 38)) := (Below.refl _ wr).alloc (Nat.le_refl _) _
        have hs2 : (wr.alloc (.cells #[.int .i64 (X L k), .int .i64 (Y L k)] 38)).heap.size = wr.heap.size + 1 := by simp
        have e0 := WB.cell (w := wr.alloc (.cells #[.int .i64 (X L k), .int .i64 (Y L k)] 38)) (B := wr.heap.size + 1) (show g0 < wr.heap.size + 1 by omega) ((hba.cell (p := ⟨g0, n * 2, none⟩) (show g0 < wr.heap.size by omega)).trans ((hb.cell (p := ⟨g0, n * 2, none⟩) hg0lt).trans d0))
        have e1 := WB.cell (w := wr.alloc (.cells #[.int .i64 (X L k), .int .i64 (Y L k)] 38)) (B := wr.heap.size + 1) (show g0 < wr.heap.size + 1 by omega) ((hba.cell (p := ⟨g0, n * 2 + 1, none⟩) (show g0 < wr.heap.size by omega)).trans ((hb.cell (p := ⟨g0, n * 2 + 1, none⟩) hg0lt).trans d1))
        have e2 := WB.cell (w := wr.alloc (.cells #[.int .i64 (X L k), .int .i64 (Y L k)] 38)) (B := wr.heap.size + 1) (b := wr.heap.size) (o := 0) (v := .int .i64 (X L k)) (by omega) (by simp [cell_of_row _ wr.heap.size 0 _ _ _ bB0])
        by_cases hin : X B n ≤ X L k ∧ X L k ≤ Y B n - 1
        · have hd : decide (X B n ≤ X L k ∧ X L k ≤ Y B n - 1) = true := decide_eq_true hin
          have E := Lib.hid (show placesTo L (X B n) (Y B n) (k + 1) = placesTo L (X B n) (Y B n) k ++ [(k : Int)] by simp only [placesTo]; rw [if_pos hin])
          have HK := Lib.hid (fun W => by have K := c_has (X B n) (Y B n) (X L k) W (by omega); rw [hd] at K; exact K)
          clear hin hd
          go_wp2_with fail
          refine wp_region_wb (wr.heap.size + 1) (by kernel_rfl) (by kernel_rfl) ?_
          repeat (go_big_quiet_step ((go_at_call 55; exact Calls.inB (Nat.le_of_eq hs2.symm) (HK.out _))))
          refine wpQuiet_nil ?_
          rintro w5 ⟨⟨_, hb5⟩, rfl⟩
          have hbx : Below wr.heap.size wr w5 := hba.trans (hb5.mono (by omega))
          have own5 := hown.below hbx (Nat.le_refl _)
          have hz5 := hbx.size
          have q5 : (placesTo L (X B n) (Y B n) k).length ≤ 1000000000000 := by have := placesTo_len (L := L) (b := X B n) (e := Y B n) k; omega
          have HU := Lib.hid (And.intro q5 (And.intro (show w1.heap.size ≤ w5.heap.size by omega) (And.intro own5 (hb.trans (hbx.mono hsz)))))
          clear q5 own5 hbx hba hb5 e0 e1 e2 hbw hb
          go_wp2_with (refine app_I ?_ (.tmp 31) (.tmp 33) ?_ w1.heap.size u6 (placesTo L (X B n) (Y B n) k) (k : Int) w5.heap.size ?_ ?_ ?_ ?_ ?_ ?_ ?_; rfl; rfl; rfl; exact (HU.out.2.2.1.alloc _); rfl; exact (heap_alloc_new _ _); exact HU.out.1; exact (Nat.le_trans HU.out.2.1 (by simp)); intro g7 cap w7 hown7 hgr7 hb7)
          go_roundw
          case rel => exact ⟨k + 1, by omega, by go_num, by rw [E.out]; exact hown7, (HU.out.2.2.2.alloc HU.out.2.1 _).trans hb7⟩
          case measure => simp [intOf]; omega
        · have hd : decide (X B n ≤ X L k ∧ X L k ≤ Y B n - 1) = false := decide_eq_false hin
          have E := Lib.hid (show placesTo L (X B n) (Y B n) (k + 1) = placesTo L (X B n) (Y B n) k by simp only [placesTo]; rw [if_neg hin])
          have HK := Lib.hid (fun W => by have K := c_has (X B n) (Y B n) (X L k) W (by omega); rw [hd] at K; exact K)
          clear hin hd
          go_wp2_with fail
          refine wp_region_wb (wr.heap.size + 1) (by kernel_rfl) (by kernel_rfl) ?_
          repeat (go_big_quiet_step ((go_at_call 55; exact Calls.inB (Nat.le_of_eq hs2.symm) (HK.out _))))
          refine wpQuiet_nil ?_
          rintro w5 ⟨⟨_, hb5⟩, rfl⟩
          have hbx : Below wr.heap.size wr w5 := hba.trans (hb5.mono (by omega))
          have own5 := hown.below hbx (Nat.le_refl _)
          have HU := Lib.hid (And.intro own5 (hb.trans (hbx.mono hsz)))
          clear own5 hbx hba hb5 e0 e1 e2 hbw hb
          go_wp2_with fail
          go_roundw
          case rel => exact ⟨k + 1, by omega, by go_num, by rw [E.out]; exact HU.out.1, HU.out.2⟩
          case measure => simp [intOf]; omega
      · have hlf : ¬ ((k : Int) < (L.length : Int)) := by omega
        go_wp2_with fail
        go_ret
        refine ⟨_, rfl, ?_, hb1.trans (hb.mono hs1)⟩
        rw [HV.out, places, show L.length = k by omega]
        exact hown.mono hs1
  · have hpn : perOk L t = false := by simpa using hp
    have HV := Lib.hid (comeR_no hpn)
    have hr : decide (0 ≤ t ∧ t ≤ ((busyP L).length : Int) - 1) = false := hpn
    generalize busyP L = B at hr hbl KB
    have HR := Lib.hid (fun W => by have K := c_within t 0 ((B.length : Int) - 1) W; rw [hr] at K; exact K)
    clear hp hpn hr
    go_enter Try.func24, Try.ntmps24
    go_wp2_with fail
    refine KB.out.mono ?_
    rintro e w1 ⟨v1, rfl, o1, hb1⟩
    obtain ⟨O, oc, rfl, -⟩ := o1.form
    clear o1 KB
    go_wp2_with fail
    refine (HR.out _).mono ?_
    rintro e w' ⟨rfl, rfl⟩
    go_wp2_with fail
    go_ret
    exact ⟨_, rfl, by rw [HV.out]; exact IO.nil _ _, hb1⟩

end Go.Proofs.Ytjjncpimelpfiaa

