/- walks of the laws of chapter 2, fourth part: FnWaitsOf -/
import Derived.Test.YtkkglpohmeehlaaW7
import Derived.RegionCalls
namespace Go.Proofs.Ytkkglpohmeehlaa
set_option linter.unusedVariables false
open Go.RowKit
attribute [local go_sem ↓] Go.wp_at_zero Go.wp_at_succ

theorem Is.waitsPre {w : World} {B : Nat} {A : Option Addr} {L : List (Int × Int)} {n m : Nat} (h : Is w B A (waitsTo L n)) (hm : m ≤ n) : Is w B A (waitsTo L m) := by
  intro hp
  rw [waitsTo_len] at hp
  obtain ⟨b, off, rfl, hlb, hc⟩ := h (by rw [waitsTo_len]; omega)
  refine ⟨b, off, rfl, hlb, fun k hk => ?_⟩
  rw [waitsTo_len] at hk
  rw [hc k (by rw [waitsTo_len]; omega), Z_waitsTo hk, Z_waitsTo (by omega)]

set_option maxHeartbeats 4000000 in
theorem w_FnWaitsOf (A : Option Addr) (n c : Nat) (w : World) (h : Bs w w.heap.size A n) (hc : n ≤ c) :
    Calls Try.prog 3 #[.slice A n c] w fun e w' => e = .returned (.bool true) ∧ Below w.heap.size w w' := by
  by_cases hn : n ≤ 1048576
  · go_enter Try.func3, Try.ntmps3
    go_wp2_with fail
    refine (c_DrawWaitsOf A n c _ h hn hc).mono ?_
    rintro e w1 ⟨L, v, rfl, hv, hl, -, hb1⟩
    obtain ⟨B, d, rfl, hd1, hd2, hB⟩ := hv.form
    have hs1 := hb1.size
    clear hv
    go_wp2_with fail
    refine (c_iWaitsOf L B d _ hB (by omega)).mono ?_
    rintro e w2 ⟨v2, rfl, o2, hb2⟩
    have k2 := hb1.trans (hb2.mono hs1)
    have hs2 := k2.size
    have hB2 := (hB.below hb2).more hb2.size
    obtain ⟨G, g, rfl, hg1, hg2, hG⟩ := o2.form
    clear hb1 hb2 hB o2
    go_wp2_with fail
    refine (c_sWaitsOf L B d _ hB2 (by omega)).mono ?_
    rintro e w3 ⟨v3, rfl, o3, hb3⟩
    have k3 := k2.trans (hb3.mono hs2)
    have hs3 := k3.size
    have hB3 := (hB2.below hb3).more hb3.size
    have hG3 := (hG.below hb3).more hb3.size
    obtain ⟨G3, g3, rfl, -, -, hG3'⟩ := o3.form
    clear k2 hb3 hB2 o3 hG
    go_wp2_with fail
    refine (c_sameInts (waits L) G G3 _ _ g g3 _ hG3 hG3' (by have := waits_len L; omega)).mono ?_
    rintro e w4 ⟨rfl, hb4⟩
    have k4 := k3.trans (hb4.mono hs3)
    have hs4 := k4.size
    have hB4 := (hB3.below hb4).more hb4.size
    have hG4 := (hG3.below hb4).more hb4.size
    clear k3 hb4 hB3 hG3 hG3' hg2
    by_cases hok : cOk L = true
    · have HL := Lib.hid (waits_yes hok)
      have HLn := Lib.hid (show (waits L).length = L.length by rw [HL.out, waitsTo_len])
      rw [HLn.out] at hg1 ⊢
      rw [HL.out] at hG4
      by_cases hL : L.length = 0
      · have hLb : ((L.length : Int) == 0) = true := beq_iff_eq.2 (by omega)
        clear hL hok
        go_wp2_with fail
        refine (c_alive _).mono ?_
        rintro e w6 ⟨rfl, hb6⟩
        go_wp2_with fail
        go_ret
        exact ⟨rfl, k4.trans (hb6.mono hs4)⟩
      · have hLb : ((L.length : Int) == 0) = false := beq_eq_false_iff_ne.2 (by omega)
        have hp : 0 < L.length := by omega
        have HVl := Lib.hid (show ∀ k : Nat, k < L.length → lackV L (k : Int) = waitAt L k from fun k hk => by
          rw [lackV_yes (by simp [placeOk, hok]; omega)]; simp)
        have hlen := cOk_len hok
        have Hok := Lib.hid hok
        clear hL hok
        go_wp2_with fail
        go_loopw [5] (fun i wr => ∃ k : Nat, k ≤ L.length ∧ i = .int .i64 k ∧ Below w4.heap.size w4 wr) (fun i _ => L.length - (intOf i).toNat)
        case atStart => exact ⟨0, Nat.zero_le _, rfl, Below.refl _ _⟩
        case round =>
          obtain ⟨k, hk, rfl, hb⟩ := hrel
          have hsz := hb.size
          by_cases hlt : k < L.length
          · have hBk := (hB4.below hb).more hsz
            obtain ⟨gb, go, rfl, hgb, hgc⟩ := (hG4.below hb) (by rw [waitsTo_len]; omega)
            have c1 := hgc k (by rw [waitsTo_len]; omega)
            rw [Z_waitsTo hlt] at c1
            have c2 := WB.cell (B := wr.heap.size) (show gb < wr.heap.size by omega) c1
            have K := fun W (hW : Cs W W.heap.size B L) => c_iGreatestLack L B d (k : Int) W hW (by omega)
            rw [HVl.out k hlt] at K
            have HK := Lib.hid K
            clear K c1 hgc
            have p1 : (0 : Int) ≤ (k : Int) := by omega
            have p2 : (k : Int) < (L.length : Int) := by omega
            go_wp2_with fail
            refine wp_region_wb wr.heap.size (by kernel_rfl) (by kernel_rfl) ?_
            repeat (go_big_quiet_step ((go_at_call 19; exact Calls.inB (Nat.le_refl _) (HK.out _ (WB.cs _ hBk (Nat.le_refl _))))))
            refine wpQuiet_nil ?_
            rintro _ ⟨⟨w5, hb5⟩, rfl⟩
            have hb7 := hb.trans (hb5.mono hsz)
            go_wp2_with fail
            go_roundw
            case rel => exact ⟨k + 1, by omega, by go_num, hb7⟩
            case measure => simp [intOf]; omega
          · have hlf : ¬ ((k : Int) < (L.length : Int)) := by omega
            have k5 := k4.trans (hb.mono hs4)
            have hs5 := k5.size
            have hB5 := (hB4.below hb).more hsz
            have hG5 := (hG4.below hb).more hsz
            clear hB4 hG4 hb hsz k4 hs4
            go_wp2_with fail
            refine (c_iLaterBy L B d 5 _ hB5 (by omega)).mono ?_
            rintro e w6 ⟨v6, rfl, o6, hb6⟩
            simp only [laterV]
            have k6 := k5.trans (hb6.mono hs5)
            have hs6 := k6.size
            have hB6 := (hB5.below hb6).more hb6.size
            have hG6 := (hG5.below hb6).more hb6.size
            obtain ⟨R, r, rfl, hr1, hr2, hR⟩ := o6.form
            clear k5 hb6 hB5 hG5 o6 hr1 hr2
            have Htl := Lib.hid (len_take (L := L) (n := L.length - 1) (by omega))
            have HWt := Lib.hid (waits_take Hok.out (n := L.length - 1) (by omega))
            have K1 := fun W (hW : Cs W W.heap.size B L) => c_iWaitsOf (L.take (L.length - 1)) B d W (hW.take _) (by rw [Htl.out]; omega)
            rw [Htl.out, HWt.out] at K1
            have HK1 := Lib.hid K1
            have K2 := fun (P : Option Addr) (p : Nat) W (hP : Is W W.heap.size P (waitsTo L (L.length - 1))) (hQ : Is W W.heap.size G (waitsTo L L.length)) => c_sameInts (waitsTo L (L.length - 1)) P G _ _ p g W hP (hQ.waitsPre (by omega)) (by rw [waitsTo_len]; omega)
            rw [waitsTo_len] at K2
            have HK2 := Lib.hid K2
            have p0 : (1 : Int) ≤ (L.length : Int) := by omega
            have p1 : (0 : Int) ≤ (L.length : Int) - 1 := by omega
            have p2 : (L.length : Int) - 1 ≤ (d : Int) := by omega
            have p3 : (L.length : Int) - 1 ≤ (g : Int) := by omega
            clear K1 K2
            by_cases hlo : laterOk L 5 = true
            · have HWr := Lib.hid ((waits_later hlo).trans HL.out)
              have hrl : (laterR L 5).length = L.length := by rw [laterR_yes hlo, laterL_len]
              have K3 := fun W (hW : Cs W W.heap.size R (laterR L 5)) => c_iWaitsOf (laterR L 5) R r W hW (by rw [hrl]; omega)
              rw [hrl, HWr.out] at K3
              have HK3 := Lib.hid K3
              have K4 := fun (P : Option Addr) (p : Nat) W (hP : Is W W.heap.size P (waitsTo L L.length)) (hQ : Is W W.heap.size G (waitsTo L L.length)) => c_sameInts (waitsTo L L.length) P G _ _ p g W hP hQ (by rw [waitsTo_len]; omega)
              rw [waitsTo_len] at K4
              have HK4 := Lib.hid K4
              rw [hlo, hrl]
              clear hlo hrl K3 K4
              go_wp2_with fail
              have q6 : ((L.length : Int) - 1).toNat = L.length - 1 := by omega
              have q9 : decide ((L.length : Int) - 1 < 0) = false := by simp; omega
              have hd : Below w6.heap.size w6 w6.drew := (Below.refl _ _).drew
              go_region_with (first
                | (go_at_call_of 14 B
                   refine (HK1.out _ ((hB6.below hd).more hd.size)).mono ?_
                   rintro e w7 ⟨v7, rfl, o7, hb7⟩
                   obtain ⟨P, p, rfl, hp1, -, hP⟩ := o7.form
                   rw [waitsTo_len] at hp1 ⊢
                   have hk7 := hd.trans (hb7.mono hd.size))
                | (go_at_call_of 15 P
                   refine (HK2.out P p _ hP ((hG6.below hk7).more hk7.size)).mono ?_
                   rintro e w8 ⟨rfl, hb8⟩
                   have hk8 := hk7.trans (hb8.mono hk7.size))
                | (go_at_call_of 14 R
                   refine (HK3.out _ ((hR.below hk8).more hk8.size)).mono ?_
                   rintro e w9 ⟨v9, rfl, o9, hb9⟩
                   obtain ⟨P2, p2, rfl, hp2, -, hP2⟩ := o9.form
                   rw [waitsTo_len] at hp2 ⊢
                   have hk9 := hk8.trans (hb9.mono hk8.size))
                | (go_at_call_of 15 P2
                   refine (HK4.out P2 p2 _ hP2 ((hG6.below hk9).more hk9.size)).mono ?_
                   rintro e w10 ⟨rfl, hb10⟩
                   have hk10 := hk9.trans (hb10.mono hk9.size)))
              go_wp2_with fail
              go_ret
              exact ⟨rfl, k6.trans (hk10.mono hs6)⟩
            · have hlo' : laterOk L 5 = false := by simpa using hlo
              rw [hlo']
              clear hlo hlo' hR
              go_wp2_with fail
              have q6 : ((L.length : Int) - 1).toNat = L.length - 1 := by omega
              have q9 : decide ((L.length : Int) - 1 < 0) = false := by simp; omega
              have hd : Below w6.heap.size w6 w6.drew := (Below.refl _ _).drew
              refine wp_region_any (by kernel_rfl) ?_
              change wpAny _ _ _ _ _ _ _ (World.drew _)
              refine wpAny_take (i := 0) (v := ?_) rfl (by kernel_rfl) (by kernel_rfl) (by kernel_rfl) (fun _ _ _ h => h) (Or.inl ⟨?_, ?_⟩) ?_
              rotate_left
              · go_simp
              · (intro w; go_simp) <;> (with_reducible rfl)
              refine wpAny_take (i := 1) (v := ?_) rfl (by kernel_rfl) (by kernel_rfl) (by kernel_rfl) (fun _ _ _ h => h) (Or.inl ⟨?_, ?_⟩) ?_
              rotate_left
              · go_simp
              · (intro w; go_simp) <;> (with_reducible rfl)
              refine wpAny_take (i := 2) (v := ?_) rfl (by kernel_rfl) (by kernel_rfl) (by kernel_rfl) (fun _ _ _ h => h) (Or.inl ⟨?_, ?_⟩) ?_
              rotate_left
              · go_simp
              · (intro w; go_simp) <;> (with_reducible rfl)
              refine wpAny_take (i := 4) (v := ?_) rfl (by kernel_rfl) (by kernel_rfl) (by kernel_rfl) (fun _ _ _ h => h) (Or.inl ⟨?_, ?_⟩) ?_
              rotate_left
              · go_simp
              · (intro w; go_simp) <;> (with_reducible rfl)
              refine wpAny_take (i := 5) (v := ?_) rfl (by kernel_rfl) (by kernel_rfl) (by kernel_rfl) (fun _ _ _ h => h) (Or.inl ⟨?_, ?_⟩) ?_
              rotate_left
              · go_simp
              · (intro w; go_simp) <;> (with_reducible rfl)
              refine wpAny_take (i := 6) (v := ?_) rfl (by kernel_rfl) (by kernel_rfl) (by kernel_rfl) (fun _ _ _ h => h) (Or.inl ⟨?_, ?_⟩) ?_
              rotate_left
              · go_simp
              · (intro w; go_simp) <;> (with_reducible rfl)
              refine wpAny_ready (rs := [3]) (by kernel_rfl) (by simp) ?_
              refine AllReady.cons rfl (fun K hK => ?_) AllReady.nil
              go_simp
              refine (HK1.out _ ((hB6.below hd).more hd.size)).mono ?_
              rintro e w7 ⟨v7, rfl, o7, hb7⟩
              obtain ⟨P, p, rfl, hp1, -, hP⟩ := o7.form
              rw [waitsTo_len] at hp1 ⊢
              have hk7 := hd.trans (hb7.mono hd.size)
              go_wp2_with fail
              try (refine hK _ _ ?_; clear hK K)
              refine wpAny_ready (rs := [7]) (by kernel_rfl) (by simp) ?_
              refine AllReady.cons rfl (fun K hK => ?_) AllReady.nil
              go_simp
              refine (HK2.out P p _ hP ((hG6.below hk7).more hk7.size)).mono ?_
              rintro e w8 ⟨rfl, hb8⟩
              have hk8 := hk7.trans (hb8.mono hk7.size)
              go_wp2_with fail
              try (refine hK _ _ ?_; clear hK K)
              refine wpAny_take (i := 8) (v := ?_) rfl (by kernel_rfl) (by kernel_rfl) (by kernel_rfl) (fun _ _ _ h => h) (Or.inl ⟨?_, ?_⟩) ?_
              rotate_left
              · go_simp
              · (intro w; go_simp) <;> (with_reducible rfl)
              refine wpAny_take (i := 9) (v := ?_) rfl (by kernel_rfl) (by kernel_rfl) (by kernel_rfl) (fun _ _ _ h => h) (Or.inl ⟨?_, ?_⟩) ?_
              rotate_left
              · go_simp
              · (intro w; go_simp) <;> (with_reducible rfl)
              refine wpAny_take (i := 10) (v := ?_) rfl (by kernel_rfl) (by kernel_rfl) (by kernel_rfl) (fun _ _ _ h => h) (Or.inl ⟨?_, ?_⟩) ?_
              rotate_left
              · go_simp
              · (intro w; go_simp) <;> (with_reducible rfl)
              refine wpAny_take (i := 11) (v := ?_) rfl (by kernel_rfl) (by kernel_rfl) (by kernel_rfl) (fun _ _ _ h => h) (Or.inl ⟨?_, ?_⟩) ?_
              rotate_left
              · go_simp
              · (intro w; go_simp) <;> (with_reducible rfl)
              refine wpAny_take (i := 12) (v := undef) rfl (by kernel_rfl) (by kernel_rfl) (by kernel_rfl) (fun _ _ _ h => h) (Or.inr ⟨?_, rfl⟩) ?_
              · go_simp
              refine wpAny_take (i := 13) (v := undef) rfl (by kernel_rfl) (by kernel_rfl) (by kernel_rfl) (fun _ _ _ h => h) (Or.inr ⟨?_, rfl⟩) ?_
              · go_simp
              refine wpAny_take (i := 14) (v := undef) rfl (by kernel_rfl) (by kernel_rfl) (by kernel_rfl) (fun _ _ _ h => h) (Or.inr ⟨?_, rfl⟩) ?_
              · go_simp
              refine wpAny_take (i := 15) (v := undef) rfl (by kernel_rfl) (by kernel_rfl) (by kernel_rfl) (fun _ _ _ h => h) (Or.inr ⟨?_, rfl⟩) ?_
              · go_simp
              refine wpAny_take (i := 16) (v := ?_) rfl (by kernel_rfl) (by kernel_rfl) (by kernel_rfl) (fun _ _ _ h => h) (Or.inl ⟨?_, ?_⟩) ?_
              rotate_left
              · go_simp
              · (intro w; go_simp) <;> (with_reducible rfl)
              refine wpAny_take (i := 17) (v := ?_) rfl (by kernel_rfl) (by kernel_rfl) (by kernel_rfl) (fun _ _ _ h => h) (Or.inl ⟨?_, ?_⟩) ?_
              rotate_left
              · go_simp
              · (intro w; go_simp) <;> (with_reducible rfl)
              refine wpAny_take (i := 18) (v := ?_) rfl (by kernel_rfl) (by kernel_rfl) (by kernel_rfl) (fun _ _ _ h => h) (Or.inl ⟨?_, ?_⟩) ?_
              rotate_left
              · go_simp
              · (intro w; go_simp) <;> (with_reducible rfl)
              refine wpAny_done (by kernel_rfl) ?_ _
              go_simp
              go_wp2_with fail
              go_ret
              exact ⟨rfl, k6.trans (hk8.mono hs6)⟩
    · have hno : cOk L = false := by simpa using hok
      have hp := pos_of_not hno
      have hLb : ((L.length : Int) == 0) = false := beq_eq_false_iff_ne.2 (by omega)
      have hl0 : (waits L).length = 0 := by rw [waits_no hno]; rfl
      have H := Lib.hid hno; clear hok hno
      rw [hl0]
      clear hl0 hg1
      go_wp2_with fail
      refine (c_iCustomersOk L B d _ hB4 (by omega)).mono ?_
      rintro e w5 ⟨rfl, hb5⟩
      rw [H.out]
      have k5 := k4.trans (hb5.mono hs4)
      have hs5 := k5.size
      go_wp2_with fail
      refine (c_alive _).mono ?_
      rintro e w6 ⟨rfl, hb6⟩
      go_wp2_with fail
      go_ret
      exact ⟨rfl, k5.trans (hb6.mono hs5)⟩
  · go_enter Try.func3, Try.ntmps3
    go_wp2
    go_ret
    exact ⟨rfl, Below.refl _ _⟩

end Go.Proofs.Ytkkglpohmeehlaa

