/- walks of the laws of chapter 2, second part: FnIdleUntil, FnNeedingMore -/
import Derived.Test.YtkkglpohmeehlaaW5
namespace Go.Proofs.Ytkkglpohmeehlaa
set_option linter.unusedVariables false
open Go.RowKit
attribute [local go_sem ↓] Go.wp_at_zero Go.wp_at_succ

theorem moreOk_parts {L : List (Int × Int)} {t : Int} (h : moreOk L t = true) : placeOk L t = true ∧ cOk (moreL L t.toNat) = true := by simpa [moreOk] using h

set_option maxHeartbeats 4000000 in
theorem w_FnIdleUntil (A : Option Addr) (n c : Nat) (w : World) (h : Bs w w.heap.size A n) (hc : n ≤ c) :
    Calls Try.prog 6 #[.slice A n c] w fun e w' => e = .returned (.bool true) ∧ Below w.heap.size w w' := by
  by_cases hn : n ≤ 1048576
  · go_enter Try.func6, Try.ntmps6
    go_wp2_with fail
    refine (c_DrawIdleUntil A n c _ h hn hc).mono ?_
    rintro e w1 ⟨L, v, rfl, hv, hl, -, hb1⟩
    obtain ⟨B, d, rfl, hd1, hd2, hB⟩ := hv.form
    have hs1 := hb1.size
    clear hv
    go_wp2_with fail
    refine (c_iIdleUntil L B d _ hB (by omega)).mono ?_
    rintro e w2 ⟨rfl, hb2⟩
    have k2 := hb1.trans (hb2.mono hs1)
    have hs2 := k2.size
    have hB2 := (hB.below hb2).more hb2.size
    clear hb1 hb2 hB
    go_wp2_with fail
    refine (c_sIdleUntil L B d _ hB2 (by omega)).mono ?_
    rintro e w3 ⟨rfl, hb3⟩
    have k3 := k2.trans (hb3.mono hs2)
    have hs3 := k3.size
    have hB3 := (hB2.below hb3).more hb3.size
    clear k2 hb3 hB2
    by_cases hok : cOk L = true
    · have HV := Lib.hid (idleV_yes hok)
      have hib := idleTo_bd hok L.length (Nat.le_refl _)
      rw [HV.out]
      by_cases hL : L.length = 0
      · have hL' : L = [] := List.eq_nil_of_length_eq_zero hL
        subst hL'
        have hz : idleTo [] ([] : List (Int × Int)).length = 0 := rfl
        rw [hz]
        clear hz hib
        go_wp2_with fail
        refine (c_alive _).mono ?_
        rintro e w6 ⟨rfl, hb6⟩
        go_wp2_with fail
        go_ret
        exact ⟨rfl, k3.trans (hb6.mono hs3)⟩
      · have hLb : ((L.length : Int) == 0) = false := beq_eq_false_iff_ne.2 (by omega)
        have hp : 0 < L.length := by omega
        have hfst := idleTo_first (L := L) L.length (by omega)
        have Hbd := Lib.hid (fun k => @cOk_bd L k hok)
        have Hsb := Lib.hid (sumTo_bd hok)
        have Hib := Lib.hid (idleTo_bd hok)
        have hlen := cOk_len hok
        have Hnd := Lib.hid (fun k => @needOf_take L k hok)
        have Htl := Lib.hid (fun k => @len_take L k)
        have HmL := Lib.hid (idleTo_moreLast (L := L) (n := L.length - 1) (by omega))
        have Hok := Lib.hid hok
        clear hL hok
        have hlb0 : idleTo L L.length ≥ 0 := hib.1
        go_wp2_with fail
        go_loopw [5, 6] (fun b i wr => ∃ k : Nat, k ≤ L.length ∧ i = .int .i64 k ∧ b = .int .i64 (idleTo L k) ∧ Below w3.heap.size w3 wr) (fun _ i _ => L.length - (intOf i).toNat)
        case atStart => exact ⟨0, Nat.zero_le _, rfl, rfl, Below.refl _ _⟩
        case round =>
          obtain ⟨k, hk, rfl, rfl, hb⟩ := hrel
          have hsz := hb.size
          by_cases hlt : k < L.length
          · have bd := Hbd.out k hlt
            have b1 := Hsb.out k (by omega)
            have b2 := Hib.out k (by omega)
            have hBk := (hB3.below hb).more hsz
            have K := fun W (hW : Cs W W.heap.size B L) => c_iNeedOf (L.take k) B d W (hW.take k) (by rw [Htl.out k (by omega)]; omega)
            rw [Htl.out k (by omega), Hnd.out k (by omega)] at K
            have HK := Lib.hid K; clear K
            have hBk' := hBk
            obtain ⟨b, off, rfl, hlb, hcl⟩ := hBk (by omega)
            have c1 := WB.cell hlb (hcl k hlt).1
            clear hcl
            have p1 : (0 : Int) ≤ (k : Int) := by omega
            have p2 : (k : Int) < (L.length : Int) := by omega
            have p3 : (k : Int) ≤ (d : Int) := by omega
            have q9 : decide ((k : Int) < 0) = false := by simp
            go_wp2_with fail
            have q7 : IntKind.i64.wrap (X L k - sumTo L k) = X L k - sumTo L k := IntWalk.i64_in _ (by omega)
            refine wp_region_wb wr.heap.size (by kernel_rfl) (by kernel_rfl) ?_
            repeat (go_big_quiet_step ((go_at_call 27; exact Calls.inB (Nat.le_refl _) (HK.out _ (WB.cs _ hBk' (Nat.le_refl _))))))
            refine wpQuiet_nil ?_
            rintro _ ⟨⟨w5, hb5⟩, rfl⟩
            clear q7
            have hb7 := hb.trans (hb5.mono hsz)
            go_wp2_with fail
            go_roundw
            case rel => exact ⟨k + 1, by omega, by go_num, by simp only [idleTo]; congr 1; split <;> omega, hb7⟩
            case measure => simp [intOf]; omega
          · have hke : idleTo L k = idleTo L L.length := by rw [show k = L.length by omega]
            rw [hke]
            clear hke
            have hlf : ¬ ((k : Int) < (L.length : Int)) := by omega
            have k4 := k3.trans (hb.mono hs3)
            have hs4 := k4.size
            have hB4 := (hB3.below hb).more hsz
            go_wp2_with fail
            refine (c_iNeedingMore L B d ((L.length : Int) - 1) _ hB4 (by omega)).mono ?_
            rintro e w5 ⟨v5, rfl, o5, hb5⟩
            simp only [laterV]
            have k5 := k4.trans (hb5.mono hs4)
            have hs5 := k5.size
            obtain ⟨b, off, rfl, hlb, hcl⟩ := (hB4.below hb5) (by omega)
            have c1 := (hcl 0 hp).1
            rw [Nat.zero_mul, Nat.add_zero] at c1
            clear hcl
            have p1 : (0 : Int) < (L.length : Int) := by omega
            obtain ⟨G, g, rfl, hg1, hg2, hG⟩ := o5.form
            by_cases hm : moreOk L ((L.length : Int) - 1) = true
            · have HM := Lib.hid hm
              have et : ((L.length : Int) - 1).toNat = L.length - 1 := by omega
              have hq := (moreOk_parts hm).2
              rw [et] at hq
              have hR := moreR_yes hm
              rw [et] at hR
              have hN : idleV (moreL L (L.length - 1)) = idleTo L L.length := by rw [idleV_yes hq, moreL_len, HmL.out]
              have HN := Lib.hid hN
              have K := c_iIdleUntil (moreL L (L.length - 1)) G g w5 (by rw [← hR]; exact hG) (by rw [moreL_len]; omega)
              rw [moreL_len, HN.out] at K
              have HK := Lib.hid K
              rw [hR, moreL_len, HM.out]
              clear hm et hq hR hN K hG hg1 hg2 o5
              go_wp2_with fail
              refine HK.out.mono ?_
              rintro e w6 ⟨rfl, hb6⟩
              go_wp2_with fail
              go_ret
              exact ⟨rfl, k5.trans (hb6.mono hs5)⟩
            · have hm' : moreOk L ((L.length : Int) - 1) = false := by simpa using hm
              have HM := Lib.hid hm'
              rw [HM.out]
              clear hm hm' hG hg1 hg2 o5
              go_wp2_with fail
              go_ret
              exact ⟨rfl, k5⟩
    · have hno : cOk L = false := by simpa using hok
      have HN := Lib.hid (idleV_no hno)
      clear hok hno
      rw [HN.out]
      go_wp2_with fail
      refine (c_alive _).mono ?_
      rintro e w6 ⟨rfl, hb6⟩
      go_wp2_with fail
      go_ret
      exact ⟨rfl, k3.trans (hb6.mono hs3)⟩
  · go_enter Try.func6, Try.ntmps6
    go_wp2
    go_ret
    exact ⟨rfl, Below.refl _ _⟩

end Go.Proofs.Ytkkglpohmeehlaa

