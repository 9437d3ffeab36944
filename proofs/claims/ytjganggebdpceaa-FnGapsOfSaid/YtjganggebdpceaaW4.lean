/- walks of the laws of chapter 1, fourth part: FnGapsOf -/
import Derived.Test.YtjganggebdpceaaW3
import Derived.Test.YtjganggebdpceaaV2
import Derived.Test.YtjganggebdpceaaR2
namespace Go.Proofs.Ytjganggebdpceaa
set_option linter.unusedVariables false
open Go.RowKit
attribute [local go_sem ↓] Go.wp_at_zero Go.wp_at_succ

theorem gsum_bd {L : List (Int × Int)} (h : cOk L = true) {k : Nat} (hk : k < L.length) : 0 ≤ gsum (gapsTo L L.length) k ∧ gsum (gapsTo L L.length) k ≤ 60 := by
  rw [gsum_gaps L.length (Nat.le_refl _) k hk]
  have := cOk_bd h hk
  have := cOk_bd h (k := 0) (by omega)
  have := cOk_mono h (i := 0) (j := k) (by omega) hk
  omega

set_option maxHeartbeats 4000000 in
theorem w_FnGapsOf (A : Option Addr) (n c : Nat) (w : World) (h : Bs w w.heap.size A n) (hc : n ≤ c) :
    Calls Try.prog 6 #[.slice A n c] w fun e w' => e = .returned (.bool true) ∧ Below w.heap.size w w' := by
  by_cases hn : n ≤ 1048576
  · go_enter Try.func6, Try.ntmps6
    go_wp2_with fail
    refine (c_DrawGapsOf A n c _ h hn hc).mono ?_
    rintro e w1 ⟨L, v, rfl, hv, hl, -, hb1⟩
    obtain ⟨B, d, rfl, hd1, hd2, hB⟩ := hv.form
    have hs1 := hb1.size
    clear hv
    go_wp2_with fail
    refine (c_iGapsOf L B d _ hB (by omega)).mono ?_
    rintro e w2 ⟨v2, rfl, o2, hb2⟩
    have k2 := hb1.trans (hb2.mono hs1)
    have hs2 := k2.size
    have hB2 := (hB.below hb2).more hb2.size
    obtain ⟨G, g, rfl, hg1, hg2, hG⟩ := o2.form
    clear hb1 hb2 hB o2
    go_wp2_with fail
    refine (c_sGapsOf L B d _ hB2 (by omega)).mono ?_
    rintro e w3 ⟨v3, rfl, o3, hb3⟩
    have k3 := k2.trans (hb3.mono hs2)
    have hs3 := k3.size
    have hB3 := (hB2.below hb3).more hb3.size
    have hG3 := (hG.below hb3).more hb3.size
    obtain ⟨G3, g3, rfl, -, -, hG3'⟩ := o3.form
    clear k2 hb3 hB2 o3 hG
    go_wp2_with fail
    refine (c_sameInts (gaps L) G G3 _ _ g g3 _ hG3 hG3' (by have := gaps_len L; omega)).mono ?_
    rintro e w4 ⟨rfl, hb4⟩
    have k4 := k3.trans (hb4.mono hs3)
    have hs4 := k4.size
    have hB4 := (hB3.below hb4).more hb4.size
    have hG4 := (hG3.below hb4).more hb4.size
    clear k3 hb4 hB3 hG3 hG3'
    go_wp2_with fail
    refine (c_sCustomersOk L B d _ hB4 (by omega)).mono ?_
    rintro e w5 ⟨rfl, hb5⟩
    have k5 := k4.trans (hb5.mono hs4)
    have hs5 := k5.size
    have hB5 := (hB4.below hb5).more hb5.size
    have hG5 := (hG4.below hb5).more hb5.size
    clear k4 hb5 hB4 hG4
    by_cases hok : cOk L = true
    · have hgl : (gaps L).length = L.length - 1 := by rw [gaps_yes hok, gapsTo_len]
      by_cases hL : L.length = 0
      · have hLb : ((L.length : Int) == 0) = true := beq_iff_eq.2 (by omega)
        have Hok := Lib.hid hok; clear hok
        rw [Hok.out]
        have hgl0 : (gaps L).length = 0 := by omega
        rw [hgl0]
        clear hgl hgl0
        go_wp2_with fail
        refine (c_alive _).mono ?_
        rintro e w6 ⟨rfl, hb6⟩
        go_wp2_with fail
        go_ret
        exact ⟨rfl, k5.trans (hb6.mono hs5)⟩
      · have hLb : ((L.length : Int) == 0) = false := beq_eq_false_iff_ne.2 (by omega)
        have Hbd := Lib.hid (fun k => @gsum_bd L hok k)
        have Hgg := Lib.hid (gaps_yes hok)
        have Hsum := Lib.hid (gsum_gaps (L := L) L.length (Nat.le_refl _) (L.length - 1) (by omega))
        have Hlat := Lib.hid (fun t => @gaps_later L t)
        have x0 := cOk_bd hok (k := 0) (by omega)
        have x1 := cOk_bd hok (k := L.length - 1) (by omega)
        have Hok := Lib.hid hok; clear hok
        have Hgl := Lib.hid hgl
        rw [Hok.out]
        go_wp2_with fail
        go_loop [5, 6] (fun s i => ∃ k : Nat, k ≤ (gaps L).length ∧ i = .int .i64 k ∧ s = .int .i64 (gsum (gaps L) k)) (fun _ i => (gaps L).length - (intOf i).toNat)
        case atStart => exact ⟨0, Nat.zero_le _, rfl, rfl⟩
        case round =>
          obtain ⟨k, hk, rfl, rfl⟩ := hrel
          by_cases hlt : k < (gaps L).length
          · obtain ⟨b, off, rfl, hlb, hcc⟩ := hG5 (by omega)
            have c1 := hcc k hlt
            have y1 := Hbd.out k (by omega)
            have y2 := Hbd.out (k + 1) (by omega)
            rw [← Hgg.out] at y1 y2
            simp only [gsum] at y2
            have E := Lib.hid (show gsum (gaps L) (k + 1) = gsum (gaps L) k + Z (gaps L) k from rfl)
            change 0 ≤ gsum (gaps L) k + Z (gaps L) k ∧ gsum (gaps L) k + Z (gaps L) k ≤ 60 at y2
            clear hcc
            go_wp2_with fail
            go_round
            case rel => exact ⟨k + 1, by omega, by go_num, by rw [E.out]⟩
            case measure => simp [intOf]; omega
          · obtain rfl : k = (gaps L).length := by omega
            go_wp2_with fail
            refine (c_iLaterBy L B d 3 _ hB5 (by omega)).mono ?_
            rintro e w6 ⟨v6, rfl, o6, hb6⟩
            simp only [laterV]
            have k6 := k5.trans (hb6.mono hs5)
            have hs6 := k6.size
            have hB6 := (hB5.below hb6).more hb6.size
            have hG6 := (hG5.below hb6).more hb6.size
            obtain ⟨P, p, rfl, hp1, hp2, hP⟩ := o6.form
            clear k5 hb6 hB5 hG5 o6
            obtain ⟨b, off, rfl, hlb, hcl⟩ := hB6 (by omega)
            have c1 := (hcl (L.length - 1) (by omega)).1
            have c2 := (hcl 0 (by omega)).1
            rw [Nat.zero_mul, Nat.add_zero] at c2
            clear hcl hB6
            have q1 : (((L.length - 1 : Nat) : Int) == (L.length : Int) - 1) = true := beq_iff_eq.2 (by omega)
            have q3 : (gsum (gaps L) (L.length - 1) == X L (L.length - 1) - X L 0) = true := beq_iff_eq.2 (by rw [Hgg.out]; exact Hsum.out)
            have k1 : (0 : Int) ≤ (L.length : Int) - 1 := by omega
            have k2 : (L.length : Int) - 1 < (L.length : Int) := by omega
            have k2' : (1 : Int) ≤ (L.length : Int) := by omega
            have k2'' : 0 < L.length := by omega
            by_cases hlk : laterOk L 3 = true
            · have Hlk := Lib.hid hlk
              have HGL := Lib.hid (Hlat.out 3 hlk)
              clear hlk
              rw [Hlk.out]
              have hsL : (laterR L 3).length ≤ 140737488351232 := by have := laterR_len L 3; omega
              have hsG : (gaps L).length ≤ 140737488351232 := by have := gaps_len L; omega
              have K1 := fun W (hW : Cs W W.heap.size P (laterR L 3)) => c_iGapsOf (laterR L 3) P p W hW hsL
              rw [HGL.out] at K1
              have HK1 := Lib.hid K1
              have K2 := fun Q q W (h : Is W W.heap.size Q (gaps L)) (h' : Is W W.heap.size G (gaps L)) => c_sameInts (gaps L) Q G _ _ q g W h h' hsG
              simp only [hgl] at K2
              have HK2 := Lib.hid K2
              clear K1 K2
              go_wp2_with fail
              have q6 : ((L.length : Int) - 1).toNat = L.length - 1 := by omega
              have q7 : IntKind.i64.wrap (X L (L.length - 1) - X L 0) = X L (L.length - 1) - X L 0 := IntWalk.i64_in _ (by omega)
              have q8 : IntKind.i64.wrap ((L.length : Int) - 1) = (L.length : Int) - 1 := IntWalk.i64_in _ (by omega)
              go_region_held3 (fun w' => w'.cell? ⟨b, off + (L.length - 1) * 2, none⟩ = some (.int .i64 (X L (L.length - 1))) ∧ w'.cell? ⟨b, off, none⟩ = some (.int .i64 (X L 0)))
                (first
                  | exact ⟨c1, c2⟩
                  | exact ⟨(hb7.cell (p := ⟨b, _, none⟩) hlb).trans c1, (hb7.cell (p := ⟨b, _, none⟩) hlb).trans c2⟩
                  | exact ⟨(hb8.cell (p := ⟨b, _, none⟩) (Nat.lt_of_lt_of_le hlb hb7.size)).trans ((hb7.cell (p := ⟨b, _, none⟩) hlb).trans c1), (hb8.cell (p := ⟨b, _, none⟩) (Nat.lt_of_lt_of_le hlb hb7.size)).trans ((hb7.cell (p := ⟨b, _, none⟩) hlb).trans c2)⟩)
                (first
                  | (go_at_call 26; refine (HK1.out _ ?_).mono ?_; (exact hP.below ((Below.refl _ _).drew)); rintro e w7 ⟨v7, rfl, o7, hb7⟩; obtain ⟨Q, q, rfl, _, _, hQ⟩ := o7.form; have hG7 := (hG6.below ((show Below w6.heap.size w6 w6.drew from (Below.refl _ _).drew).trans hb7)).more hb7.size)
                  | (go_at_call 27; refine (HK2.out _ _ _ ?_ ?_).mono ?_; exact hQ; exact hG7; rintro e w8 ⟨rfl, hb8⟩))
              clear q6 q7 q8
              go_wp2_with fail
              go_ret
              exact ⟨rfl, ((k6.drew).trans (hb7.mono hs6)).trans (hb8.mono (Nat.le_trans hs6 hb7.size))⟩
            · have hlk' : laterOk L 3 = false := by simpa using hlk
              have Hlk := Lib.hid hlk'
              clear hlk hlk'
              rw [Hlk.out]
              go_wp2_with fail
              have q6 : ((L.length : Int) - 1).toNat = L.length - 1 := by omega
              have q7 : IntKind.i64.wrap (X L (L.length - 1) - X L 0) = X L (L.length - 1) - X L 0 := IntWalk.i64_in _ (by omega)
              have q8 : IntKind.i64.wrap ((L.length : Int) - 1) = (L.length : Int) - 1 := IntWalk.i64_in _ (by omega)
              have c3 := WB.cell hlb c1
              have c4 := WB.cell hlb c2
              clear c1 c2
              refine wp_region_wb w6.heap.size (by kernel_rfl) (by kernel_rfl) ?_
              repeat (go_big_quiet_step (fail))
              refine wpQuiet_nil ?_
              rintro _ ⟨⟨w7, hb7⟩, rfl⟩
              clear q6 q7 q8
              go_wp2_with fail
              go_ret
              exact ⟨rfl, k6.trans (hb7.mono hs6)⟩
    · have hno : cOk L = false := by simpa using hok
      have Hok := Lib.hid hno
      have hg0 : (gaps L).length = 0 := by rw [gaps_no hno]; rfl
      clear hok hno
      rw [Hok.out, hg0]
      clear hg0
      go_wp2_with fail
      refine (c_alive _).mono ?_
      rintro e w6 ⟨rfl, hb6⟩
      go_wp2_with fail
      go_ret
      exact ⟨rfl, k5.trans (hb6.mono hs5)⟩
  · go_enter Try.func6, Try.ntmps6
    go_wp2
    go_ret
    exact ⟨rfl, Below.refl _ _⟩
end Go.Proofs.Ytjganggebdpceaa
