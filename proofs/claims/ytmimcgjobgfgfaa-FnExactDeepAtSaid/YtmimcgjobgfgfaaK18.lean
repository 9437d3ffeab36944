/- spec.LeftFor, DeepAt (ahead of the landing) -/
import Derived.Test.YtmimcgjobgfgfaaK17
namespace Go.Proofs.Ytmimcgjobgfgfaa
set_option linter.unusedVariables false
open Go.RowKit
attribute [local go_sem ↓] Go.wp_at_zero Go.wp_at_succ

set_option maxRecDepth 4000 in
set_option maxHeartbeats 4000000 in
theorem c_sLeftFor (L : List (Int × Int)) (A : Option Addr) (c : Nat) (t : Int) (w : World) (hA : Cs w w.heap.size A L) (hn : L.length ≤ 140737488351232) :
    Calls Try.prog 23 #[.slice A L.length c, .int .i64 t] w fun e w' => e = .returned (.int .i64 (leftV L t)) ∧ Below w.heap.size w w' := by
  have HC := Lib.hid (c_sCustomersOk L A c w hA hn)
  have HI := Lib.hid (fun W => c_l1In t 0 ((L.length : Int) - 1) W)
  cases hc : cOk L with
  | true =>
    by_cases ht : 0 ≤ t ∧ t ≤ (L.length : Int) - 1
    · have hd : decide (0 ≤ t ∧ t ≤ (L.length : Int) - 1) = true := decide_eq_true ht
      have hp : placeOk L t = true := by simp only [placeOk, hc, hd, Bool.and_self]
      have HV := Lib.hid (leftV_yes hp)
      obtain ⟨n, rfl, hnl, -⟩ := placeOk_nat hp
      have HIt : Hid (∀ W, Calls Try.prog 46 #[.int .i64 (n : Int), .int .i64 0, .int .i64 ((L.length : Int) - 1)] W fun e w' => e = .returned (.bool true) ∧ W = w') := fun W => by have K := HI.out W; rw [hd] at K; exact K.mono fun _ _ h => ⟨h.1, h.2.symm⟩
      have H := Lib.hid hc
      have hlen := cOk_len hc
      have HBD := Lib.hid (fun k (hk : k < L.length) => cOk_bd hc hk)
      have HPB := Lib.hid (fun k (hk : k < L.length) => perE_bd hc hk)
      have HPK := Lib.hid (fun k (hk : k < L.length) => placeOk_mk hc hk)
      clear hp hd ht hc HI
      go_enter Try.func23, Try.ntmps23
      go_wp2_with fail
      refine HC.out.mono ?_
      rintro e w1 ⟨rfl, hb1⟩
      rw [H.out]
      have hs1 := hb1.size
      clear HC
      go_wp2_with fail
      refine (HIt.out _).mono ?_
      rintro e w' ⟨rfl, rfl⟩
      clear HIt
      go_wp2_with fail
      go_loopw [5] (fun kv wr => ∃ j : Nat, j ≤ n ∧ kv = .int .i64 ((j : Int) - 1) ∧ Hid (leftTo L (X L n) j = leftF L n) ∧ Below w.heap.size w wr) (fun kv _ => (intOf kv + 1).toNat)
      case atStart => exact ⟨n, Nat.le_refl _, rfl, rfl, hb1⟩
      case round =>
        obtain ⟨j, hj, rfl, HL, hb⟩ := hrel
        have hsz := hb.size
        by_cases h0 : 0 < j
        · obtain ⟨k, rfl⟩ : ∃ k, j = k + 1 := ⟨j - 1, by omega⟩
          have ek : ((k + 1 : Nat) : Int) - 1 = (k : Int) := by omega
          have hkl : k < L.length := by omega
          rw [ek]
          obtain ⟨b, off, rfl, hlb, hcc⟩ := hA (by omega)
          have c1 := (hb.cell (p := ⟨b, off + k * 2, none⟩) hlb).trans (hcc k hkl).1
          have c2 := (hb.cell (p := ⟨b, off + n * 2, none⟩) hlb).trans (hcc n hnl).1
          have e1 := WB.cell (B := wr.heap.size) (show b < wr.heap.size by omega) c1
          have e2 := WB.cell (B := wr.heap.size) (show b < wr.heap.size by omega) c2
          have HKP := Lib.hid (fun s : WB wr.heap.size wr => show Calls Try.prog 19 #[.slice (some ⟨b, off, none⟩) L.length c, .int .i64 (k : Int)] s.val fun e w' => e = .returned (.int .i64 (perE L k - X L k)) ∧ Below s.val.heap.size s.val w' from by
            have K := c_sPeriodFrom L (some ⟨b, off, none⟩) c (k : Int) s.val (s.cs ((hA.below hb).more hsz) (Nat.le_refl _)) hn
            rw [perV_yes (HPK.out k hkl), Int.toNat_natCast] at K
            exact K)
          have bk := HBD.out k hkl
          have bp := HPB.out k hkl
          have q1 : IntKind.i64.wrap (X L k + (perE L k - X L k)) = X L k + (perE L k - X L k) := IntWalk.i64_in _ (by omega)
          have p0 : (0 : Int) ≤ (k : Int) := by omega
          have p1 : (k : Int) < (L.length : Int) := by omega
          have p2 : (0 : Int) ≤ (n : Int) := by omega
          have p3 : (n : Int) < (L.length : Int) := by omega
          clear hcc c1 c2 h0 ek
          by_cases hx : X L n < perE L k
          · have d1 : decide (X L n < X L k + (perE L k - X L k)) = true := decide_eq_true (by omega)
            have HR := Lib.hid (show leftF L n = (k : Int) by rw [← HL.out]; simp only [leftTo]; rw [if_pos hx])
            clear hx bk bp
            go_wp2_with fail
            refine wp_region_wb wr.heap.size (by kernel_rfl) (by kernel_rfl) ?_
            repeat (go_big_quiet_step ((go_at_call 19; exact Calls.inB (Nat.le_refl _) (HKP.out _))))
            refine wpQuiet_nil ?_
            rintro w5 ⟨⟨_, hb5⟩, rfl⟩
            have hb6 := hb.trans (hb5.mono hsz)
            clear e1 e2 q1
            go_wp2_with fail
            go_ret
            exact ⟨by rw [HV.out, Int.toNat_natCast, HR.out]; rfl, hb6⟩
          · have d1 : decide (X L n < X L k + (perE L k - X L k)) = false := decide_eq_false (by omega)
            have HR := Lib.hid (show leftTo L (X L n) k = leftF L n by rw [← HL.out]; simp only [leftTo]; rw [if_neg hx])
            clear hx bk bp
            go_wp2_with fail
            refine wp_region_wb wr.heap.size (by kernel_rfl) (by kernel_rfl) ?_
            repeat (go_big_quiet_step ((go_at_call 19; exact Calls.inB (Nat.le_refl _) (HKP.out _))))
            refine wpQuiet_nil ?_
            rintro w5 ⟨⟨_, hb5⟩, rfl⟩
            have hb6 := hb.trans (hb5.mono hsz)
            clear e1 e2 q1
            go_wp2_with fail
            go_roundw
            case rel => exact ⟨k, by omega, by go_num, HR, hb6⟩
            case measure => first | (simp [intOf]; done) | (simp [intOf]; omega)
        · obtain rfl : j = 0 := by omega
          have HR := Lib.hid (show leftF L n = -1 from HL.out.symm)
          clear HL
          go_wp2_with fail
          go_ret
          exact ⟨by rw [HV.out, Int.toNat_natCast, HR.out]; rfl, hb⟩
    · have hd : decide (0 ≤ t ∧ t ≤ (L.length : Int) - 1) = false := decide_eq_false ht
      have HV := Lib.hid (leftV_no (show placeOk L t = false by simp only [placeOk, hd, Bool.and_false]))
      have HIt : Hid (∀ W, Calls Try.prog 46 #[.int .i64 t, .int .i64 0, .int .i64 ((L.length : Int) - 1)] W fun e w' => e = .returned (.bool false) ∧ W = w') := fun W => by have K := HI.out W; rw [hd] at K; exact K.mono fun _ _ h => ⟨h.1, h.2.symm⟩
      have H := Lib.hid hc
      have hlen := cOk_len hc
      clear hd ht hc HI
      go_enter Try.func23, Try.ntmps23
      go_wp2_with fail
      refine HC.out.mono ?_
      rintro e w1 ⟨rfl, hb1⟩
      rw [H.out]
      go_wp2_with fail
      refine (HIt.out _).mono ?_
      rintro e w' ⟨rfl, rfl⟩
      go_wp2_with fail
      go_ret
      exact ⟨by rw [HV.out]; rfl, hb1⟩
  | false =>
    have HV := Lib.hid (leftV_no (show placeOk L t = false by simp only [placeOk, hc, Bool.false_and]))
    have H := Lib.hid hc
    clear hc HI
    go_enter Try.func23, Try.ntmps23
    go_wp2_with fail
    refine HC.out.mono ?_
    rintro e w1 ⟨rfl, hb1⟩
    rw [H.out]
    go_wp2_with fail
    go_ret
    exact ⟨by rw [HV.out]; rfl, hb1⟩

theorem leftV_bd (L : List (Int × Int)) (t : Int) : -2 ≤ leftV L t ∧ (leftV L t = -2 ↔ placeOk L t = false) := by
  cases h : placeOk L t with
  | false => rw [leftV_no h]; simp
  | true =>
    have := leftF_lt L t.toNat
    rw [leftV_yes h]
    refine ⟨by omega, ⟨fun e => by omega, fun e => by cases e⟩⟩

set_option maxHeartbeats 4000000 in
theorem c_sDeepAt (L : List (Int × Int)) (A : Option Addr) (c : Nat) (t : Int) (w : World) (hA : Cs w w.heap.size A L) (hn : L.length ≤ 140737488351232) :
    Calls Try.prog 26 #[.slice A L.length c, .int .i64 t] w fun e w' => e = .returned (.int .i64 (deepV L t)) ∧ Below w.heap.size w w' := by
  have HK := Lib.hid (fun t W hW => c_sLeftFor L A c t W hW hn)
  cases hp : placeOk L t with
  | true =>
    have HV := Lib.hid (deepV_yes hp)
    have HLV := Lib.hid (leftV_yes hp)
    obtain ⟨n, rfl, hnl, hc⟩ := placeOk_nat hp
    have hlt := leftF_lt L n
    have hlen := cOk_len hc
    have HKt := Lib.hid (fun (a : Nat) (ha : a < L.length) W hW => show Calls Try.prog 23 #[.slice A L.length c, .int .i64 (a : Int)] W fun e w' => e = .returned (.int .i64 (leftF L a)) ∧ Below W.heap.size W w' from by
      have K := HK.out (a : Int) W hW
      rw [leftV_yes (placeOk_mk hc ha), Int.toNat_natCast] at K
      exact K)
    have HLT := Lib.hid (fun a => leftF_lt L a)
    have HDN := Lib.hid (fun a (h : leftF L a = -1) => deepF_none h)
    have HDL := Lib.hid (fun a k (h : leftF L a = (k : Nat)) => deepF_left h)
    have HDB := Lib.hid (fun a => deepF_bd L a)
    have hne : (leftF L n == -2) = false := beq_eq_false_iff_ne.2 (by omega)
    clear hp hc HK
    go_enter Try.func26, Try.ntmps26
    go_wp2_with fail
    refine (HKt.out n hnl _ hA).mono ?_
    rintro e w1 ⟨rfl, hb1⟩
    have hs1 := hb1.size
    go_wp2_with fail
    refine (HKt.out n hnl _ ((hA.below hb1).more hs1)).mono ?_
    rintro e w2 ⟨rfl, hb2⟩
    have hb3 := hb1.trans (hb2.mono hs1)
    clear hb1 hb2
    go_wp2_with fail
    go_loopw [5, 6] (fun nv kv wr => ∃ (a : Nat) (d : Int), a < L.length ∧ a ≤ n ∧ kv = .int .i64 (leftF L a) ∧ nv = .int .i64 d ∧ 1 ≤ d ∧ Hid (d + deepF L a = 1 + deepF L n) ∧ Below w.heap.size w wr) (fun _ kv _ => (intOf kv + 1).toNat)
    case atStart => exact ⟨n, 1, hnl, Nat.le_refl _, rfl, rfl, by omega, rfl, hb3⟩
    case round =>
      obtain ⟨a, d, ha, han, rfl, rfl, hd1, HD, hb⟩ := hrel
      have hsz := hb.size
      have la := HLT.out a
      have da := HDB.out a
      have dn := HDB.out n
      have hd2 := HD.out
      have hdb : d ≤ 20 := by omega
      by_cases h0 : 0 ≤ leftF L a
      · obtain ⟨k, hk⟩ := Int.eq_ofNat_of_zero_le h0
        have HX := Lib.hid (HDL.out a k hk)
        have hka : k < a := by omega
        have lk := HLT.out k
        have HKk := Lib.hid (HKt.out k (by omega) wr ((hA.below hb).more hsz))
        rw [hk]
        clear hk h0 la
        clear hd2
        go_wp2_with fail
        refine HKk.out.mono ?_
        rintro e w5 ⟨rfl, hb5⟩
        go_wp2_with fail
        go_roundw
        case rel => exact ⟨k, d + 1, by omega, by omega, rfl, by go_num, by omega, by have := HX.out; have := HD.out; show d + 1 + deepF L k = 1 + deepF L n; omega, hb.trans (hb5.mono hsz)⟩
        case measure => simp [intOf]; omega
      · have hk : leftF L a = -1 := by omega
        have HX := Lib.hid (HDN.out a hk)
        have HR := Lib.hid (show d = deepF L n by have := HX.out; omega)
        rw [hk]
        clear hk h0 la hd2
        go_wp2_with fail
        go_ret
        exact ⟨by rw [HV.out, Int.toNat_natCast, ← HR.out]; rfl, hb⟩
  | false =>
    have HV := Lib.hid (deepV_no hp)
    have K := HK.out t w hA
    rw [leftV_no hp] at K
    have HKt := Lib.hid K
    clear hp K HK
    go_enter Try.func26, Try.ntmps26
    go_wp2_with fail
    refine HKt.out.mono ?_
    rintro e w1 ⟨rfl, hb1⟩
    go_wp2_with fail
    go_ret
    exact ⟨by rw [HV.out]; rfl, hb1⟩

end Go.Proofs.Ytmimcgjobgfgfaa

