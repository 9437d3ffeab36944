/- Who is left: stays taken off the top, the one at the top, who is left when a customer comes · chapter 8's functions of the program -/
import Derived.Test.YtmimcgjobgfgfaaU14
namespace Go.Proofs.Ytmimcgjobgfgfaa
set_option linter.unusedVariables false
open Go.RowKit
attribute [local go_sem ↓] Go.wp_at_zero Go.wp_at_succ

set_option maxHeartbeats 2000000 in
theorem c_at (S : List (Int × Int)) (A : Option Addr) (c base : Nat) (x : Int) (w : World) (h : SY w base (.slice A S.length c) S) (hn : S.length ≤ 1000000) :
    Calls Try.prog 68 #[.slice A S.length c, .int .i64 x] w fun e w' => e = .returned (.slice A (popS S x).length c) ∧ w' = w := by
  have HL := Lib.hid (popS_len S x)
  obtain ⟨A', c', e, hc1, hc2, hcs⟩ := h.form
  injection e with e1 e2 e3
  subst e1 e3
  have HC := Lib.hid hcs
  clear hcs h
  go_enter Try.func68, Try.ntmps68
  go_wp2_with fail
  go_loopw [0] (fun v wr => ∃ m : Nat, m ≤ S.length ∧ v = .slice A m c ∧ keptTo S x m = keptTo S x S.length ∧ wr = w) (fun v _ => match v with | .slice _ m _ => m | _ => 0)
  case atStart => exact ⟨S.length, Nat.le_refl _, rfl, rfl, rfl⟩
  case round =>
    obtain ⟨m, hm, rfl, hk, rfl⟩ := hrel
    cases m with
    | zero =>
      have HL2 := Lib.hid (show (popS S x).length = 0 by rw [HL.out, ← hk]; rfl)
      clear hk
      go_wp2_with fail
      go_ret
      exact ⟨by rw [HL2.out]; rfl, rfl⟩
    | succ m =>
      obtain ⟨b, off, rfl, hlb, hcc⟩ := HC.out (by omega)
      have c1 := (hcc m (by omega)).2
      have k0 : ((m + 1 : Nat) : Int) - 1 = (m : Int) := by omega
      have k1 : (0 : Int) < ((m + 1 : Nat) : Int) := by omega
      have k2 : (m : Int) < ((m + 1 : Nat) : Int) := by omega
      have k3 : (m : Int) ≤ (c : Int) := by omega
      clear hcc
      by_cases hy : Y S m ≤ x
      · have hd : decide (Y S m ≤ x) = true := decide_eq_true hy
        have HK := Lib.hid (show keptTo S x m = keptTo S x S.length by rw [← hk]; exact (if_pos hy).symm)
        clear hk hy
        go_wp2_with fail
        go_roundw
        case rel => exact ⟨m, by omega, rfl, HK.out, trivial⟩
        case measure => simp
      · have hd : decide (Y S m ≤ x) = false := decide_eq_false hy
        have HL2 := Lib.hid (show (popS S x).length = m + 1 by rw [HL.out, ← hk]; exact if_neg hy)
        clear hk hy
        go_wp2_with fail
        go_ret
        exact ⟨by rw [HL2.out]; rfl, rfl⟩

set_option maxHeartbeats 1000000 in
theorem c_top (S : List (Int × Int)) (A : Option Addr) (c base : Nat) (w : World) (h : SY w base (.slice A S.length c) S) (hn : S.length ≤ 1000000) :
    Calls Try.prog 49 #[.slice A S.length c] w fun e w' => e = .returned (.int .i64 (if S.length = 0 then -1 else X S (S.length - 1))) ∧ w' = w := by
  obtain ⟨A', c', e, hc1, hc2, hcs⟩ := h.form
  injection e with e1 e2 e3
  subst e1 e3
  clear h
  by_cases h0 : S.length = 0
  · rw [if_pos h0]
    have hz : ((S.length : Int) == 0) = true := beq_iff_eq.2 (by omega)
    clear hcs
    go_enter Try.func49, Try.ntmps49
    go_wp2_with fail
    go_ret
    exact ⟨rfl, rfl⟩
  · rw [if_neg h0]
    obtain ⟨b, off, rfl, hlb, hcc⟩ := hcs (by omega)
    have c1 := (hcc (S.length - 1) (by omega)).1
    have hz : ((S.length : Int) == 0) = false := beq_eq_false_iff_ne.2 (by omega)
    have k1 : (0 : Int) ≤ (S.length : Int) - 1 := by omega
    have k2 : (S.length : Int) - 1 < (S.length : Int) := by omega
    have k3 : ((S.length : Int) - 1).toNat = S.length - 1 := by omega
    have k4 : (1 : Int) ≤ (S.length : Int) := by omega
    clear hcc h0
    go_enter Try.func49, Try.ntmps49
    go_wp2_with fail
    go_ret
    exact ⟨rfl, rfl⟩

theorem cs_from {w : World} {B b off : Nat} {L : List (Int × Int)} (hlb : b < B) (hcc : Cells w b off L) (k : Nat) : Cs w B (some ⟨b, off + k * 2, none⟩) (L.drop k) := by
  refine fun _ => ⟨b, off + k * 2, rfl, hlb, fun i hi => ?_⟩
  rw [List.length_drop] at hi
  have := hcc (k + i) (by omega)
  rw [X_drop, Y_drop, show off + k * 2 + i * 2 = off + (k + i) * 2 by omega]
  exact this

set_option maxRecDepth 4000 in
set_option maxHeartbeats 2000000 in
theorem c_periodAt (L : List (Int × Int)) (A : Option Addr) (c a : Nat) (w : World) (hc : cOk L = true) (ha : a < L.length) (hA : Cs w w.heap.size A L) (hcap : L.length ≤ c) :
    Calls Try.prog 43 #[.slice A L.length c, .int .i64 (a : Int)] w fun e w' => e = .returned (.int .i64 (perE L a - X L a)) ∧ Below w.heap.size w w' := by
  have hl := cOk_len hc
  obtain ⟨b, off, rfl, hlb, hcc⟩ := hA (by omega)
  have c1 := (hcc a ha).1
  have c2 := (hcc a ha).2
  have hd : (L.drop (a + 1)).length = L.length - (a + 1) := List.length_drop
  have k1 : (0 : Int) ≤ (a : Int) := by omega
  have k2 : (a : Int) < (L.length : Int) := by omega
  have k3 : (a : Int) + 1 ≤ (L.length : Int) := by omega
  have k4 : ((a : Int) + 1).toNat = a + 1 := by omega
  have k5 : IntKind.i64.wrap ((a : Int) + 1) = (a : Int) + 1 := IntWalk.i64_in _ (by omega)
  have k6 : (0 : Int) ≤ (a : Int) + 1 := by omega
  have k7 : ((L.length : Int) - ((a : Int) + 1)).toNat = L.length - (a + 1) := by omega
  have k8 : (L.length : Int) ≤ (c : Int) := by omega
  have c1' := WB.cell (B := w.heap.size) hlb c1
  have c2' := WB.cell (B := w.heap.size) hlb c2
  by_cases hlt : a + 1 < c
  · have HP := Lib.hid (show ∀ W, Below w.heap.size w W → Calls Try.prog 67 #[.agg #[.int .i64 (X L a), .int .i64 (Y L a)], .slice (some ⟨b, off + (a + 1) * 2, none⟩) (L.length - (a + 1)) (c - (a + 1))] W fun e w' => e = .returned (.int .i64 (perE L a - X L a)) ∧ Below W.heap.size W w' from fun W hb => by
      have K := c_periodWith L a (some ⟨b, off + (a + 1) * 2, none⟩) (c - (a + 1)) w.heap.size W hc ha ((cs_from hlb hcc (a + 1)).below hb) hb.size
      rw [hd] at K; exact K)
    have k9 : (a : Int) + 1 < (c : Int) := by omega
    clear hc hcc hA hd
    go_enter Try.func43, Try.ntmps43
    go_wp2_with fail
    refine wp_region_wb w.heap.size (by kernel_rfl) (by kernel_rfl) ?_
    repeat (go_big_quiet_step ((go_at_call 67; exact Calls.inB (Nat.le_refl _) (HP.out _ (WB.below _)))))
    refine wpQuiet_nil ?_
    rintro w5 ⟨⟨_, hb5⟩, rfl⟩
    go_wp2_with fail
    go_ret
    exact ⟨rfl, hb5⟩
  · obtain ⟨rfl, hcl⟩ : c = a + 1 ∧ L.length = a + 1 := by omega
    have HP := Lib.hid (show ∀ W, Below w.heap.size w W → Calls Try.prog 67 #[.agg #[.int .i64 (X L a), .int .i64 (Y L a)], .slice (some ⟨b, off, none⟩) 0 0] W fun e w' => e = .returned (.int .i64 (perE L a - X L a)) ∧ Below W.heap.size W w' from fun W hb => by
      have K := c_periodWith L a (some ⟨b, off, none⟩) 0 w.heap.size W hc ha (fun h => by rw [hd] at h; omega) hb.size
      rw [hd, hcl, Nat.sub_self] at K; exact K)
    clear hc hcc hA hd hlt
    go_enter Try.func43, Try.ntmps43
    go_wp2_with fail
    refine wp_region_wb w.heap.size (by kernel_rfl) (by kernel_rfl) ?_
    repeat (go_big_quiet_step ((go_at_call 67; exact Calls.inB (Nat.le_refl _) (HP.out _ (WB.below _)))))
    refine wpQuiet_nil ?_
    rintro w5 ⟨⟨_, hb5⟩, rfl⟩
    go_wp2_with fail
    go_ret
    exact ⟨rfl, hb5⟩

set_option maxRecDepth 4000 in
set_option maxHeartbeats 4000000 in
theorem c_leftWhen (L : List (Int × Int)) (A : Option Addr) (c a : Nat) (w : World) (hc : cOk L = true) (ha : a < L.length) (hA : Cs w w.heap.size A L) (hcap : L.length ≤ c) :
    Calls Try.prog 48 #[.slice A L.length c, .int .i64 (a : Int)] w fun e w' => ∃ A' c', e = .returned (.slice A' (leftL L a).length c') ∧ SY w' w.heap.size (.slice A' (leftL L a).length c') (leftL L a) ∧ Below w.heap.size w w' := by
  have hl := cOk_len hc
  obtain ⟨b, off, rfl, hlb, hcc⟩ := hA (by omega)
  have HA := Lib.hid (fun W (hb : Below w.heap.size w W) => show Cs W W.heap.size (some ⟨b, off, none⟩) L from (hA.below hb).more hb.size)
  have HC := Lib.hid hcc
  have H := Lib.hid hc
  have HN := Lib.hid (fun j => stk_len L j)
  have HPL := Lib.hid (fun j => show (leftL L j).length ≤ j from leftL_len_le L j)
  have HST := Lib.hid (fun j => show stk L (j + 1) = leftL L j ++ [((j : Int), perE L j)] from rfl)
  have k1 : (0 : Int) ≤ (a : Int) := by omega
  have k2 : (a : Int) ≤ (L.length : Int) := by omega
  have k3 : (a : Int) ≤ (c : Int) := by omega
  have k4 : (a : Int) < (L.length : Int) := by omega
  have k5 : (L.length : Int) ≤ (c : Int) := by omega
  clear hc hcc hA
  go_enter Try.func48, Try.ntmps48
  go_wp2_with fail
  go_loopw [5, 12] (fun v i wr => ∃ k : Nat, k ≤ a ∧ i = .int .i64 k ∧ SY wr w.heap.size v (stk L k) ∧ Below w.heap.size w wr) (fun _ i _ => a - (intOf i).toNat)
  case atStart => exact ⟨0, by omega, rfl, SY.nil _ _, Below.refl _ _⟩
  case round =>
    obtain ⟨k, hk, rfl, hown, hb⟩ := hrel
    have hsz := hb.size
    obtain ⟨G, gc, rfl, hg1, hg2, -⟩ := hown.form
    by_cases hlt : k < a
    · have c1 := (hb.cell (p := ⟨b, off + k * 2, none⟩) hlb).trans (HC.out k (by omega)).1
      have c2 := (hb.cell (p := ⟨b, off + k * 2 + 1, none⟩) hlb).trans (HC.out k (by omega)).2
      have bd := cOk_bd H.out (k := k) (by omega)
      have pb := perE_bd H.out (a := k) (by omega)
      have q1 : IntKind.i64.wrap (X L k + (perE L k - X L k)) = perE L k := by rw [IntWalk.i64_in _ (by omega)]; omega
      obtain ⟨W1, hW1⟩ : ∃ W1, wr.alloc (.cells #[.int .i64 (X L k), .int .i64 (Y L k)] 37) = W1 := ⟨_, rfl⟩
      have hb1 : Below w.heap.size w W1 := by rw [← hW1]; exact hb.alloc hsz _
      have hs1 : W1.heap.size = wr.heap.size + 1 := by rw [← hW1]; simp
      have own1 : SY W1 w.heap.size (.slice G (stk L k).length gc) (stk L k) := by rw [← hW1]; exact hown.alloc _
      have cX : W1.cell? ⟨wr.heap.size, 0, none⟩ = some (.int .i64 (X L k)) := by rw [← hW1]; simp [cell_of_row _ wr.heap.size 0 _ _ _ (heap_alloc_new wr _)]
      have hn := HN.out k
      have hpl := HPL.out k
      have HT := Lib.hid (fun W (hW : Below W1.heap.size W1 W) => show Calls Try.prog 68 #[.slice G (stk L k).length gc, .int .i64 (X L k)] W fun e w' => e = .returned (.slice G (leftL L k).length gc) ∧ w' = W from c_at (stk L k) G gc w.heap.size (X L k) W (own1.below hW (Nat.le_refl _)) (by omega))
      have HP := Lib.hid (show Calls Try.prog 43 #[.slice (some ⟨b, off, none⟩) L.length c, .int .i64 (k : Int)] W1.drew fun e w' => e = .returned (.int .i64 (perE L k - X L k)) ∧ Below W1.heap.size W1 w' from (c_periodAt L (some ⟨b, off, none⟩) c k W1.drew H.out (by omega) (HA.out _ hb1.drew) hcap).mono fun e w' ⟨h1, h2⟩ => ⟨h1, (Below.refl _ W1).drew.trans h2⟩)
      have HO := Lib.hid (fun W (hW : Below W1.heap.size W1 W) => show SY W w.heap.size (.slice G (leftL L k).length gc) (leftL L k) from by
        have K := (own1.below hW (Nat.le_refl _)).cut (leftL L k).length (by rw [leftL, popS_len]; exact keptTo_le _ _ _)
        rw [leftL, popS_len] at K ⊢
        exact K)
      have HX := Lib.hid (fun W (hW : Below W1.heap.size W1 W) => show W.cell? ⟨wr.heap.size, 0, none⟩ = some (.int .i64 (X L k)) from (hW.cell (p := ⟨wr.heap.size, 0, none⟩) (show wr.heap.size < W1.heap.size by omega)).trans cX)
      have hq5 : (leftL L k).length ≤ 1000000000000 := by omega
      have HG := Lib.hid (fun r (hr : (Value.slice G (leftL L k).length gc).ownBlock = some r) => show r < wr.heap.size from owns_lt hown r (by cases G with | none => cases hr | some g => exact hr))
      have hd0 : Below W1.heap.size W1 W1.drew := (Below.refl _ W1).drew
      generalize perE L k - X L k = q at q1 HP
      clear own1 bd pb
      go_wp2_with fail
      clear hW1 c1 c2
      go_region_held3 (fun w' => w'.cell? ⟨wr.heap.size, 0, none⟩ = some (.int .i64 (X L k)))
        (first
          | go_keep
          | exact hgr7.cell (HX.out _ (hb5.alloc hb5.size _)) (fun e => by have h1 := HG.out _ e.symm; simp at h1)
          | exact HX.out _ (hb5.alloc hb5.size _)
          | exact HX.out _ hb5
          | exact HX.out _ hd0)
        (first
          | (go_at_call 68; refine (HT.out _ hd0).mono ?_; rintro e w6 ⟨rfl, rfl⟩)
          | (go_at_call 68; refine (HT.out _ (hb5.alloc hb5.size _)).mono ?_; rintro e w6 ⟨rfl, rfl⟩)
          | (go_at_call 68; refine (HT.out _ hb5).mono ?_; rintro e w6 ⟨rfl, rfl⟩)
          | (go_at_call 43; refine HP.out.mono ?_; rintro e w5 ⟨rfl, hb5⟩)
          | (refine step_Y (by rfl) (.tmp 20) (.tmp 29) (by rfl) w.heap.size (.slice G (leftL L k).length gc) (leftL L k) (k : Int) (perE L k) w5.heap.size (by rfl) (HO.out _ (hb5.alloc hb5.size _)) (by rfl) (heap_alloc_new _ _) hq5 ?_ ?_; (have h56 := hb5.size; simp; omega); intro g cap w7 own7 hgr7 hb7))
      rw [← HST.out] at own7
      have hbx : Below w.heap.size w w7 := (hb1.trans ((hb5.alloc hb5.size _).mono (by omega))).trans hb7
      go_wp2_with fail
      go_roundw
      case rel => exact ⟨k + 1, by omega, by go_num, by exact own7, hbx⟩
      case measure => simp [intOf]; omega
    · obtain rfl : k = a := by omega
      have c1 := (hb.cell (p := ⟨b, off + k * 2, none⟩) hlb).trans (HC.out k ha).1
      have hn := HN.out k
      have HT := Lib.hid (show Calls Try.prog 68 #[.slice G (stk L k).length gc, .int .i64 (X L k)] wr fun e w' => e = .returned (.slice G (leftL L k).length gc) ∧ w' = wr from c_at (stk L k) G gc w.heap.size (X L k) wr hown (by omega))
      have HO := Lib.hid (show SY wr w.heap.size (.slice G (leftL L k).length gc) (leftL L k) from by
        have K := hown.cut (leftL L k).length (by rw [leftL, popS_len]; exact keptTo_le _ _ _)
        rw [leftL, popS_len] at K ⊢
        exact K)
      have hlf : ¬ ((k : Int) < (k : Int)) := by omega
      clear hlt
      go_wp2_with fail
      refine HT.out.mono ?_
      rintro e w6 ⟨rfl, rfl⟩
      go_wp2_with fail
      go_ret
      exact ⟨_, _, rfl, HO.out, hb⟩

set_option maxHeartbeats 1000000 in
theorem c_iLastTimes (L : List (Int × Int)) (A : Option Addr) (c : Nat) (w : World) (hA : Cs w w.heap.size A L) (hcap : L.length ≤ c) (hn : L.length ≤ 140737488351232) :
    Calls Try.prog 12 #[.slice A L.length c] w fun e w' => ∃ v, e = .returned v ∧ IO w' w.heap.size v (lastR L) ∧ Below w.heap.size w w' := by
  have hl : (orderR L 1).length ≤ 200 := by
    cases hp : byOk L 1 with
    | false => rw [orderR_no hp]; simp
    | true =>
      obtain ⟨hc, -⟩ : cOk L = true ∧ decide (0 ≤ (1 : Int) ∧ (1 : Int) ≤ 3) = true := by simpa [byOk] using hp
      obtain ⟨T, hT, hT2⟩ := lastLeave_nat hc
      rw [orderR_yes hp, hT, orderTo_len]; omega
  go_enter Try.func12, Try.ntmps12
  go_wp2_with fail
  refine (c_iOrderBy L A c 1 w hA hcap hn).mono ?_
  rintro e w1 ⟨v1, rfl, o1, hb1⟩
  have hs1 := hb1.size
  obtain ⟨O, d, rfl, -, -, hO⟩ := o1.form
  clear o1
  go_wp2_with fail
  refine (c_iTimesOf L (orderR L 1) A O c d _ ((hA.below hb1).more hs1) hO hn (by omega)).mono ?_
  rintro e w2 ⟨v2, rfl, o2, hb2⟩
  go_wp2_with fail
  go_ret
  exact ⟨_, rfl, o2.mono hs1, hb1.trans (hb2.mono hs1)⟩

theorem placeOk_no {L : List (Int × Int)} {t : Int} (h : placeOk L t = false) (hc : cOk L = true) : decide (0 ≤ t ∧ t ≤ (L.length : Int) - 1) = false := by
  refine decide_eq_false fun hp => ?_
  have : placeOk L t = true := by
    obtain ⟨m, rfl⟩ : ∃ m : Nat, t = m := ⟨t.toNat, by omega⟩
    exact placeOk_mk hc (by omega)
  rw [h] at this
  cases this

set_option maxHeartbeats 2000000 in
theorem c_iPeriodFrom (L : List (Int × Int)) (A : Option Addr) (c : Nat) (t : Int) (w : World) (hA : Cs w w.heap.size A L) (hcap : L.length ≤ c) (hn : L.length ≤ 140737488351232) :
    Calls Try.prog 17 #[.slice A L.length c, .int .i64 t] w fun e w' => e = .returned (.int .i64 (perV L t)) ∧ Below w.heap.size w w' := by
  have HK := Lib.hid (c_iCustomersOk L A c w hA hn)
  have HI := Lib.hid (fun W => c_placeIs L A c t W hn)
  cases hp : placeOk L t with
  | true =>
    have HV := Lib.hid (perV_yes hp)
    obtain ⟨m, rfl, hml, hok⟩ := placeOk_nat hp
    have H := Lib.hid hok
    have hd : decide (0 ≤ (m : Int) ∧ (m : Int) ≤ (L.length : Int) - 1) = true := decide_eq_true (by omega)
    have HD := Lib.hid hd
    clear hp hok hd
    go_enter Try.func17, Try.ntmps17
    go_wp2_with fail
    refine HK.out.mono ?_
    rintro e w1 ⟨rfl, hb1⟩
    rw [H.out]
    go_wp2_with fail
    refine (HI.out _).mono ?_
    rintro e w' ⟨rfl, rfl⟩
    rw [HD.out]
    go_wp2_with fail
    refine (c_periodAt L A c m _ H.out hml ((hA.below hb1).more hb1.size) hcap).mono ?_
    rintro e w2 ⟨rfl, hb2⟩
    go_wp2_with fail
    go_ret
    exact ⟨by rw [HV.out, Int.toNat_natCast]; rfl, hb1.trans (hb2.mono hb1.size)⟩
  | false =>
    have HV := Lib.hid (perV_no hp)
    by_cases hok : cOk L = true
    · have H := Lib.hid hok
      have HD := Lib.hid (placeOk_no hp hok)
      clear hp hok
      go_enter Try.func17, Try.ntmps17
      go_wp2_with fail
      refine HK.out.mono ?_
      rintro e w1 ⟨rfl, hb1⟩
      rw [H.out]
      go_wp2_with fail
      refine (HI.out _).mono ?_
      rintro e w' ⟨rfl, rfl⟩
      rw [HD.out]
      go_wp2_with fail
      go_ret
      exact ⟨by rw [HV.out]; rfl, hb1⟩
    · have H := Lib.hid (show cOk L = false by simpa using hok)
      clear hp hok
      go_enter Try.func17, Try.ntmps17
      go_wp2_with fail
      refine HK.out.mono ?_
      rintro e w1 ⟨rfl, hb1⟩
      rw [H.out]
      go_wp2_with fail
      go_ret
      exact ⟨by rw [HV.out]; rfl, hb1⟩

set_option maxHeartbeats 2000000 in
theorem c_iLeftFor (L : List (Int × Int)) (A : Option Addr) (c : Nat) (t : Int) (w : World) (hA : Cs w w.heap.size A L) (hcap : L.length ≤ c) (hn : L.length ≤ 140737488351232) :
    Calls Try.prog 22 #[.slice A L.length c, .int .i64 t] w fun e w' => e = .returned (.int .i64 (leftV L t)) ∧ Below w.heap.size w w' := by
  have HK := Lib.hid (c_iCustomersOk L A c w hA hn)
  have HI := Lib.hid (fun W => c_placeIs L A c t W hn)
  cases hp : placeOk L t with
  | true =>
    have hV := leftV_yes hp
    obtain ⟨m, rfl, hml, hok⟩ := placeOk_nat hp
    rw [Int.toNat_natCast] at hV
    have hl := cOk_len hok
    have HV := Lib.hid (show (if (leftL L m).length = 0 then -1 else X (leftL L m) ((leftL L m).length - 1)) = leftV L m from by
      rw [hV]
      rcases leftL_top hok hml with ⟨e, hpp⟩ | ⟨k, e, hk, hpp⟩
      · rw [hpp, e]; rfl
      · rw [hpp, e, if_neg (by simp)]; simp [X])
    have hll := leftL_len_le L m
    have H := Lib.hid hok
    have hd : decide (0 ≤ (m : Int) ∧ (m : Int) ≤ (L.length : Int) - 1) = true := decide_eq_true (by omega)
    have HD := Lib.hid hd
    clear hp hok hd hV
    go_enter Try.func22, Try.ntmps22
    go_wp2_with fail
    refine HK.out.mono ?_
    rintro e w1 ⟨rfl, hb1⟩
    rw [H.out]
    go_wp2_with fail
    refine (HI.out _).mono ?_
    rintro e w' ⟨rfl, rfl⟩
    rw [HD.out]
    go_wp2_with fail
    refine (c_leftWhen L A c m _ H.out hml ((hA.below hb1).more hb1.size) hcap).mono ?_
    rintro e w2 ⟨G, gc, rfl, o2, hb2⟩
    go_wp2_with fail
    refine (c_top (leftL L m) G gc _ _ o2 (by omega)).mono ?_
    rintro e w3 ⟨rfl, rfl⟩
    rw [HV.out]
    go_wp2_with fail
    go_ret
    exact ⟨rfl, hb1.trans (hb2.mono hb1.size)⟩
  | false =>
    have HV := Lib.hid (leftV_no hp)
    by_cases hok : cOk L = true
    · have H := Lib.hid hok
      have HD := Lib.hid (placeOk_no hp hok)
      clear hp hok
      go_enter Try.func22, Try.ntmps22
      go_wp2_with fail
      refine HK.out.mono ?_
      rintro e w1 ⟨rfl, hb1⟩
      rw [H.out]
      go_wp2_with fail
      refine (HI.out _).mono ?_
      rintro e w' ⟨rfl, rfl⟩
      rw [HD.out]
      go_wp2_with fail
      go_ret
      exact ⟨by rw [HV.out]; rfl, hb1⟩
    · have H := Lib.hid (show cOk L = false by simpa using hok)
      clear hp hok
      go_enter Try.func22, Try.ntmps22
      go_wp2_with fail
      refine HK.out.mono ?_
      rintro e w1 ⟨rfl, hb1⟩
      rw [H.out]
      go_wp2_with fail
      go_ret
      exact ⟨by rw [HV.out]; rfl, hb1⟩

set_option maxHeartbeats 2000000 in
theorem c_iDeepAt (L : List (Int × Int)) (A : Option Addr) (c : Nat) (t : Int) (w : World) (hA : Cs w w.heap.size A L) (hcap : L.length ≤ c) (hn : L.length ≤ 140737488351232) :
    Calls Try.prog 25 #[.slice A L.length c, .int .i64 t] w fun e w' => e = .returned (.int .i64 (deepV L t)) ∧ Below w.heap.size w w' := by
  have HK := Lib.hid (c_iCustomersOk L A c w hA hn)
  have HI := Lib.hid (fun W => c_placeIs L A c t W hn)
  cases hp : placeOk L t with
  | true =>
    have hV := deepV_yes hp
    obtain ⟨m, rfl, hml, hok⟩ := placeOk_nat hp
    rw [Int.toNat_natCast] at hV
    have hl := cOk_len hok
    have HV := Lib.hid (show ((leftL L m).length : Int) + 1 = deepV L m from by rw [hV]; exact leftL_deep hok m hml)
    have hll := leftL_len_le L m
    have H := Lib.hid hok
    have hd : decide (0 ≤ (m : Int) ∧ (m : Int) ≤ (L.length : Int) - 1) = true := decide_eq_true (by omega)
    have HD := Lib.hid hd
    clear hp hok hd hV
    go_enter Try.func25, Try.ntmps25
    go_wp2_with fail
    refine HK.out.mono ?_
    rintro e w1 ⟨rfl, hb1⟩
    rw [H.out]
    go_wp2_with fail
    refine (HI.out _).mono ?_
    rintro e w' ⟨rfl, rfl⟩
    rw [HD.out]
    go_wp2_with fail
    refine (c_leftWhen L A c m _ H.out hml ((hA.below hb1).more hb1.size) hcap).mono ?_
    rintro e w2 ⟨G, gc, rfl, o2, hb2⟩
    go_wp2_with fail
    go_ret
    exact ⟨by rw [← HV.out]; rfl, hb1.trans (hb2.mono hb1.size)⟩
  | false =>
    have HV := Lib.hid (deepV_no hp)
    by_cases hok : cOk L = true
    · have H := Lib.hid hok
      have HD := Lib.hid (placeOk_no hp hok)
      clear hp hok
      go_enter Try.func25, Try.ntmps25
      go_wp2_with fail
      refine HK.out.mono ?_
      rintro e w1 ⟨rfl, hb1⟩
      rw [H.out]
      go_wp2_with fail
      refine (HI.out _).mono ?_
      rintro e w' ⟨rfl, rfl⟩
      rw [HD.out]
      go_wp2_with fail
      go_ret
      exact ⟨by rw [HV.out]; rfl, hb1⟩
    · have H := Lib.hid (show cOk L = false by simpa using hok)
      clear hp hok
      go_enter Try.func25, Try.ntmps25
      go_wp2_with fail
      refine HK.out.mono ?_
      rintro e w1 ⟨rfl, hb1⟩
      rw [H.out]
      go_wp2_with fail
      go_ret
      exact ⟨by rw [HV.out]; rfl, hb1⟩

end Go.Proofs.Ytmimcgjobgfgfaa

