/- spec.SumOf, ThereAt, LeastSum, SpreadOf (ahead of the landing) -/
import Derived.Test.YtgcoemfnjdbhaaaK10
namespace Go.Proofs.Ytgcoemfnjdbhaaa
set_option linter.unusedVariables false
open Go.RowKit
attribute [local go_sem ↓] Go.wp_at_zero Go.wp_at_succ

set_option maxRecDepth 4000 in
set_option maxHeartbeats 8000000 in
theorem c_sSumOf (L : List (Int × Int)) (o : List Int) (A O : Option Addr) (c d : Nat) (w : World) (hA : Cs w w.heap.size A L) (hO : Is w w.heap.size O o) (hn : L.length ≤ 1000000000000) (ho : o.length ≤ 140737488351232) :
    Calls Try.prog 22 #[.slice A L.length c, .slice O o.length d] w fun e w' => e = .returned (.int .i64 (sumV L o)) ∧ Below w.heap.size w w' := by
  have HK := Lib.hid (c_sOrderOk L o A O c d w hA hO hn ho)
  by_cases hok : ordOk L o = true
  · have H := Lib.hid hok
    have HV := Lib.hid (sumV_yes hok)
    have HE := Lib.hid (timesR_yes hok)
    have Ht := Lib.hid (fun j (hj : j ≤ L.length) => tmTo_bd hok j hj)
    have Hb := Lib.hid (fun k (hk : k < L.length) => time_bd hok hk)
    have Hc := Lib.hid (fun k (hk : k < L.length) => cOk_bd (ordOk_parts hok).1 hk)
    have hlen := cOk_len (ordOk_parts hok).1
    clear hok
    go_enter Try.func22, Try.ntmps22
    go_wp2_with fail
    refine HK.out.mono ?_
    rintro e w1 ⟨rfl, hb1⟩
    rw [H.out]
    have hs1 := hb1.size
    clear HK
    go_wp2_with fail
    refine (c_sTimesOf L o A O c d _ ((hA.below hb1).more hs1) ((hO.below hb1).more hs1) hn ho).mono ?_
    rintro e w2 ⟨v, rfl, o2, hb2⟩
    rw [HE.out] at o2
    obtain ⟨G, g, rfl, -, hG⟩ := o2.formG
    rw [timeL_len] at hG ⊢
    have HG := Lib.hid hG
    have hb3 := hb1.trans (hb2.mono hs1)
    clear hG o2 hb2 hb1
    go_wp2_with fail
    go_loop [5, 7] (fun s i => ∃ k : Nat, k ≤ L.length ∧ i = .int .i64 k ∧ s = .int .i64 (tmTo L o k)) (fun _ i => L.length - (intOf i).toNat)
    case atStart => exact ⟨0, by omega, rfl, rfl⟩
    case round =>
      obtain ⟨k, hk, rfl, rfl⟩ := hrel
      by_cases hlt : k < L.length
      · obtain ⟨gb, rfl, -, hgb, hgc⟩ := HG.out (by omega)
        have c1 := hgc k hlt
        rw [timeL_Z hlt] at c1
        have b1 := Ht.out k (by omega)
        have b2 := Hb.out k hlt
        have b3 := Hc.out k hlt
        have bn := Ht.out (k + 1) (by omega)
        have HS := Lib.hid (show tmTo L o (k + 1) = tmTo L o k + (endTo o k o.length - X L k) from rfl)
        have p1 : (0 : Int) ≤ (k : Int) := by omega
        have p2 : (k : Int) < (L.length : Int) := by omega
        clear hgc
        generalize endTo o k o.length - X L k = y at *
        go_wp2_with fail
        go_round
        case rel => exact ⟨k + 1, by omega, by go_num, by rw [HS.out]⟩
        case measure => simp [intOf]; omega
      · have hlf : ¬ ((k : Int) < (L.length : Int)) := by omega
        go_wp2_with fail
        go_ret
        exact ⟨by rw [HV.out, show L.length = k by omega]; rfl, hb3⟩
  · have H := Lib.hid (show ordOk L o = false by simpa using hok)
    have HB := Lib.hid (sumV_no H.out)
    clear hok
    go_enter Try.func22, Try.ntmps22
    go_wp2_with fail
    refine HK.out.mono ?_
    rintro e w1 ⟨rfl, hb1⟩
    rw [H.out]
    go_wp2_with fail
    go_ret
    exact ⟨by rw [HB.out]; rfl, hb1⟩

set_option maxHeartbeats 2000000 in
theorem c_sLeastSum (L : List (Int × Int)) (A : Option Addr) (c : Nat) (w : World) (hA : Cs w w.heap.size A L) (hn : L.length ≤ 140737488351232) :
    Calls Try.prog 29 #[.slice A L.length c] w fun e w' => e = .returned (.int .i64 (leastV L)) ∧ Below w.heap.size w w' := by
  by_cases hc : cOk L = true
  · have H := Lib.hid hc
    have hlen := cOk_len hc
    have HV := Lib.hid (show leastV L = sumV L (orderR L 2) by
      obtain ⟨T, hT, _⟩ := lastLeave_nat hc
      rw [leastV_yes hc, sumV_yes (by rw [orderR_two hc (by omega) hT]; exact orderTo_ok hc 2 hT)])
    have hl : (orderR L 2).length ≤ 132 := by
      obtain ⟨T, hT, hT2⟩ := lastLeave_nat hc
      rw [orderR_two hc (by omega) hT, orderTo_len]; exact hT2
    clear hc
    go_enter Try.func29, Try.ntmps29
    go_wp2_with fail
    refine (c_sCustomersOk L A c _ hA hn).mono ?_
    rintro e w1 ⟨rfl, hb1⟩
    rw [H.out]
    have hs1 := hb1.size
    have hA1 := (hA.below hb1).more hs1
    go_wp2_with fail
    refine (c_sOrderBy L A c 2 _ hA1 hn).mono ?_
    rintro e w2 ⟨v, rfl, o2, hb2⟩
    have hA2 := (hA1.below hb2).more hb2.size
    obtain ⟨G, g, rfl, -, -, hG⟩ := o2.form
    have hb3 := hb1.trans (hb2.mono hs1)
    clear hb1 hb2 hA1 o2
    go_wp2_with fail
    refine (c_sSumOf L (orderR L 2) A G c g _ hA2 hG (by omega) (by omega)).mono ?_
    rintro e w4 ⟨rfl, hb4⟩
    go_wp2_with fail
    go_ret
    exact ⟨by rw [HV.out]; rfl, hb3.trans (hb4.mono hb3.size)⟩
  · have H := Lib.hid (show cOk L = false by simpa using hc)
    have HB := Lib.hid (leastV_no H.out)
    clear hc
    go_enter Try.func29, Try.ntmps29
    go_wp2_with fail
    refine (c_sCustomersOk L A c _ hA hn).mono ?_
    rintro e w1 ⟨rfl, hb1⟩
    rw [H.out]
    go_wp2_with fail
    go_ret
    exact ⟨by rw [HB.out]; rfl, hb1⟩

set_option maxRecDepth 4000 in
set_option maxHeartbeats 8000000 in
theorem c_sSpreadOf (L : List (Int × Int)) (o : List Int) (A O : Option Addr) (c d : Nat) (w : World) (hA : Cs w w.heap.size A L) (hO : Is w w.heap.size O o) (hn : L.length ≤ 1000000000000) (ho : o.length ≤ 140737488351232) :
    Calls Try.prog 32 #[.slice A L.length c, .slice O o.length d] w fun e w' => e = .returned (.int .i64 (spreadV L o)) ∧ Below w.heap.size w w' := by
  have HK := Lib.hid (c_sOrderOk L o A O c d w hA hO hn ho)
  by_cases hok : ordOk L o = true
  · have H := Lib.hid hok
    have HV := Lib.hid (spreadV_yes hok)
    have HE := Lib.hid (timesR_yes hok)
    have Ht := Lib.hid (fun j (hj : j ≤ L.length) => spTo_bd hok j hj)
    have Hb := Lib.hid (fun k (hk : k < L.length) => time_bd hok hk)
    have Hc := Lib.hid (fun k (hk : k < L.length) => cOk_bd (ordOk_parts hok).1 hk)
    have hlen := cOk_len (ordOk_parts hok).1
    clear hok
    go_enter Try.func32, Try.ntmps32
    go_wp2_with fail
    refine HK.out.mono ?_
    rintro e w1 ⟨rfl, hb1⟩
    rw [H.out]
    have hs1 := hb1.size
    clear HK
    go_wp2_with fail
    refine (c_sTimesOf L o A O c d _ ((hA.below hb1).more hs1) ((hO.below hb1).more hs1) hn ho).mono ?_
    rintro e w2 ⟨v, rfl, o2, hb2⟩
    rw [HE.out] at o2
    obtain ⟨G, g, rfl, -, hG⟩ := o2.formG
    rw [timeL_len] at hG ⊢
    have HG := Lib.hid hG
    have hb3 := hb1.trans (hb2.mono hs1)
    have hs3 := hb3.size
    clear hG o2 hb2 hb1
    go_wp2_with fail
    go_loopw [5, 7] (fun s i wr => ∃ k : Nat, k ≤ L.length ∧ i = .int .i64 k ∧ s = .int .i64 (spTo L o k) ∧ Below w2.heap.size w2 wr) (fun _ i _ => L.length - (intOf i).toNat)
    case atStart => exact ⟨0, by omega, rfl, rfl, Below.refl _ _⟩
    case round =>
      obtain ⟨k, hk, rfl, rfl, hb⟩ := hrel
      have hsz := hb.size
      by_cases hlt : k < L.length
      · obtain ⟨gb, rfl, -, hgb, hgc⟩ := HG.out (by omega)
        obtain ⟨b, off, rfl, hlb, hc⟩ := hA (by omega)
        have c0 := hgc k hlt
        rw [timeL_Z hlt] at c0
        have c1 := (hb.cell (p := ⟨gb, k, none⟩) hgb).trans c0
        have c2 := ((hb3.trans (hb.mono hs3)).cell (p := ⟨b, off + k * 2 + 1, none⟩) hlb).trans (hc k hlt).2
        have b1 := Ht.out k (by omega)
        have b2 := Hb.out k hlt
        have b3 := Hc.out k hlt
        have HS := Lib.hid (show spTo L o (k + 1) = max (spTo L o k) (endTo o k o.length - X L k - Y L k) from rfl)
        have p1 : (0 : Int) ≤ (k : Int) := by omega
        have p2 : (k : Int) < (L.length : Int) := by omega
        clear hgc hc c0
        generalize endTo o k o.length - X L k = y at *
        have q7 : IntKind.i64.wrap (y - Y L k) = y - Y L k := IntWalk.i64_in _ (by omega)
        by_cases hm : spTo L o k < y - Y L k
        · go_wp2_with fail
          go_quiet (fail)
          clear q7
          have hbq : Below w2.heap.size w2 (wr.drewN nq) := by (repeat (first | exact hb | exact Below.refl _ _ | (with_reducible refine Below.drew ?_) | (with_reducible refine Below.drewN ?_ _) | (with_reducible refine Below.alloc ?_ ?_ _) | (with_reducible refine Below.setCell ?_ ?_ _) | (show _ ≤ _; focus (first | omega | (simp; done) | (simp; omega)))))
          generalize wr.drewN nq = wq at hbq ⊢
          clear hb c1 c2
          go_wp2_with fail
          go_roundw
          case rel =>
            refine ⟨k + 1, by omega, by go_num, ?_, hbq⟩
            rw [HS.out]; congr 1; first | omega | (split <;> omega)
          case measure => simp [intOf]; omega
        · go_wp2_with fail
          go_quiet (fail)
          clear q7
          have hbq : Below w2.heap.size w2 (wr.drewN nq) := by (repeat (first | exact hb | exact Below.refl _ _ | (with_reducible refine Below.drew ?_) | (with_reducible refine Below.drewN ?_ _) | (with_reducible refine Below.alloc ?_ ?_ _) | (with_reducible refine Below.setCell ?_ ?_ _) | (show _ ≤ _; focus (first | omega | (simp; done) | (simp; omega)))))
          generalize wr.drewN nq = wq at hbq ⊢
          clear hb c1 c2
          go_wp2_with fail
          go_roundw
          case rel =>
            refine ⟨k + 1, by omega, by go_num, ?_, hbq⟩
            rw [HS.out]; congr 1; first | omega | (split <;> omega)
          case measure => simp [intOf]; omega
      · have hlf : ¬ ((k : Int) < (L.length : Int)) := by omega
        go_wp2_with fail
        go_ret
        exact ⟨by rw [HV.out, show L.length = k by omega]; rfl, hb3.trans (hb.mono hs3)⟩
  · have H := Lib.hid (show ordOk L o = false by simpa using hok)
    have HB := Lib.hid (spreadV_no H.out)
    clear hok
    go_enter Try.func32, Try.ntmps32
    go_wp2_with fail
    refine HK.out.mono ?_
    rintro e w1 ⟨rfl, hb1⟩
    rw [H.out]
    go_wp2_with fail
    go_ret
    exact ⟨by rw [HB.out]; rfl, hb1⟩

set_option maxRecDepth 4000 in
set_option maxHeartbeats 8000000 in
theorem c_sThereAt (L : List (Int × Int)) (o : List Int) (A O : Option Addr) (c d : Nat) (t : Int) (w : World) (hA : Cs w w.heap.size A L) (hO : Is w w.heap.size O o) (hn : L.length ≤ 1000000000000) (ho : o.length ≤ 140737488351232) :
    Calls Try.prog 27 #[.slice A L.length c, .slice O o.length d, .int .i64 t] w fun e w' => e = .returned (.int .i64 (thereV L o t)) ∧ Below w.heap.size w w' := by
  have HK := Lib.hid (c_sOrderOk L o A O c d w hA hO hn ho)
  have HI := Lib.hid (fun W => c_l1In t 0 199 W)
  by_cases hok : ordOk L o = true
  · by_cases ht : 0 ≤ t ∧ t ≤ 199
    · have H := Lib.hid hok
      have HT := Lib.hid (show decide (0 ≤ t ∧ t ≤ 199) = true from decide_eq_true ht)
      have HV := Lib.hid (thereV_yes hok ht)
      have HE := Lib.hid (ends_yes hok)
      have Hn := Lib.hid (fun j => thereN_bd L o t j)
      have hlen := cOk_len (ordOk_parts hok).1
      clear hok ht
      go_enter Try.func27, Try.ntmps27
      go_wp2_with fail
      refine HK.out.mono ?_
      rintro e w1 ⟨rfl, hb1⟩
      rw [H.out]
      have hs1 := hb1.size
      clear HK
      go_wp2_with fail
      refine (HI.out _).mono ?_
      rintro e w' ⟨rfl, rfl⟩
      rw [HT.out]
      go_wp2_with fail
      refine (c_sEndsOf L o A O c d _ ((hA.below hb1).more hs1) ((hO.below hb1).more hs1) hn ho).mono ?_
      rintro e w2 ⟨v, rfl, o2, hb2⟩
      rw [HE.out] at o2
      obtain ⟨G, g, rfl, -, hG⟩ := o2.formG
      rw [endsL_len] at hG ⊢
      have HG := Lib.hid hG
      have hb3 := hb1.trans (hb2.mono hs1)
      clear hG o2 hb2 hb1
      go_wp2_with fail
      go_loop [7, 9] (fun s i => ∃ k : Nat, k ≤ L.length ∧ i = .int .i64 k ∧ s = .int .i64 (thereN L o t k)) (fun _ i => L.length - (intOf i).toNat)
      case atStart => exact ⟨0, by omega, rfl, rfl⟩
      case round =>
        obtain ⟨k, hk, rfl, rfl⟩ := hrel
        by_cases hlt : k < L.length
        · obtain ⟨gb, rfl, -, hgb, hgc⟩ := HG.out (by omega)
          obtain ⟨b, off, rfl, hlb, hc⟩ := hA (by omega)
          have c1 := hgc k hlt
          rw [endsL_Z hlt] at c1
          have c2 := (hb3.cell (p := ⟨b, off + k * 2, none⟩) hlb).trans (hc k hlt).1
          have b1 := Hn.out k
          have p1 : (0 : Int) ≤ (k : Int) := by omega
          have p2 : (k : Int) < (L.length : Int) := by omega
          have hS : thereN L o t (k + 1) = thereN L o t k + (if X L k ≤ t ∧ t < endTo o k o.length then 1 else 0) := rfl
          clear hgc hc
          by_cases hx : X L k ≤ t
          · by_cases he : t < endTo o k o.length
            · rw [if_pos ⟨hx, he⟩] at hS
              have HS := Lib.hid hS
              clear hS
              go_wp2_with fail
              go_round
              case rel => exact ⟨k + 1, by omega, by go_num, by rw [HS.out]⟩
              case measure => simp [intOf]; omega
            · rw [if_neg (fun h => he h.2)] at hS
              have HS := Lib.hid hS
              clear hS
              have de : decide (t < endTo o k o.length) = false := decide_eq_false he
              clear he
              go_wp2_with fail
              go_round
              case rel => exact ⟨k + 1, by omega, by go_num, by rw [HS.out, Int.add_zero]⟩
              case measure => simp [intOf]; omega
          · rw [if_neg (fun h => hx h.1)] at hS
            have HS := Lib.hid hS
            clear hS
            have dx : decide (X L k ≤ t) = false := decide_eq_false hx
            clear hx
            go_wp2_with fail
            go_round
            case rel => exact ⟨k + 1, by omega, by go_num, by rw [HS.out, Int.add_zero]⟩
            case measure => simp [intOf]; omega
        · have hlf : ¬ ((k : Int) < (L.length : Int)) := by omega
          go_wp2_with fail
          go_ret
          exact ⟨by rw [HV.out, show L.length = k by omega]; rfl, hb3⟩
    · have H := Lib.hid hok
      have HT := Lib.hid (show decide (0 ≤ t ∧ t ≤ 199) = false from decide_eq_false ht)
      have HV := Lib.hid (thereV_no (L := L) (o := o) (t := t) (fun h => ht h.2))
      clear hok ht
      go_enter Try.func27, Try.ntmps27
      go_wp2_with fail
      refine HK.out.mono ?_
      rintro e w1 ⟨rfl, hb1⟩
      rw [H.out]
      go_wp2_with fail
      refine (HI.out _).mono ?_
      rintro e w' ⟨rfl, rfl⟩
      rw [HT.out]
      go_wp2_with fail
      go_ret
      exact ⟨by rw [HV.out]; rfl, hb1⟩
  · have H := Lib.hid (show ordOk L o = false by simpa using hok)
    have HV := Lib.hid (thereV_no (L := L) (o := o) (t := t) (fun h => hok h.1))
    clear hok
    go_enter Try.func27, Try.ntmps27
    go_wp2_with fail
    refine HK.out.mono ?_
    rintro e w1 ⟨rfl, hb1⟩
    rw [H.out]
    go_wp2_with fail
    go_ret
    exact ⟨by rw [HV.out]; rfl, hb1⟩

end Go.Proofs.Ytgcoemfnjdbhaaa

