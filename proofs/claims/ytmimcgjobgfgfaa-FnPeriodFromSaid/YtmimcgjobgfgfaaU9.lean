/- foldEnds, and chapter 5's functions of the program: TimesOf, SumOf, ThereAt, SpreadOf, LeastSum -/
import Derived.Test.YtmimcgjobgfgfaaU8
namespace Go.Proofs.Ytmimcgjobgfgfaa
set_option linter.unusedVariables false
open Go.RowKit
attribute [local go_sem ↓] Go.wp_at_zero Go.wp_at_succ

/-- foldEnds of an order -/
def foldV (L : List (Int × Int)) (o : List Int) (acc : Nat → Int) : Int := if ordOk L o = true then acc L.length else -1

set_option maxHeartbeats 4000000 in
theorem c_foldEnds (f s : Nat) (hf : numF f) (hs : stepF s) (caps : Array Value) (num acc : Nat → Int) (h0 : acc 0 = 0) (L : List (Int × Int)) (o : List Int) (A O : Option Addr) (c d : Nat) (w : World)
    (hA : Cs w w.heap.size A L) (hO : Is w w.heap.size O o) (hn : L.length ≤ 140737488351232) (ho : o.length ≤ 140737488351232)
    (hnum : ordOk L o = true → ∀ k W, k < L.length → Below w.heap.size w W → Calls Try.prog f (#[.agg #[.int .i64 (X L k), .int .i64 (Y L k)], .int .i64 (endTo o k o.length)] ++ caps) W fun e w' => e = .returned (.int .i64 (num k)) ∧ Below W.heap.size W w')
    (hstep : ordOk L o = true → ∀ k W, k < L.length → Calls Try.prog s #[.int .i64 (acc k), .int .i64 (num k)] W fun e w' => e = .returned (.int .i64 (acc (k + 1))) ∧ Below W.heap.size W w') :
    Calls Try.prog 53 #[.slice A L.length c, .slice O o.length d, .func (.func f) #[] caps, .func (.func s) #[] #[]] w fun e w' => e = .returned (.int .i64 (foldV L o acc)) ∧ Below w.heap.size w w' := by
  have HK := Lib.hid (c_iOrderOk L o A O c d w hA hO hn ho)
  by_cases hok : ordOk L o = true
  · have H := Lib.hid hok
    have hlen := cOk_len (ordOk_parts hok).1
    have hel : (ends L o).length = L.length := by rw [ends_yes hok, endsL_len]
    have HL := Lib.hid hel
    have HN := Lib.hid (show ∀ k W, k < (ends L o).length → Below w.heap.size w W → Calls Try.prog f (#[.agg #[.int .i64 (X L k), .int .i64 (Y L k)], .int .i64 (Z (ends L o) k)] ++ caps) W fun e w' => e = .returned (.int .i64 (num k)) ∧ Below W.heap.size W w' from by
      intro k W hk hb
      rw [hel] at hk
      rw [ends_yes hok, endsL_Z hk]
      exact hnum hok k W hk hb)
    have HS := Lib.hid (show ∀ k W, k < (rowN num (ends L o).length).length → Calls Try.prog s #[.int .i64 (acc k), .int .i64 (Z (rowN num (ends L o).length) k)] W fun e w' => e = .returned (.int .i64 (acc (k + 1))) ∧ Below W.heap.size W w' from by
      intro k W hk
      rw [rowN_len] at hk
      rw [rowN_Z num hk]
      rw [hel] at hk
      exact hstep hok k W hk)
    have HE := Lib.hid (fun (w' : World) (hb : Below w.heap.size w w') => c_iEndsOf L o A O c d w' ((hA.below hb).more hb.size) ((hO.below hb).more hb.size) hn ho)
    have HC := Lib.hid (fun (B : Option Addr) (b : Nat) (w' : World) (hb : Below w.heap.size w w') (hB : Is w' w'.heap.size B (ends L o)) => c_compared f hf caps num L (ends L o) A B c b w' ((hA.below hb).more hb.size) hB (by rw [hel]; omega) (by omega) (by rw [hel]; omega) (fun k W hk hW => HN.out k W hk (hb.trans (hW.mono hb.size))))
    have HF := Lib.hid (fun (B : Option Addr) (b : Nat) (w' : World) (hB : Is w' w'.heap.size B (rowN num (ends L o).length)) => c_foldII s hs acc (rowN num (ends L o).length) B b w' hB (by rw [rowN_len, hel]; omega) HS.out)
    have H0 := Lib.hid h0
    clear hok hel hnum hstep h0 HN HS
    go_enter Try.func53, Try.ntmps53
    go_wp2_with fail
    refine HK.out.mono ?_
    rintro e w1 ⟨rfl, hb1⟩
    rw [H.out]
    clear HK
    go_wp2_with fail
    refine (HE.out _ hb1).mono ?_
    rintro e w2 ⟨v2, rfl, o2, hb2⟩
    have hx2 := hb1.trans (hb2.mono hb1.size)
    obtain ⟨E2, e2, rfl, -, -, hE2⟩ := o2.form
    go_wp2_with fail
    refine (HC.out _ _ _ hx2 hE2).mono ?_
    rintro e w3 ⟨v3, rfl, o3, hb3⟩
    have hx3 := hx2.trans (hb3.mono hx2.size)
    obtain ⟨E3, e3, rfl, -, -, hE3⟩ := o3.form
    have HF3 := HF.out E3 e3 w3 hE3
    rw [H0.out] at HF3
    go_wp2_with fail
    refine HF3.mono ?_
    rintro e w4 ⟨rfl, hb4⟩
    go_wp2_with fail
    go_ret
    exact ⟨by rw [rowN_len, HL.out, foldV, if_pos H.out]; rfl, hx3.trans (hb4.mono hx3.size)⟩
  · have hno : ordOk L o = false := by simpa using hok
    have H := Lib.hid hno
    clear hok hno hnum hstep
    go_enter Try.func53, Try.ntmps53
    go_wp2_with fail
    refine HK.out.mono ?_
    rintro e w1 ⟨rfl, hb1⟩
    rw [H.out]
    go_wp2_with fail
    go_ret
    exact ⟨by rw [foldV, H.out]; rfl, hb1⟩

set_option maxHeartbeats 2000000 in
theorem c_iTimesOf (L : List (Int × Int)) (o : List Int) (A O : Option Addr) (c d : Nat) (w : World) (hA : Cs w w.heap.size A L) (hO : Is w w.heap.size O o) (hn : L.length ≤ 140737488351232) (ho : o.length ≤ 140737488351232) :
    Calls Try.prog 38 #[.slice A L.length c, .slice O o.length d] w fun e w' => ∃ v, e = .returned v ∧ IO w' w.heap.size v (timesR L o) ∧ Below w.heap.size w w' := by
  have HE := Lib.hid (c_iEndsOf L o A O c d w hA hO hn ho)
  have HC := Lib.hid (fun (B : Option Addr) (b : Nat) (w' : World) (hb : Below w.heap.size w w') (hB : Is w' w'.heap.size B (ends L o)) => show Calls Try.prog 61 #[.slice A L.length c, .slice B (ends L o).length b, .func (.func 63) #[] #[]] w' fun e w'' => ∃ v, e = .returned v ∧ IO w'' w'.heap.size v (timesR L o) ∧ Below w'.heap.size w' w'' from by
    by_cases hok : ordOk L o = true
    · have hc := (ordOk_parts hok).1
      have hlen := cOk_len hc
      have hel : (ends L o).length = L.length := by rw [ends_yes hok, endsL_len]
      have K := c_compared 63 (by simp [numF]) #[] (fun k => endTo o k o.length - X L k) L (ends L o) A B c b w' ((hA.below hb).more hb.size) hB (by omega) (by omega) (by omega) (fun k W hk hW => by
        rw [hel] at hk
        rw [ends_yes hok, endsL_Z hk]
        have hb1 := cOk_bd hc hk
        have hb2 := time_bd hok hk
        exact c_timeUntil _ _ _ W (by omega) (by omega))
      rw [timesR_yes hok]
      have e : rowN (fun k => endTo o k o.length - X L k) (ends L o).length = timeL L o L.length := by rw [hel]; rfl
      rw [e] at K
      exact K
    · have hno : ordOk L o = false := by simpa using hok
      have hel : (ends L o).length = 0 := by rw [ends_no hno]; rfl
      have K := c_compared 63 (by simp [numF]) #[] (fun k => endTo o k o.length - X L k) L (ends L o) A B c b w' ((hA.below hb).more hb.size) hB (by omega) (by omega) (by omega) (fun k W hk hW => by omega)
      rw [timesR_no hno]
      rw [hel] at K ⊢
      exact K)
  have H0 := hA
  clear hA hO
  go_enter Try.func38, Try.ntmps38
  go_wp2_with fail
  refine HE.out.mono ?_
  rintro e w2 ⟨v2, rfl, o2, hb2⟩
  obtain ⟨E2, e2, rfl, -, -, hE2⟩ := o2.form
  go_wp2_with fail
  refine (HC.out _ _ _ hb2 hE2).mono ?_
  rintro e w3 ⟨v3, rfl, o3, hb3⟩
  go_wp2_with fail
  go_ret
  exact ⟨_, rfl, o3.mono hb2.size, hb2.trans (hb3.mono hb2.size)⟩

theorem foldV_of {L : List (Int × Int)} {o : List Int} {acc : Nat → Int} {v : Int} (h1 : ordOk L o = true → v = acc L.length) (h2 : ordOk L o = false → v = -1) : foldV L o acc = v := by
  unfold foldV
  cases h : ordOk L o with
  | true => rw [if_pos rfl, h1 h]
  | false => rw [if_neg (by simp), h2 h]

set_option maxHeartbeats 2000000 in
theorem c_iThereAt (L : List (Int × Int)) (o : List Int) (A O : Option Addr) (c d : Nat) (t : Int) (w : World) (hA : Cs w w.heap.size A L) (hO : Is w w.heap.size O o) (hn : L.length ≤ 140737488351232) (ho : o.length ≤ 140737488351232) :
    Calls Try.prog 27 #[.slice A L.length c, .slice O o.length d, .int .i64 t] w fun e w' => e = .returned (.int .i64 (thereV L o t)) ∧ Below w.heap.size w w' := by
  by_cases ht : 0 ≤ t ∧ t ≤ 199
  · have hd := Lib.hid (show decide (0 ≤ t ∧ t ≤ 199) = true from decide_eq_true ht)
    have hx : Below w.heap.size w (w.alloc (.cells #[.int .i64 t] 3)) := (Below.refl _ _).alloc (Nat.le_refl _) _
    have K := c_foldEnds 51 54 (by simp [numF]) (by simp [stepF]) #[.pointer (some ⟨w.heap.size, 0, none⟩)] (fun k => if X L k ≤ t ∧ t < endTo o k o.length then 1 else 0) (thereN L o t) rfl L o A O c d (w.alloc (.cells #[.int .i64 t] 3)) ((hA.below hx).more hx.size) ((hO.below hx).more hx.size) hn ho
      (fun hok k W hk hW => by
        have hb1 := cOk_bd (ordOk_parts hok).1 hk
        have hb2 := time_bd hok hk
        exact c_oneThere _ _ t _ w.heap.size W (by omega) (by have := hW.size; simp at this; omega) ((hW.cell (p := ⟨w.heap.size, 0, none⟩) (by simp)).trans (by simp)))
      (fun hok k W hk => by
        have hl := cOk_len (ordOk_parts hok).1
        have hb1 := thereN_bd L o t k
        exact c_plus _ _ W (by omega) (by split <;> omega))
    rw [foldV_of (v := thereV L o t) (fun h => thereV_yes h ht) (fun h => thereV_no (by simp [h]))] at K
    have HK := Lib.hid K
    clear K hA hO ht
    go_enter Try.func27, Try.ntmps27
    go_wp2_with fail
    refine (c_within _ _ _ _).mono ?_
    rintro e w1 ⟨rfl, rfl⟩
    rw [hd.out]
    go_wp2_with fail
    refine HK.out.mono ?_
    rintro e w2 ⟨rfl, hb2⟩
    go_wp2_with fail
    go_ret
    exact ⟨rfl, hx.trans (hb2.mono hx.size)⟩
  · have hd := Lib.hid (show decide (0 ≤ t ∧ t ≤ 199) = false from decide_eq_false ht)
    have hv := Lib.hid (thereV_no (L := L) (o := o) (t := t) (fun h => ht h.2))
    have hx : Below w.heap.size w (w.alloc (.cells #[.int .i64 t] 3)) := (Below.refl _ _).alloc (Nat.le_refl _) _
    clear hA hO ht
    go_enter Try.func27, Try.ntmps27
    go_wp2_with fail
    refine (c_within _ _ _ _).mono ?_
    rintro e w1 ⟨rfl, rfl⟩
    rw [hd.out]
    go_wp2_with fail
    go_ret
    exact ⟨by rw [hv.out]; rfl, hx⟩

theorem sum_least_is (L : List (Int × Int)) : sumV L (orderR L 2) = leastV L := by
  cases hc : cOk L with
  | true =>
    obtain ⟨T, hT, _⟩ := lastLeave_nat hc
    rw [leastV_yes hc, sumV_yes]
    rw [orderR_two hc (by omega) hT]
    exact orderTo_ok hc 2 hT
  | false => rw [leastV_no hc, sumV_no (ordOk_cust hc)]

end Go.Proofs.Ytmimcgjobgfgfaa

