/- foldEnds, and chapter 5's functions of the program: TimesOf, SumOf, ThereAt, SpreadOf, LeastSum -/
import Derived.Test.YtbipeoepcndecaaU8
namespace Go.Proofs.Ytbipeoepcndecaa
set_option linter.unusedVariables false
open Go.RowKit
attribute [local go_sem ↓] Go.wp_at_zero Go.wp_at_succ

/-- foldEnds of an order -/
def foldV (L : List (Int × Int)) (o : List Int) (acc : Nat → Int) : Int := if ordOk L o = true then acc L.length else -1

set_option maxHeartbeats 4000000 in
theorem c_foldEnds (f s : Nat) (hf : numF f) (hs : stepF s) (caps : Array Value) (num acc : Nat → Int) (h0 : acc 0 = 0) (L : List (Int × Int)) (o : List Int) (A O : Option Addr) (c d : Nat) (w : World)
    (hA : Cs w w.heap.size A L) (hO : Is w w.heap.size O o) (hn : L.length ≤ 140737488351232) (ho : o.length ≤ 140737488351232)
    (hnum : ordOk L o = true → ∀ k W, k < L.length → Below w.heap.size w W → Calls Try.prog f (#[.agg #[.int .i64 (X L k), .int .i64 (Y L k)], .int .i64 (endTo o k o.length)] ++ caps) W fun e w' => e = .returned (.int .i64 (num k)) ∧ Below W.heap.size W w')
    (hstep : ordOk L o = true → ∀ k W, k < L.length → Calls Try.prog s #[.int .i64 (acc k), .int .i64 (num k)] W fun e w' => e = .returned (.int .i64 (acc (k + 1))) ∧ Below W.heap.size W w') :
    Calls Try.prog 42 #[.slice A L.length c, .slice O o.length d, .func (.func f) #[] caps, .func (.func s) #[] #[]] w fun e w' => e = .returned (.int .i64 (foldV L o acc)) ∧ Below w.heap.size w w' := by
  have HK := Lib.hid (c_iOrderOk L o A O c d w hA hO hn ho)
  by_cases hok : ordOk L o = true
  · have H := Lib.hid hok
    have hlen := cOk_len (ordOk_parts hok).1
    have hel : (ends L o).length = L.length := by rw [ends_yes hok, endsL_len]
    have HL := Lib.hid hel
    have HN := Lib.hid (show ∀ k W, k < (ends L o).length → Below w.heap.size w W → Calls Try.prog f (#[.agg #[.int .i64 (X L k), .int .i64 (Y L k)], .int .i64 (Z (ends L o) k)] ++ caps) W fun e w' => e = .returned (.int .i64 (num k)) ∧ Below W.heap.size W w' from by
      intro k W hk hb
      rw [hel] at hk
      rw [ends_yes hok, endsL_Z hk]
      exact hnum hok k W hk hb)
    have HS := Lib.hid (show ∀ k W, k < (rowN num (ends L o).length).length → Calls Try.prog s #[.int .i64 (acc k), .int .i64 (Z (rowN num (ends L o).length) k)] W fun e w' => e = .returned (.int .i64 (acc (k + 1))) ∧ Below W.heap.size W w' from by
      intro k W hk
      rw [rowN_len] at hk
      rw [rowN_Z num hk]
      rw [hel] at hk
      exact hstep hok k W hk)
    have HE := Lib.hid (fun (w' : World) (hb : Below w.heap.size w w') => c_iEndsOf L o A O c d w' ((hA.below hb).more hb.size) ((hO.below hb).more hb.size) hn ho)
    have HC := Lib.hid (fun (B : Option Addr) (b : Nat) (w' : World) (hb : Below w.heap.size w w') (hB : Is w' w'.heap.size B (ends L o)) => c_compared f hf caps num L (ends L o) A B c b w' ((hA.below hb).more hb.size) hB (by rw [hel]; omega) (by omega) (by rw [hel]; omega) (fun k W hk hW => HN.out k W hk (hb.trans (hW.mono hb.size))))
    have HF := Lib.hid (fun (B : Option Addr) (b : Nat) (w' : World) (hB : Is w' w'.heap.size B (rowN num (ends L o).length)) => c_foldII s hs acc (rowN num (ends L o).length) B b w' hB (by rw [rowN_len, hel]; omega) HS.out)
    have H0 := Lib.hid h0
    clear hok hel hnum hstep h0 HN HS
    go_enter Try.func42, Try.ntmps42
    go_wp2_with fail
    refine HK.out.mono ?_
    rintro e w1 ⟨rfl, hb1⟩
    rw [H.out]
    clear HK
    go_wp2_with fail
    refine (HE.out _ hb1).mono ?_
    rintro e w2 ⟨v2, rfl, o2, hb2⟩
    have hx2 := hb1.trans (hb2.mono hb1.size)
    obtain ⟨E2, e2, rfl, -, -, hE2⟩ := o2.form
    go_wp2_with fail
    refine (HC.out _ _ _ hx2 hE2).mono ?_
    rintro e w3 ⟨v3, rfl, o3, hb3⟩
    have hx3 := hx2.trans (hb3.mono hx2.size)
    obtain ⟨E3, e3, rfl, -, -, hE3⟩ := o3.form
    have HF3 := HF.out E3 e3 w3 hE3
    rw [H0.out] at HF3
    go_wp2_with fail
    refine HF3.mono ?_
    rintro e w4 ⟨rfl, hb4⟩
    go_wp2_with fail
    go_ret
    exact ⟨by rw [rowN_len, HL.out, foldV, if_pos H.out]; rfl, hx3.trans (hb4.mono hx3.size)⟩
  · have hno : ordOk L o = false := by simpa using hok
    have H := Lib.hid hno
    clear hok hno hnum hstep
    go_enter Try.func42, Try.ntmps42
    go_wp2_with fail
    refine HK.out.mono ?_
    rintro e w1 ⟨rfl, hb1⟩
    rw [H.out]
    go_wp2_with fail
    go_ret
    exact ⟨by rw [foldV, H.out]; rfl, hb1⟩

theorem foldV_of {L : List (Int × Int)} {o : List Int} {acc : Nat → Int} {v : Int} (h1 : ordOk L o = true → v = acc L.length) (h2 : ordOk L o = false → v = -1) : foldV L o acc = v := by
  unfold foldV
  cases h : ordOk L o with
  | true => rw [if_pos rfl, h1 h]
  | false => rw [if_neg (by simp), h2 h]

set_option maxHeartbeats 2000000 in
theorem c_iSumOf (L : List (Int × Int)) (o : List Int) (A O : Option Addr) (c d : Nat) (w : World) (hA : Cs w w.heap.size A L) (hO : Is w w.heap.size O o) (hn : L.length ≤ 140737488351232) (ho : o.length ≤ 140737488351232) :
    Calls Try.prog 15 #[.slice A L.length c, .slice O o.length d] w fun e w' => e = .returned (.int .i64 (sumV L o)) ∧ Below w.heap.size w w' := by
  have K := c_foldEnds 43 44 (by simp [numF]) (by simp [stepF]) #[] (fun k => endTo o k o.length - X L k) (tmTo L o) rfl L o A O c d w hA hO hn ho
    (fun hok k W hk _ => by
      have hb1 := cOk_bd (ordOk_parts hok).1 hk
      have hb2 := time_bd hok hk
      exact c_timeUntil _ _ _ W (by omega) (by omega))
    (fun hok k W hk => by
      have hl := cOk_len (ordOk_parts hok).1
      have hb1 := tmTo_bd hok k (by omega)
      have hb3 := cOk_bd (ordOk_parts hok).1 hk
      have hb2 := time_bd hok hk
      exact c_plus _ _ W (by omega) (by omega))
  rw [foldV_of (v := sumV L o) (fun h => sumV_yes h) (fun h => sumV_no h)] at K
  have HK := Lib.hid K
  clear K hA hO
  go_enter Try.func15, Try.ntmps15
  go_wp2_with fail
  refine HK.out.mono ?_
  rintro e w1 ⟨rfl, hb1⟩
  go_wp2_with fail
  go_ret
  exact ⟨rfl, hb1⟩

theorem sum_least_is (L : List (Int × Int)) : sumV L (orderR L 2) = leastV L := by
  cases hc : cOk L with
  | true =>
    obtain ⟨T, hT, _⟩ := lastLeave_nat hc
    rw [leastV_yes hc, sumV_yes]
    rw [orderR_two hc (by omega) hT]
    exact orderTo_ok hc 2 hT
  | false => rw [leastV_no hc, sumV_no (ordOk_cust hc)]

end Go.Proofs.Ytbipeoepcndecaa

