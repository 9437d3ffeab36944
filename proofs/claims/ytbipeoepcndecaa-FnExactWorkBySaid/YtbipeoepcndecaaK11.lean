/- spec.SumOf, ThereAt, LeastSum, SpreadOf (ahead of the landing) -/
import Derived.Test.YtbipeoepcndecaaK10
namespace Go.Proofs.Ytbipeoepcndecaa
set_option linter.unusedVariables false
open Go.RowKit
attribute [local go_sem ↓] Go.wp_at_zero Go.wp_at_succ

set_option maxRecDepth 4000 in
set_option maxHeartbeats 8000000 in
theorem c_sThereAt (L : List (Int × Int)) (o : List Int) (A O : Option Addr) (c d : Nat) (t : Int) (w : World) (hA : Cs w w.heap.size A L) (hO : Is w w.heap.size O o) (hn : L.length ≤ 1000000000000) (ho : o.length ≤ 140737488351232) :
    Calls Try.prog 40 #[.slice A L.length c, .slice O o.length d, .int .i64 t] w fun e w' => e = .returned (.int .i64 (thereV L o t)) ∧ Below w.heap.size w w' := by
  have HK := Lib.hid (c_sOrderOk L o A O c d w hA hO hn ho)
  have HI := Lib.hid (fun W => c_l1In t 0 199 W)
  by_cases hok : ordOk L o = true
  · by_cases ht : 0 ≤ t ∧ t ≤ 199
    · have H := Lib.hid hok
      have HT := Lib.hid (show decide (0 ≤ t ∧ t ≤ 199) = true from decide_eq_true ht)
      have HV := Lib.hid (thereV_yes hok ht)
      have HE := Lib.hid (ends_yes hok)
      have Hn := Lib.hid (fun j => thereN_bd L o t j)
      have hlen := cOk_len (ordOk_parts hok).1
      clear hok ht
      go_enter Try.func40, Try.ntmps40
      go_wp2_with fail
      refine HK.out.mono ?_
      rintro e w1 ⟨rfl, hb1⟩
      rw [H.out]
      have hs1 := hb1.size
      clear HK
      go_wp2_with fail
      refine (HI.out _).mono ?_
      rintro e w' ⟨rfl, rfl⟩
      rw [HT.out]
      go_wp2_with fail
      refine (c_sEndsOf L o A O c d _ ((hA.below hb1).more hs1) ((hO.below hb1).more hs1) hn ho).mono ?_
      rintro e w2 ⟨v, rfl, o2, hb2⟩
      rw [HE.out] at o2
      obtain ⟨G, g, rfl, -, hG⟩ := o2.formG
      rw [endsL_len] at hG ⊢
      have HG := Lib.hid hG
      have hb3 := hb1.trans (hb2.mono hs1)
      clear hG o2 hb2 hb1
      go_wp2_with fail
      go_loop [7, 9] (fun s i => ∃ k : Nat, k ≤ L.length ∧ i = .int .i64 k ∧ s = .int .i64 (thereN L o t k)) (fun _ i => L.length - (intOf i).toNat)
      case atStart => exact ⟨0, by omega, rfl, rfl⟩
      case round =>
        obtain ⟨k, hk, rfl, rfl⟩ := hrel
        by_cases hlt : k < L.length
        · obtain ⟨gb, rfl, -, hgb, hgc⟩ := HG.out (by omega)
          obtain ⟨b, off, rfl, hlb, hc⟩ := hA (by omega)
          have c1 := hgc k hlt
          rw [endsL_Z hlt] at c1
          have c2 := (hb3.cell (p := ⟨b, off + k * 2, none⟩) hlb).trans (hc k hlt).1
          have b1 := Hn.out k
          have p1 : (0 : Int) ≤ (k : Int) := by omega
          have p2 : (k : Int) < (L.length : Int) := by omega
          have hS : thereN L o t (k + 1) = thereN L o t k + (if X L k ≤ t ∧ t < endTo o k o.length then 1 else 0) := rfl
          clear hgc hc
          by_cases hx : X L k ≤ t
          · by_cases he : t < endTo o k o.length
            · rw [if_pos ⟨hx, he⟩] at hS
              have HS := Lib.hid hS
              clear hS
              go_wp2_with fail
              go_round
              case rel => exact ⟨k + 1, by omega, by go_num, by rw [HS.out]⟩
              case measure => simp [intOf]; omega
            · rw [if_neg (fun h => he h.2)] at hS
              have HS := Lib.hid hS
              clear hS
              have de : decide (t < endTo o k o.length) = false := decide_eq_false he
              clear he
              go_wp2_with fail
              go_round
              case rel => exact ⟨k + 1, by omega, by go_num, by rw [HS.out, Int.add_zero]⟩
              case measure => simp [intOf]; omega
          · rw [if_neg (fun h => hx h.1)] at hS
            have HS := Lib.hid hS
            clear hS
            have dx : decide (X L k ≤ t) = false := decide_eq_false hx
            clear hx
            go_wp2_with fail
            go_round
            case rel => exact ⟨k + 1, by omega, by go_num, by rw [HS.out, Int.add_zero]⟩
            case measure => simp [intOf]; omega
        · have hlf : ¬ ((k : Int) < (L.length : Int)) := by omega
          go_wp2_with fail
          go_ret
          exact ⟨by rw [HV.out, show L.length = k by omega]; rfl, hb3⟩
    · have H := Lib.hid hok
      have HT := Lib.hid (show decide (0 ≤ t ∧ t ≤ 199) = false from decide_eq_false ht)
      have HV := Lib.hid (thereV_no (L := L) (o := o) (t := t) (fun h => ht h.2))
      clear hok ht
      go_enter Try.func40, Try.ntmps40
      go_wp2_with fail
      refine HK.out.mono ?_
      rintro e w1 ⟨rfl, hb1⟩
      rw [H.out]
      go_wp2_with fail
      refine (HI.out _).mono ?_
      rintro e w' ⟨rfl, rfl⟩
      rw [HT.out]
      go_wp2_with fail
      go_ret
      exact ⟨by rw [HV.out]; rfl, hb1⟩
  · have H := Lib.hid (show ordOk L o = false by simpa using hok)
    have HV := Lib.hid (thereV_no (L := L) (o := o) (t := t) (fun h => hok h.1))
    clear hok
    go_enter Try.func40, Try.ntmps40
    go_wp2_with fail
    refine HK.out.mono ?_
    rintro e w1 ⟨rfl, hb1⟩
    rw [H.out]
    go_wp2_with fail
    go_ret
    exact ⟨by rw [HV.out]; rfl, hb1⟩

end Go.Proofs.Ytbipeoepcndecaa

