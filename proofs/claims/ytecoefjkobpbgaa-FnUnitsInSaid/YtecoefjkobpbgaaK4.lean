/- spec.l4Pick (ahead of the landing) -/
import Derived.Test.YtecoefjkobpbgaaB
import Derived.Test.YtecoefjkobpbgaaO
import Derived.Test.YtecoefjkobpbgaaM10
namespace Go.Proofs.Ytecoefjkobpbgaa
set_option linter.unusedVariables false
open Go.RowKit
attribute [local go_sem ↓] Go.wp_at_zero Go.wp_at_succ

set_option maxHeartbeats 8000000 in
theorem c_l4Pick (L : List (Int × Int)) (lf : List Int) (A G : Option Addr) (BA BG c g : Nat) (t : Nat) (rule : Int) (w : World) (hA : Cs w BA A L) (hG : Is w BG G lf) (hlf : lf.length = L.length) (hn : L.length ≤ 140737488351232) :
    Calls Try.prog 74 #[.slice A L.length c, .slice G lf.length g, .int .i64 t, .int .i64 rule] w fun e w' => e = .returned (.int .i64 (pick L lf t rule)) ∧ ∃ m, w' = w.drewN m := by
  have HLF := Lib.hid hlf
  rw [hlf]
  clear hlf
  go_enter Try.func74, Try.ntmps74
  go_wp2_with fail
  go_loopw [9, 10] (fun q i wr => ∃ k m : Nat, k ≤ L.length ∧ i = .int .i64 k ∧ q = .int .i64 (pickTo L lf t rule k) ∧ wr = w.drewN m) (fun _ i _ => L.length - (intOf i).toNat)
  case atStart => exact ⟨0, 0, Nat.zero_le _, rfl, rfl, rfl⟩
  case round =>
    obtain ⟨k, m, hk, rfl, rfl, rfl⟩ := hrel
    by_cases hlt : k < L.length
    · obtain ⟨b, off, rfl, hlb, hc⟩ := hA (by omega)
      obtain ⟨gb, go, rfl, hgb, hgc⟩ := hG (by rw [HLF.out]; omega)
      have c1 := (hc k hlt).1
      have c2 := hgc k (by rw [HLF.out]; omega)
      have HGC := Lib.hid hgc
      clear hc hgc
      have p1 : (0 : Int) ≤ (k : Int) := by omega
      have p2 : (k : Int) < (L.length : Int) := by omega
      have hE : pickTo L lf t rule (k + 1) = pickStep L lf t rule (pickTo L lf t rule k) k := rfl
      have HE := Lib.hid hE
      clear hE
      by_cases ha : (t : Int) < X L k
      · have E := Lib.hid (show pickTo L lf t rule (k + 1) = pickTo L lf t rule k by rw [HE.out, pickStep, if_pos (.inl ha)])
        go_wp2_with fail
        go_roundw
        case rel => exact ⟨k + 1, m, by omega, by go_num, by rw [E.out], rfl⟩
        case measure => simp [intOf]; omega
      · by_cases hz : Z lf k = 0
        · have hzb : (Z lf k == 0) = true := beq_iff_eq.2 hz
          have E := Lib.hid (show pickTo L lf t rule (k + 1) = pickTo L lf t rule k by rw [HE.out, pickStep, if_pos (.inr hz)])
          clear hz
          go_wp2_with fail
          go_roundw
          case rel => exact ⟨k + 1, m, by omega, by go_num, by rw [E.out], rfl⟩
          case measure => simp [intOf]; omega
        · have hzb : (Z lf k == 0) = false := beq_eq_false_iff_ne.2 hz
          have hno : ¬ ((t : Int) < X L k ∨ Z lf k = 0) := fun h => h.elim ha hz
          have HS := Lib.hid (show pickTo L lf t rule (k + 1) = _ from by rw [HE.out, pickStep, if_neg hno])
          rcases pickTo_ok L lf t rule k with ⟨e, _⟩ | ⟨p, e, hp, _, _⟩
          · have E := Lib.hid (show pickTo L lf t rule (k + 1) = k by rw [HS.out, e, if_pos (by omega)])
            rw [e]
            clear hz hno e
            go_wp2_with fail
            go_roundw
            case rel => exact ⟨k + 1, m, by omega, by go_num, by rw [E.out], rfl⟩
            case measure => simp [intOf]; omega
          · have c3 := HGC.out p (by rw [HLF.out]; omega)
            have ep : ((p : Int)).toNat = p := by simp
            have HS2 := Lib.hid (show pickTo L lf t rule (k + 1) = _ from by rw [HS.out, e, if_neg (by omega), ep])
            rw [e]
            have p3 : (0 : Int) ≤ (p : Int) := by omega
            have p4 : (p : Int) < (L.length : Int) := by omega
            clear hz hno e ep
            by_cases h1 : rule = 1
            · have E := Lib.hid (show pickTo L lf t rule (k + 1) = k by rw [HS2.out, if_pos h1])
              have h1b : (rule == 1) = true := beq_iff_eq.2 h1
              clear h1
              go_wp2_with fail
              go_roundw
              case rel => exact ⟨k + 1, m, by omega, by go_num, by rw [E.out], rfl⟩
              case measure => simp [intOf]; omega
            · have h1b : (rule == 1) = false := beq_eq_false_iff_ne.2 h1
              have HS3 := Lib.hid (show pickTo L lf t rule (k + 1) = _ from by rw [HS2.out, if_neg h1])
              by_cases h2 : rule = 2
              · have h2b : (rule == 2) = true := beq_iff_eq.2 h2
                have h3b : (rule == 3) = false := beq_eq_false_iff_ne.2 (by omega)
                by_cases h4 : Z lf k < Z lf p
                · have E := Lib.hid (show pickTo L lf t rule (k + 1) = k by rw [HS3.out, if_pos ⟨h2, h4⟩])
                  have hd : decide (Z lf k < Z lf p) = true := decide_eq_true h4
                  clear h1 h2 h4
                  go_wp2_with fail
                  go_quiet (fail)
                  go_wp2_with fail
                  go_roundw
                  case rel => exact ⟨k + 1, _, by omega, by go_num, by rw [E.out], rfl⟩
                  case measure => simp [intOf]; omega
                · have E := Lib.hid (show pickTo L lf t rule (k + 1) = p by rw [HS3.out, if_neg (fun h => h4 h.2), if_neg (by omega)])
                  have hd : decide (Z lf k < Z lf p) = false := decide_eq_false h4
                  clear h1 h2 h4
                  go_wp2_with fail
                  go_quiet (fail)
                  go_wp2_with fail
                  go_quiet (fail)
                  go_wp2_with fail
                  go_roundw
                  case rel => exact ⟨k + 1, _, by omega, by go_num, by rw [E.out], rfl⟩
                  case measure => simp [intOf]; omega
              · have h2b : (rule == 2) = false := beq_eq_false_iff_ne.2 h2
                by_cases h3 : rule = 3
                · have h3b : (rule == 3) = true := beq_iff_eq.2 h3
                  by_cases h4 : Z lf p < Z lf k
                  · have E := Lib.hid (show pickTo L lf t rule (k + 1) = k by rw [HS3.out, if_neg (by omega), if_pos ⟨h3, h4⟩])
                    have hd : decide (Z lf p < Z lf k) = true := decide_eq_true h4
                    clear h1 h2 h3 h4
                    go_wp2_with fail
                    go_quiet (fail)
                    go_wp2_with fail
                    go_quiet (fail)
                    go_wp2_with fail
                    go_roundw
                    case rel => exact ⟨k + 1, _, by omega, by go_num, by rw [E.out], rfl⟩
                    case measure => simp [intOf]; omega
                  · have E := Lib.hid (show pickTo L lf t rule (k + 1) = p by rw [HS3.out, if_neg (by omega), if_neg (fun h => h4 h.2)])
                    have hd : decide (Z lf p < Z lf k) = false := decide_eq_false h4
                    clear h1 h2 h3 h4
                    go_wp2_with fail
                    go_quiet (fail)
                    go_wp2_with fail
                    go_quiet (fail)
                    go_wp2_with fail
                    go_roundw
                    case rel => exact ⟨k + 1, _, by omega, by go_num, by rw [E.out], rfl⟩
                    case measure => simp [intOf]; omega
                · have h3b : (rule == 3) = false := beq_eq_false_iff_ne.2 h3
                  have E := Lib.hid (show pickTo L lf t rule (k + 1) = p by rw [HS3.out, if_neg (by omega), if_neg (by omega)])
                  clear h1 h2 h3
                  go_wp2_with fail
                  go_quiet (fail)
                  go_wp2_with fail
                  go_quiet (fail)
                  go_wp2_with fail
                  go_roundw
                  case rel => exact ⟨k + 1, _, by omega, by go_num, by rw [E.out], rfl⟩
                  case measure => simp [intOf]; omega
    · have hlf : ¬ ((k : Int) < (L.length : Int)) := by omega
      go_wp2_with fail
      go_ret
      obtain rfl : k = L.length := by omega
      exact ⟨rfl, _, rfl⟩

end Go.Proofs.Ytecoefjkobpbgaa

