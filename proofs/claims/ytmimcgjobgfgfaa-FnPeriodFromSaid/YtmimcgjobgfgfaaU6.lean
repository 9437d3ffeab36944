/- The method choose; what a rule picks is the one that choose finds among those who wait. · The units that a rule tells: unitsBy's function; OrderBy. -/
import Derived.Test.YtmimcgjobgfgfaaU5
import Derived.Test.YtmimcgjobgfgfaaQ
import Derived.Test.YtmimcgjobgfgfaaQ2
import Derived.Test.YtmimcgjobgfgfaaC
import Derived.Test.YtmimcgjobgfgfaaKI
namespace Go.Proofs.Ytmimcgjobgfgfaa
set_option linter.unusedVariables false
open Go.RowKit
attribute [local go_sem ↓] Go.wp_at_zero Go.wp_at_succ

def chosen (r : Int) (B : List (Int × Int)) : Int := if B.length = 0 then -1 else (minC r B (B.length - 1)).1

set_option maxHeartbeats 4000000 in
set_option maxRecDepth 4000 in
theorem c_choose (r : Int) (f : Nat) (hf : (r = 0 ∧ f = 78) ∨ (r = 1 ∧ f = 79) ∨ (r = 2 ∧ f = 80) ∨ (r = 3 ∧ f = 81)) (B : List (Int × Int)) (D : Option Addr) (c : Nat) (w : World) (hD : Ds w w.heap.size D B) (hl : B.length ≤ 1000000) (hs : smallB B) :
    Calls Try.prog 74 #[.func (.func f) #[] #[], .slice D B.length c] w fun e w' => e = .returned (.int .i64 (chosen r B)) ∧ Below w.heap.size w w' := by
  by_cases h0 : B.length = 0
  · have HV := Lib.hid (show chosen r B = -1 by unfold chosen; rw [if_pos h0])
    have h0b : ((B.length : Int) == 0) = true := beq_iff_eq.2 (by omega)
    rw [h0]
    clear h0b h0
    go_enter Try.func74, Try.ntmps74
    go_wp2_with fail
    go_ret
    exact ⟨by rw [HV.out]; rfl, Below.refl _ _⟩
  · have HV := Lib.hid (show chosen r B = (minC r B (B.length - 1)).1 by unfold chosen; rw [if_neg h0])
    have h0b : ((B.length : Int) == 0) = false := beq_eq_false_iff_ne.2 (by omega)
    have HM := Lib.hid (c_min r f hf B D c w hD (by omega) hl hs)
    generalize minC r B (B.length - 1) = m at HM HV
    have hfld : ∀ (a b : Int) (w : World), (Instr.field 92 (.agg #[.int .i64 a, .int .i64 b]) 0).run Try.prog w = .ok (.int .i64 a) w := fun _ _ _ => by kernel_rfl
    go_enter Try.func74, Try.ntmps74
    go_wp2_with fail
    refine HM.out.mono ?_
    rintro e w1 ⟨rfl, hb1⟩
    go_wp2_with fail
    go_ret
    exact ⟨by rw [HV.out]; rfl, hb1⟩

theorem X_of_app {B C : List (Int × Int)} {k : Nat} (h : k < B.length) : X (B ++ C) k = X B k := by simp [X, List.getElem?_append_left h]
theorem Y_of_app {B C : List (Int × Int)} {k : Nat} (h : k < B.length) : Y (B ++ C) k = Y B k := by simp [Y, List.getElem?_append_left h]
theorem XY_end (B : List (Int × Int)) (c : Int × Int) : X (B ++ [c]) B.length = c.1 ∧ Y (B ++ [c]) B.length = c.2 := by simp [X, Y]
theorem minC_app {r : Int} {B C : List (Int × Int)} : ∀ k, k < B.length → minC r (B ++ C) k = minC r B k := by
  intro k
  induction k with
  | zero => intro h; simp only [minC, X_of_app h, Y_of_app h]
  | succ k ih => intro h; simp only [minC, X_of_app h, Y_of_app h, ih (by omega)]
theorem cands_at {lf : List Int} : ∀ n k, k < (cands lf n).length → ∃ p : Nat, p < n ∧ X (cands lf n) k = p ∧ Y (cands lf n) k = Z lf p := by
  intro n
  induction n with
  | zero => intro k h; simp [cands] at h
  | succ n ih =>
    intro k h
    by_cases hz : 0 < Z lf n
    · have E : cands lf (n + 1) = cands lf n ++ [((n : Int), Z lf n)] := by simp only [cands]; rw [if_pos hz]
      rw [E] at h ⊢
      rw [List.length_append, List.length_singleton] at h
      by_cases e : k = (cands lf n).length
      · subst e
        exact ⟨n, by omega, (XY_end _ _).1, (XY_end _ _).2⟩
      · obtain ⟨p, hp, h1, h2⟩ := ih k (by omega)
        exact ⟨p, by omega, by rw [X_of_app (by omega), h1], by rw [Y_of_app (by omega), h2]⟩
    · have E : cands lf (n + 1) = cands lf n := by simp only [cands]; rw [if_neg hz]
      rw [E] at h ⊢
      obtain ⟨p, hp, h1, h2⟩ := ih k h
      exact ⟨p, by omega, h1, h2⟩
theorem chosen_pick {L : List (Int × Int)} {lf : List Int} {t r : Int} (hr : r = 0 ∨ r = 1 ∨ r = 2 ∨ r = 3) : ∀ n, (∀ k, k < n → X L k ≤ t ∧ 0 ≤ Z lf k) →
    ((cands lf n).length = 0 ∧ pickTo L lf t r n = -1) ∨ (0 < (cands lf n).length ∧ ∃ p : Nat, p < n ∧ minC r (cands lf n) ((cands lf n).length - 1) = ((p : Int), Z lf p) ∧ pickTo L lf t r n = p) := by
  intro n
  induction n with
  | zero => intro _; exact .inl ⟨rfl, rfl⟩
  | succ n ih =>
    intro h
    have hn := h n (by omega)
    have i := ih fun k hk => h k (by omega)
    by_cases hz : 0 < Z lf n
    · have E : cands lf (n + 1) = cands lf n ++ [((n : Int), Z lf n)] := by simp only [cands]; rw [if_pos hz]
      have hP : pickTo L lf t r (n + 1) = pickStep L lf t r (pickTo L lf t r n) n := rfl
      have hS : ¬ (t < X L n ∨ Z lf n = 0) := by omega
      right
      rw [E, List.length_append, List.length_singleton, show (cands lf n).length + 1 - 1 = (cands lf n).length by omega]
      refine ⟨by omega, ?_⟩
      rcases i with ⟨i1, i2⟩ | ⟨i1, p, hp, i2, i3⟩
      · refine ⟨n, by omega, ?_, ?_⟩
        · rw [i1]
          have x := XY_end (cands lf n) ((n : Int), Z lf n)
          rw [i1] at x
          simp only [minC, x.1, x.2]
        · rw [hP, i2, pickStep, if_neg hS, if_pos (by omega)]
      · obtain ⟨m, hm⟩ : ∃ m, (cands lf n).length = m + 1 := ⟨(cands lf n).length - 1, by omega⟩
        have x := XY_end (cands lf n) ((n : Int), Z lf n)
        have a : minC r (cands lf n ++ [((n : Int), Z lf n)]) m = ((p : Int), Z lf p) := by
          rw [minC_app m (by omega), ← i2]; congr 1; omega
        have hM : minC r (cands lf n ++ [((n : Int), Z lf n)]) (cands lf n).length = if prefV r ((n : Int), Z lf n) ((p : Int), Z lf p) < 0 then ((n : Int), Z lf n) else ((p : Int), Z lf p) := by
          rw [hm] at x ⊢
          simp only [minC, a, x.1, x.2]
        have ep : ((p : Int)).toNat = p := by simp
        have hQ : pickTo L lf t r (n + 1) = if r = 1 then (n : Int) else if r = 2 ∧ Z lf n < Z lf p then (n : Int) else if r = 3 ∧ Z lf p < Z lf n then (n : Int) else (p : Int) := by
          rw [hP, i3, pickStep, if_neg hS, if_neg (by omega), ep]
        rw [hM, hQ]
        have fin : ∀ b : Bool, (prefV r ((n : Int), Z lf n) ((p : Int), Z lf p) < 0 ↔ b = true) → (if r = 1 then (n : Int) else if r = 2 ∧ Z lf n < Z lf p then (n : Int) else if r = 3 ∧ Z lf p < Z lf n then (n : Int) else (p : Int)) = (if b = true then (n : Int) else (p : Int)) →
            ∃ q : Nat, q < n + 1 ∧ (if prefV r ((n : Int), Z lf n) ((p : Int), Z lf p) < 0 then ((n : Int), Z lf n) else ((p : Int), Z lf p)) = ((q : Int), Z lf q) ∧ (if r = 1 then (n : Int) else if r = 2 ∧ Z lf n < Z lf p then (n : Int) else if r = 3 ∧ Z lf p < Z lf n then (n : Int) else (p : Int)) = q := by
          intro b h1 h2
          cases b with
          | true => exact ⟨n, by omega, by rw [if_pos (h1.2 rfl)], by rw [h2, if_pos rfl]⟩
          | false => exact ⟨p, by omega, by rw [if_neg (fun h => by have := h1.1 h; cases this)], by rw [h2, if_neg (by simp)]⟩
        rcases hr with rfl | rfl | rfl | rfl
        · exact fin false (by simp [prefV]; omega) (by simp)
        · exact fin true (by simp [prefV]; omega) (by simp)
        · by_cases hv : Z lf n < Z lf p
          · exact fin true (by simp [prefV]; omega) (by simp [hv])
          · exact fin false (by simp [prefV]; omega) (by simp [hv])
        · by_cases hv : Z lf p < Z lf n
          · exact fin true (by simp [prefV]; omega) (by simp [hv])
          · exact fin false (by simp [prefV]; omega) (by simp [hv])
    · have E : cands lf (n + 1) = cands lf n := by simp only [cands]; rw [if_neg hz]
      have hP : pickTo L lf t r (n + 1) = pickTo L lf t r n := by
        show pickStep L lf t r (pickTo L lf t r n) n = _
        rw [pickStep, if_pos (.inr (by omega))]
      rw [E, hP]
      rcases i with i | ⟨i1, p, hp, i2, i3⟩
      · exact .inl i
      · exact .inr ⟨i1, p, by omega, i2, i3⟩
theorem pickTo_late {L : List (Int × Int)} {lf : List Int} {t r : Int} {n : Nat} : ∀ m, (∀ k, n ≤ k → k < n + m → t < X L k) → pickTo L lf t r (n + m) = pickTo L lf t r n := by
  intro m
  induction m with
  | zero => intro _; rfl
  | succ m ih =>
    intro h
    show pickStep L lf t r (pickTo L lf t r (n + m)) (n + m) = _
    rw [pickStep, if_pos (.inl (h _ (by omega) (by omega)))]
    exact ih fun k h1 h2 => h k h1 (by omega)
/-- WHAT A RULE PICKS IS WHAT choose FINDS AMONG THOSE WHO HAVE COME AND WAIT -/
theorem chosen_is {L : List (Int × Int)} (hc : cOk L = true) {r : Int} (hr : r = 0 ∨ r = 1 ∨ r = 2 ∨ r = 3) (t : Nat) : chosen r (cands (ordL L r t) (cnt L t)) = ordW L r t := by
  have inv := ordL_inv hc r t
  have hle := cnt_le L (t : Int)
  have c := chosen_pick (L := L) (lf := ordL L r t) (t := (t : Int)) hr (cnt L t) fun k hk => ⟨(lt_cnt hc (t := (t : Int)) (by omega)).1 hk, (inv.rng k (by omega)).1⟩
  have l : pickTo L (ordL L r t) t r L.length = pickTo L (ordL L r t) t r (cnt L t) := by
    have := pickTo_late (L := L) (lf := ordL L r t) (t := (t : Int)) (r := r) (n := cnt L t) (L.length - cnt L t) fun k h1 h2 => by
      have := lt_cnt hc (t := (t : Int)) (j := k) (by omega)
      omega
    rwa [show cnt L (t : Int) + (L.length - cnt L t) = L.length by omega] at this
  unfold ordW pick chosen
  rw [l]
  rcases c with ⟨c1, c2⟩ | ⟨c1, p, hp, c2, c3⟩
  · rw [if_pos c1, c2]
  · rw [if_neg (by omega), c2, c3]
theorem cands_small {L : List (Int × Int)} (hc : cOk L = true) (r : Int) (t n : Nat) (hn : n ≤ L.length) : smallB (cands (ordL L r t) n) := by
  intro k hk
  have inv := ordL_inv hc r t
  have hlen := cOk_len hc
  obtain ⟨p, hp, h1, h2⟩ := cands_at n k hk
  have := inv.rng p (by omega)
  have := cOk_bd hc (k := p) (by omega)
  refine ⟨?_, ?_, ?_, ?_⟩ <;> simp only [h1, h2] <;> omega
/-- something is left exactly before the end -/
theorem left_any {L : List (Int × Int)} (hc : cOk L = true) {r : Int} {T : Nat} (hT : lastLeave L = T) (t : Nat) : (!noneLeft (ordL L r t) (ordL L r t).length) = decide (t < T) := by
  have inv := ordL_inv hc r t
  by_cases h : t < T
  · rw [decide_eq_true h]
    cases hn : noneLeft (ordL L r t) (ordL L r t).length with
    | false => rfl
    | true =>
      have ok := ordOk_parts (orderTo_ok hc r hT)
      rw [orderTo_len] at ok
      have d := done_late hc (n := t) (unitsOk_le ok.2.2.1 (by omega)) fun k hk => by
        rw [leftOf_orderTo L r T t (by omega)]
        exact noneLeft_at _ hn k (by rw [inv.len]; exact hk)
      omega
  · rw [decide_eq_false h]
    rw [noneLeft_of _ fun k hk => by rw [ordL_end hc r (T := t) (by omega) (by rw [inv.len] at hk; exact hk)]; exact Int.le_refl _]
    rfl

end Go.Proofs.Ytmimcgjobgfgfaa

