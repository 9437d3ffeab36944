/- spec.l1Digits (ahead of the landing; made by wip/gen/k30.py) -/
import Derived.Test.YtpbmehodcllncaaO7
namespace Go.Proofs.Ytpbmehodcllncaa
set_option linter.unusedVariables false
open Go.RowKit
attribute [local go_sem ↓] Go.wp_at_zero Go.wp_at_succ

theorem take_snocB (s : ByteArray) (k : Nat) (h : k < s.size) : s.data.toList.take (k + 1) = s.data.toList.take k ++ [s[k]] := by
  rw [List.take_succ_eq_append_getElem (by simpa using h)]; rfl
theorem valN_lt : ∀ (m : Nat) (l : List UInt8), l.length = m → l.all isD = true → valN l < 10 ^ m := by
  intro m
  induction m with
  | zero => intro l hl _; rw [List.length_eq_zero_iff.1 hl]; simp [valN]
  | succ m ih =>
    intro l hl ha
    have hne : l ≠ [] := by intro e; subst e; simp at hl
    obtain ⟨K, c, rfl⟩ : ∃ K c, l = K ++ [c] := ⟨l.dropLast, l.getLast hne, (List.dropLast_concat_getLast hne).symm⟩
    simp only [List.all_append, Bool.and_eq_true, List.all_cons, List.all_nil, and_true] at ha
    have hc := isD_nat ha.2
    have := ih K (by simpa using hl) ha.1
    rw [valN_snoc, Nat.pow_succ]; omega
theorem digL_no {l : List UInt8} (h : digOk l = false) : digL l = -1 := by simp [digL, h]
theorem digL_yes {l : List UInt8} (h : digOk l = true) : digL l = valN l := if_pos h
theorem digOk_len {l : List UInt8} (h : ¬ (1 ≤ l.length ∧ l.length ≤ 6)) : digOk l = false := by
  cases e : digOk l with
  | false => rfl
  | true => exact absurd (digOk_parts e).1 h
theorem digOk_zero {l : List UInt8} (h : 1 < l.length) (hz : l.head? = some 48) : digOk l = false := by
  cases e : digOk l with
  | false => rfl
  | true => exact absurd hz ((digOk_parts e).2.1 h)
theorem digOk_bad {l : List UInt8} {c : UInt8} (h : c ∈ l) (hc : isD c = false) : digOk l = false := by
  cases e : digOk l with
  | false => rfl
  | true => have := List.all_eq_true.1 (digOk_parts e).2.2 c h; rw [hc] at this; cases this
theorem digOk_mk {l : List UInt8} (h1 : 1 ≤ l.length ∧ l.length ≤ 6) (h2 : 1 < l.length → l.head? ≠ some 48) (h3 : l.all isD = true) : digOk l = true := by
  simp only [digOk, Bool.and_eq_true, decide_eq_true_eq, h3, and_true, Bool.not_eq_true', Bool.and_eq_false_iff, decide_eq_false_iff_not]
  refine ⟨h1, ?_⟩
  by_cases h : 1 < l.length
  · right
    have := h2 h
    cases hx : l.head? with
    | none => rfl
    | some c => rw [hx] at this; simpa using this
  · exact .inl h

end Go.Proofs.Ytpbmehodcllncaa

