/- spec.BackOf (ahead of the landing) -/
import Derived.Test.YtofjfhifldafcaaO5
import Derived.Test.YtofjfhifldafcaaK19
namespace Go.Proofs.Ytofjfhifldafcaa
set_option linter.unusedVariables false
open Go.RowKit
attribute [local go_sem ↓] Go.wp_at_zero Go.wp_at_succ

theorem step_B {w : World} {ops : Array Oper} {o : Oper} {a : Act} {K : Act → World → Prop} {Q : Exit → Act → World → Prop} {E : Prop} (hgd : o.guard = none) (s x : Operand)
    (ho : o.op = .call { callee := .builtin .append, args := #[s, x], argTypes := #[23, 23] })
    (base : Nat) (v : Value) (L : List (Int × Int)) (p q : Int) (B : Nat) (hs : a.eval s = v) (hown : BO w base v L) (hx : a.eval x = .slice (some ⟨B, 0, none⟩) 1 1)
    (hB : w.heap[B]? = some (.cells #[.int .i64 p, .int .i64 q] 27 (0, 0))) (hlen : L.length ≤ 1000000000000) (hbase : base ≤ w.heap.size)
    (h : ∀ g cap w', BO w' base (.slice (some ⟨g, 0, none⟩) (L.length + 1) cap) (L ++ [(p, q)]) → w.grownBy w' v.ownBlock → Below base w w' → K (a.put o.dst (.slice (some ⟨g, 0, none⟩) (L.length + 1) cap)) w') :
    if Region.wanted o (yielded ops a.tmps) = true then Oper.wp Try.prog o a w K Q else E := by
  obtain ⟨i0, hi, hz0, hz1, hz2⟩ := info_parts infoBo
  refine step_append_lies w hgd s x _ ho base 27 i0 _ 2 16 Try.underlying23 hi hz0 hz1 hz2 rfl (by decide) v L.length _ hs hown
    ⟨B, 0, none⟩ 1 1 [.int .i64 p, .int .i64 q] hx rfl (World.news_of_block (cs := #[.int .i64 p, .int .i64 q]) hB) (by simp [Value.oneCell']) (by decide) (by simp only [maxLen]; omega) (by omega) hbase _ rfl ?_
  intro g cap w' h1 h2 _ _
  exact h g cap w' (by simpa [BO, flatC_snoc] using h1) h2 ((Below.refl _ _).grown h2 hbase (owns_base hown))
/-- the last n ones, from the last one on -/
def backTo (L : List (Int × Int)) (n : Nat) : List (Int × Int) := (backB L).take n
theorem backTo_len {L : List (Int × Int)} {n : Nat} (h : n ≤ L.length) : (backTo L n).length = n := by rw [backTo, List.length_take, backB_len]; omega
theorem backTo_succ {L : List (Int × Int)} {n : Nat} (h : n < L.length) : backTo L (n + 1) = backTo L n ++ [(Y L (L.length - 1 - n), X L (L.length - 1 - n))] := by
  have e := backB_XY (L := L) (i := n) h
  rw [backTo, backTo, take_snoc (by rw [backB_len]; exact h), e.1, e.2]
theorem backTo_all (L : List (Int × Int)) : backTo L L.length = backB L := by rw [backTo, ← backB_len L, List.take_length]

set_option maxHeartbeats 4000000 in
theorem c_sBackOf (L : List (Int × Int)) (A : Option Addr) (c : Nat) (w : World) (hA : Cs w w.heap.size A L) (hn : L.length ≤ 140737488351232) :
    Calls Try.prog 31 #[.slice A L.length c] w fun e w' => ∃ v, e = .returned v ∧ BO w' w.heap.size v (backV L) ∧ Below w.heap.size w w' := by
  cases h : bOk L with
  | true =>
    have HV := Lib.hid (show backV L = backTo L L.length from (backV_yes h).trans (backTo_all L).symm)
    have hlen := (bOk_parts h).2
    have H := Lib.hid h; clear h
    go_enter Try.func31, Try.ntmps31
    have q0 : IntKind.i64.wrap ((L.length : Int) - 1) = (L.length : Int) - 1 := IntWalk.i64_in _ (by omega)
    go_wp2_with fail
    clear q0
    go_loopw [3, 4] (fun o i wr => ∃ n : Nat, n ≤ L.length ∧ i = .int .i64 ((L.length : Int) - 1 - n) ∧ BO wr w.heap.size o (backTo L n) ∧ Below w.heap.size w wr)
      (fun _ i _ => (intOf i + 1).toNat)
    case atStart => exact ⟨0, by omega, by simp, BO.empty _ (Nat.le_refl _), by (repeat (first | exact rfl | exact Below.refl _ _ | (with_reducible refine Below.drew ?_) | (with_reducible refine Below.drewN ?_ _) | (with_reducible refine Below.alloc ?_ ?_ _) | (with_reducible refine Below.setCell ?_ ?_ _) | (show _ ≤ _; focus (first | omega | (simp; done) | (simp; omega)))))⟩
    case round =>
      obtain ⟨n, hnl, rfl, hown, hb⟩ := hrel
      have hsz := hb.size
      by_cases hlt : n < L.length
      · have g1 : (0 : Int) ≤ (L.length : Int) - 1 - n := by omega
        go_wp2_with fail
        refine (c_sBothOk L A c _ ((hA.below hb).more hsz) hn).mono ?_
        rintro e w5 ⟨rfl, hb5⟩
        rw [H.out]
        obtain ⟨b, off, rfl, hlb, hc⟩ := hA (by omega)
        have hb7 : Below w.heap.size w w5 := hb.trans (hb5.mono hsz)
        have hsz7 := hb7.size
        have c1 := (hb7.cell (p := ⟨b, off + (L.length - 1 - n) * 2, none⟩) hlb).trans (hc (L.length - 1 - n) (by omega)).1
        have c3 := (hb7.cell (p := ⟨b, off + (L.length - 1 - n) * 2 + 1, none⟩) hlb).trans (hc (L.length - 1 - n) (by omega)).2
        clear hc hA
        go_wp2_with fail
        have hown5 := hown.below hb5 (Nat.le_refl _)
        have g2 : (L.length : Int) - 1 - n < (L.length : Int) := by omega
        have hlw : b < w5.heap.size := by omega
        have q5 : (backTo L n).length ≤ 1000000000000 := by rw [backTo_len hnl]; omega
        have q6 : ((L.length : Int) - 1 - n).toNat = L.length - 1 - n := by omega
        go_region_held3 (fun w' => w'.cell? ⟨b, off + (L.length - 1 - n) * 2, none⟩ = some (.int .i64 (X L (L.length - 1 - n))) ∧ w'.cell? ⟨b, off + (L.length - 1 - n) * 2 + 1, none⟩ = some (.int .i64 (Y L (L.length - 1 - n))))
          (first
            | go_keep
            | exact ⟨(hb6.cell (p := ⟨b, _, none⟩) hlb).trans ((((Below.refl _ _).alloc (Nat.le_refl _) _).cell (p := ⟨b, _, none⟩) hlw).trans c1), (hb6.cell (p := ⟨b, _, none⟩) hlb).trans ((((Below.refl _ _).alloc (Nat.le_refl _) _).cell (p := ⟨b, _, none⟩) hlw).trans c3)⟩)
          ((refine step_B (by rfl) (.tmp 17) (.tmp 29) (by rfl) w.heap.size u3 (backTo L n) (Y L (L.length - 1 - n)) (X L (L.length - 1 - n)) w5.heap.size (by rfl) ((hown5.alloc _).drew) (by rfl) (heap_alloc_new _ _) q5 ?_ ?_; (clear q6; simp; omega); intro g cap w6 hown6 hgr hb6))
        clear q6
        have q7 : IntKind.i64.wrap ((L.length : Int) - 1 - n - 1) = (L.length : Int) - 1 - (n + 1 : Nat) := by rw [IntWalk.i64_in _ (by omega)]; omega
        go_wp2_with fail
        go_roundw
        case rel =>
          refine ⟨n + 1, by omega, rfl, by rw [backTo_succ hlt]; rw [backTo_len hnl] at hown6 ⊢; exact hown6, ?_⟩
          refine Below.trans ?_ hb6
          (repeat (first | exact hb7 | exact Below.refl _ _ | (with_reducible refine Below.drew ?_) | (with_reducible refine Below.drewN ?_ _) | (with_reducible refine Below.alloc ?_ ?_ _) | (with_reducible refine Below.setCell ?_ ?_ _) | (show _ ≤ _; focus (first | omega | (simp; done) | (simp; omega)))))
        case measure => simp [intOf]; omega
      · obtain rfl : n = L.length := by omega
        have g1 : ¬ (0 : Int) ≤ (L.length : Int) - 1 - L.length := by omega
        go_wp2_with fail
        go_ret
        exact ⟨_, rfl, by rw [HV.out]; exact hown, hb⟩
  | false =>
    have HV := Lib.hid (backV_no h)
    have H := Lib.hid h; clear h
    have q0 : IntKind.i64.wrap ((L.length : Int) - 1) = (L.length : Int) - 1 := IntWalk.i64_in _ (by omega)
    by_cases h0 : 0 < L.length
    · have g1 : (0 : Int) ≤ (L.length : Int) - 1 := by omega
      go_enter Try.func31, Try.ntmps31
      go_wp2_with fail
      go_loopw [3, 4] (fun o i wr => i = .int .i64 ((L.length : Int) - 1) ∧ BO wr w.heap.size o [] ∧ Below w.heap.size w wr) (fun _ _ _ => 0)
      case atStart => exact ⟨rfl, BO.empty _ (Nat.le_refl _), by (repeat (first | exact rfl | exact Below.refl _ _ | (with_reducible refine Below.drew ?_) | (with_reducible refine Below.drewN ?_ _) | (with_reducible refine Below.alloc ?_ ?_ _) | (with_reducible refine Below.setCell ?_ ?_ _) | (show _ ≤ _; focus (first | omega | (simp; done) | (simp; omega)))))⟩
      case round =>
        obtain ⟨rfl, hown, hb⟩ := hrel
        have hsz := hb.size
        go_wp2_with fail
        refine (c_sBothOk L A c _ ((hA.below hb).more hsz) hn).mono ?_
        rintro e w1 ⟨rfl, hb1⟩
        rw [H.out]
        go_wp2_with fail
        go_ret
        exact ⟨_, rfl, by rw [HV.out]; exact hown.below hb1 (Nat.le_refl _), hb.trans (hb1.mono hsz)⟩
    · have g1 : ¬ (0 : Int) ≤ (L.length : Int) - 1 := by omega
      go_enter Try.func31, Try.ntmps31
      go_wp2_with fail
      go_loopw [3, 4] (fun o i wr => i = .int .i64 ((L.length : Int) - 1) ∧ BO wr w.heap.size o [] ∧ Below w.heap.size w wr) (fun _ _ _ => 0)
      case atStart => exact ⟨rfl, BO.empty _ (Nat.le_refl _), by (repeat (first | exact rfl | exact Below.refl _ _ | (with_reducible refine Below.drew ?_) | (with_reducible refine Below.drewN ?_ _) | (with_reducible refine Below.alloc ?_ ?_ _) | (with_reducible refine Below.setCell ?_ ?_ _) | (show _ ≤ _; focus (first | omega | (simp; done) | (simp; omega)))))⟩
      case round =>
        obtain ⟨rfl, hown, hb⟩ := hrel
        go_wp2_with fail
        go_ret
        exact ⟨_, rfl, by rw [HV.out]; exact hown, hb⟩

end Go.Proofs.Ytofjfhifldafcaa

