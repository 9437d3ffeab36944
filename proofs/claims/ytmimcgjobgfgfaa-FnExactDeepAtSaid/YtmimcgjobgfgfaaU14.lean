/- Stacks of stays that a call owns (as slices of customers); without those at the top · periods (fold with a closure), stays taken off, who is left; chapter 8's functions of the program -/
import Derived.Test.YtmimcgjobgfgfaaM35
import Derived.Test.YtmimcgjobgfgfaaM24
import Derived.Test.YtmimcgjobgfgfaaKL
import Derived.Test.YtmimcgjobgfgfaaK17
namespace Go.Proofs.Ytmimcgjobgfgfaa
set_option linter.unusedVariables false
open Go.RowKit

theorem infoY : (Try.prog.info? 81).map (fun i => (i.zero, i.size, i.bytes)) = some (some (.agg #[.int .i64 0, .int .i64 0]), 2, 16) := by kernel_rfl
def SY (w : World) (base : Nat) (v : Value) (L : List (Int × Int)) : Prop := w.ownsRow base 81 2 v L.length (flatC L)
theorem SY.nil (w : World) (base : Nat) : SY w base (.slice none 0 0) [] := ⟨rfl, .inl ⟨rfl, rfl⟩⟩
theorem SY.empty (w : World) {base : Nat} (h : base ≤ w.heap.size) : SY (w.alloc (.cells #[] 81)) base (.slice (some ⟨w.heap.size, 0, none⟩) 0 0) [] :=
  ⟨rfl, .inr ⟨w.heap.size, 0, #[], rfl, h, heap_alloc_new _ _, Nat.le_refl _, by simp [maxLen], rfl, rfl⟩⟩
theorem SY.below {w w' : World} {base B : Nat} {v : Value} {xs : List (Int × Int)} (h : SY w base v xs) (hb : Below B w w') (hB : w.heap.size ≤ B) : SY w' base v xs := owns_below h hb hB
theorem SY.mono {w : World} {base base' : Nat} {v : Value} {xs : List (Int × Int)} (h : SY w base v xs) (hB : base' ≤ base) : SY w base' v xs := owns_mono h hB
theorem SY.form {w : World} {base : Nat} {v : Value} {L : List (Int × Int)} (h : SY w base v L) : ∃ A c, v = .slice A L.length c ∧ L.length ≤ c ∧ c ≤ maxLen ∧ Cs w w.heap.size A L := by
  have hl := owns_lt h
  rcases h.2 with ⟨rfl, h0⟩ | ⟨g, cap, cur, rfl, hg, hh, h1, h2, h3, h4⟩
  · exact ⟨none, 0, by rw [h0], by omega, by simp [maxLen], fun hp => by omega⟩
  · refine ⟨_, cap, rfl, h1, h2, fun hp => ⟨g, 0, rfl, hl g (by simp [Value.ownBlock]), fun k hk => ?_⟩⟩
    have := flatC_at L k hk
    refine ⟨?_, ?_⟩
    · rw [Nat.zero_add, World.ownsRow.cellAt h (k * 2) (by omega)]; exact this.1
    · rw [Nat.zero_add, World.ownsRow.cellAt h (k * 2 + 1) (by omega)]; exact this.2
theorem SY.cells {w : World} {base g n c : Nat} {M : List (Int × Int)} (h : SY w base (.slice (some ⟨g, 0, none⟩) n c) M) :
    n = M.length ∧ (∀ k, k < n → w.cell? ⟨g, k * 2, none⟩ = some (.int .i64 (X M k)) ∧ w.cell? ⟨g, k * 2 + 1, none⟩ = some (.int .i64 (Y M k))) ∧ ∀ j, w.frozen? ⟨g, j, none⟩ = false := by
  have hn : n = M.length := by
    rcases h.2 with ⟨h2, _⟩ | ⟨g', cap, cur, h2, _⟩
    · cases h2
    · injection h2
  subst hn
  refine ⟨rfl, fun k hk => ?_, fun j => World.ownsRow.frozenAt h j⟩
  have := flatC_at M k hk
  exact ⟨(World.ownsRow.cellAt h (k * 2) (by omega)).trans this.1, (World.ownsRow.cellAt h (k * 2 + 1) (by omega)).trans this.2⟩
theorem SY.alloc {w : World} {base : Nat} {v : Value} {xs : List (Int × Int)} (h : SY w base v xs) (o : Obj) : SY (w.alloc o) base v xs := World.ownsRow.alloc h o
theorem SY.drew {w : World} {base : Nat} {v : Value} {xs : List (Int × Int)} (h : SY w base v xs) : SY w.drew base v xs := h
theorem step_Y {w : World} {ops : Array Oper} {o : Oper} {a : Act} {K : Act → World → Prop} {Q : Exit → Act → World → Prop} {E : Prop} (hgd : o.guard = none) (s x : Operand)
    (ho : o.op = .call { callee := .builtin .append, args := #[s, x], argTypes := #[55, 55] })
    (base : Nat) (v : Value) (L : List (Int × Int)) (p q : Int) (B : Nat) (hs : a.eval s = v) (hown : SY w base v L) (hx : a.eval x = .slice (some ⟨B, 0, none⟩) 1 1)
    (hB : w.heap[B]? = some (.cells #[.int .i64 p, .int .i64 q] 81 (0, 0))) (hlen : L.length ≤ 1000000000000) (hbase : base ≤ w.heap.size)
    (h : ∀ g cap w', SY w' base (.slice (some ⟨g, 0, none⟩) (L.length + 1) cap) (L ++ [(p, q)]) → w.grownBy w' v.ownBlock → Below base w w' → K (a.put o.dst (.slice (some ⟨g, 0, none⟩) (L.length + 1) cap)) w') :
    if Region.wanted o (yielded ops a.tmps) = true then Oper.wp Try.prog o a w K Q else E := by
  obtain ⟨i0, hi, hz0, hz1, hz2⟩ := info_parts infoY
  refine step_append_lies w hgd s x _ ho base 81 i0 _ 2 16 Try.underlying55 hi hz0 hz1 hz2 rfl (by decide) v L.length _ hs hown
    ⟨B, 0, none⟩ 1 1 [.int .i64 p, .int .i64 q] hx rfl (World.news_of_block (cs := #[.int .i64 p, .int .i64 q]) hB) (by simp [Value.oneCell']) (by decide) (by simp only [maxLen]; omega) (by omega) hbase _ rfl ?_
  intro g cap w' h1 h2 _ _
  exact h g cap w' (by simpa [SY, flatC_snoc] using h1) h2 ((Below.refl _ _).grown h2 hbase (owns_base hown))
theorem SY.isOf {w : World} {base n c : Nat} {A : Option Addr} {xs : List (Int × Int)} (h : SY w base (.slice A n c) xs) : n = xs.length ∧ Cs w w.heap.size A xs := by
  obtain ⟨A', c', e, _, _, h'⟩ := h.form
  injection e with e1 e2 e3
  subst e1
  exact ⟨e2, h'⟩
theorem SY.grownR {w w' : World} {base : Nat} {row : Option Nat} {v : Value} {L : List (Int × Int)} (h : SY w base v L) (hg : w.grownBy w' row) (hr : ∀ r, row = some r → r < base) : SY w' base v L := by
  refine ⟨h.1, ?_⟩
  have hl := owns_lt h
  rcases h.2 with h2 | ⟨g, cap, cur, rfl, hgb, hh, rest⟩
  · exact .inl h2
  · have := hl g (by simp [Value.ownBlock])
    exact .inr ⟨g, cap, cur, rfl, hgb, by rw [hg.block g (by omega) (fun e => by have := hr _ e.symm; omega)]; exact hh, rest⟩
theorem SY.setLow {w : World} {base r o : Nat} {v u : Value} {xs : List (Int × Int)} (h : SY w base v xs) (hr : r < base) : SY (w.setCell ⟨r, o, none⟩ u) base v xs :=
  h.grownR (row := some r) ⟨rfl, rfl, rfl, by simp [World.setCell], fun k _ hne => Below.heap_setCell _ _ _ _ (fun e => hne (by rw [e]))⟩ (fun r' e => by cases e; exact hr)

theorem flatC_take (L : List (Int × Int)) : ∀ k, flatC (L.take k) = (flatC L).take (k * 2) := by
  induction L with
  | nil => intro k; simp [flatC]
  | cons d L ih =>
    intro k
    cases k with
    | zero => simp [flatC]
    | succ k =>
      have := ih k
      have e1 : (k + 1) * 2 = k * 2 + 1 + 1 := by omega
      simp only [flatC, List.take_succ_cons, List.flatMap_cons, e1, List.cons_append, List.nil_append] at this ⊢
      rw [this]
theorem SY.cut {w : World} {base c : Nat} {A : Option Addr} {L : List (Int × Int)} (h : SY w base (.slice A L.length c) L) (k : Nat) (hk : k ≤ L.length) : SY w base (.slice A k c) (L.take k) := by
  have hl : (L.take k).length = k := by rw [List.length_take]; omega
  have hfl : (flatC L).length = L.length * 2 := h.1
  refine ⟨by rw [hl, flatC_take, List.length_take]; omega, ?_⟩
  rw [hl]
  rcases h.2 with ⟨e, h0⟩ | ⟨g, cap, cur, e, hgb, hh, h1, h2, h3, h4⟩
  · injection e with e1 e2 e3
    subst e1 e3
    obtain rfl : k = 0 := by omega
    exact .inl ⟨rfl, rfl⟩
  · injection e with e1 e2 e3
    subst e1 e3
    refine .inr ⟨g, c, cur, rfl, hgb, hh, by omega, h2, h3, ?_⟩
    rw [flatC_take, ← h4, List.take_take, Nat.min_eq_left (by omega)]

/-! periods -/
/-- how long the period from a is, if only those up to a + m came -/
def perW (L : List (Int × Int)) (a m : Nat) : Int := perTo L a m - X L a
theorem perW_zero (L : List (Int × Int)) (a : Nat) : perW L a 0 = Y L a := by simp only [perW, perTo]; omega
theorem perW_succ (L : List (Int × Int)) (a m : Nat) : perW L a (m + 1) = if perW L a m ≤ X L (a + 1 + m) - X L a then perW L a m else perW L a m + Y L (a + 1 + m) := by
  by_cases h : X L (a + 1 + m) < perTo L a m
  · rw [if_neg (show ¬ perW L a m ≤ X L (a + 1 + m) - X L a by simp only [perW]; omega)]
    show perTo L a (m + 1) - X L a = perTo L a m - X L a + Y L (a + 1 + m)
    rw [show perTo L a (m + 1) = perTo L a m + Y L (a + 1 + m) from if_pos h]; omega
  · rw [if_pos (show perW L a m ≤ X L (a + 1 + m) - X L a by simp only [perW]; omega)]
    show perTo L a (m + 1) - X L a = perTo L a m - X L a
    rw [show perTo L a (m + 1) = perTo L a m from if_neg h]
theorem perW_all (L : List (Int × Int)) (a : Nat) : perW L a (L.length - (a + 1)) = perE L a - X L a := rfl
theorem perW_bd {L : List (Int × Int)} (hc : cOk L = true) (a m : Nat) (h : a + 1 + m ≤ L.length) : 1 ≤ perW L a m ∧ perW L a m ≤ 72 := by
  obtain ⟨p, h1, h2, h3, h4, h5⟩ := perTo_spec hc a m h
  have mo := sumTo_mono hc (i := a + 1) (j := p) (by omega) (by omega)
  have b := sumTo_le hc (j := p) (by omega)
  have c := sumTo_le hc (j := a) (by omega)
  have d := cOk_bd hc (k := a) (by omega)
  simp only [sumTo] at mo
  simp only [perW]; omega

attribute [local go_sem ↓] Go.wp_at_zero Go.wp_at_succ

set_option maxHeartbeats 1000000 in
theorem c_perStep (x y s p q : Int) (Bc : Nat) (w : World) (c1 : w.cell? ⟨Bc, 0, none⟩ = some (.int .i64 x)) (c2 : w.cell? ⟨Bc, 1, none⟩ = some (.int .i64 y)) (hx : 0 ≤ x ∧ x ≤ 60) (hp : 0 ≤ p ∧ p ≤ 60) (hs : 0 ≤ s ∧ s ≤ 100) (hq : 0 ≤ q ∧ q ≤ 9) :
    Calls Try.prog 84 #[.int .i64 s, .agg #[.int .i64 p, .int .i64 q], .pointer (some ⟨Bc, 0, none⟩)] w fun e w' => e = .returned (.int .i64 (if s ≤ p - x then s else s + q)) ∧ Below w.heap.size w w' := by
  have hlt := World.block_lt_of_cell? w _ c1
  have hb0 : Below w.heap.size w (w.alloc (.cells #[.int .i64 p, .int .i64 q] 37)) := (Below.refl _ _).alloc (Nat.le_refl _) _
  have d1 := (hb0.cell (p := ⟨Bc, 0, none⟩) hlt).trans c1
  have d2 := (hb0.cell (p := ⟨Bc, 1, none⟩) hlt).trans c2
  have HG := Lib.hid (fun W => c_gapTo x y p q W (by omega) (by omega) (by omega) (by omega))
  have q1 : IntKind.i64.wrap (s + q) = s + q := IntWalk.i64_in _ (by omega)
  by_cases h : s ≤ p - x
  · have h1 : decide (s ≤ p - x) = true := decide_eq_true h
    rw [if_pos h]
    clear h
    go_enter Try.func84, Try.ntmps84
    go_wp2_with fail
    refine (HG.out _).mono ?_
    rintro e w1 ⟨rfl, hb1⟩
    go_wp2_with fail
    go_ret
    exact ⟨rfl, hb0.trans (hb1.mono hb0.size)⟩
  · have h1 : decide (s ≤ p - x) = false := decide_eq_false h
    rw [if_neg h]
    clear h
    go_enter Try.func84, Try.ntmps84
    go_wp2_with fail
    refine (HG.out _).mono ?_
    rintro e w1 ⟨rfl, hb1⟩
    have cq : w1.cell? ⟨w.heap.size, 1, none⟩ = some (.int .i64 q) := (hb1.cell (p := ⟨w.heap.size, 1, none⟩) (by simp)).trans (by simp [cell_of_row _ w.heap.size 1 _ _ _ (heap_alloc_new w _)])
    go_wp2_with fail
    go_ret
    exact ⟨rfl, hb0.trans (hb1.mono hb0.size)⟩

set_option maxHeartbeats 1000000 in
theorem c_foldCP (acc : Nat → Int) (Bc : Nat) (L : List (Int × Int)) (A : Option Addr) (c B : Nat) (w : World) (hA : Cs w B A L) (hB : B ≤ w.heap.size) (hn : L.length ≤ 140737488351232)
    (hs : ∀ k W, k < L.length → Below w.heap.size w W → Calls Try.prog 84 #[.int .i64 (acc k), .agg #[.int .i64 (X L k), .int .i64 (Y L k)], .pointer (some ⟨Bc, 0, none⟩)] W fun e w' => e = .returned (.int .i64 (acc (k + 1))) ∧ Below W.heap.size W w') :
    Calls Try.prog 83 #[.slice A L.length c, .int .i64 (acc 0), .func (.func 84) #[] #[.pointer (some ⟨Bc, 0, none⟩)]] w fun e w' => e = .returned (.int .i64 (acc L.length)) ∧ Below w.heap.size w w' := by
  have Hs := Lib.hid hs; clear hs
  go_enter Try.func83, Try.ntmps83
  go_wp2_with fail
  go_loopw [7, 13] (fun a i wr => ∃ k : Nat, k ≤ L.length ∧ i = .int .i64 k ∧ a = .int .i64 (acc k) ∧ Below w.heap.size w wr)
      (fun _ i _ => L.length - (intOf i).toNat)
  case atStart => exact ⟨0, Nat.zero_le _, rfl, rfl, Below.refl _ _⟩
  case round =>
    obtain ⟨k, hk, rfl, rfl, hb⟩ := hrel
    by_cases hlt : k < L.length
    · obtain ⟨b, off, rfl, hlb, hc⟩ := hA (by omega)
      have c1 := (hb.cell (p := ⟨b, off + k * 2, none⟩) (show b < w.heap.size by omega)).trans (hc k hlt).1
      have c2 := (hb.cell (p := ⟨b, off + k * 2 + 1, none⟩) (show b < w.heap.size by omega)).trans (hc k hlt).2
      clear hc
      have hsz := hb.size
      have hbx : Below w.heap.size w (wr.alloc (.cells #[.int .i64 (X L k), .int .i64 (Y L k)] 37)) := hb.alloc hsz _
      have HW := Lib.hid (Hs.out k _ hlt hbx)
      go_wp2_with fail
      refine HW.out.mono ?_
      rintro e w1 ⟨rfl, hb1⟩
      go_wp2_with fail
      go_roundw
      case rel => exact ⟨k + 1, by omega, by go_num, rfl, hbx.trans (hb1.mono hbx.size)⟩
      case measure => simp [intOf]; omega
    · go_wp2_with fail
      go_ret
      obtain rfl : k = L.length := by omega
      exact ⟨rfl, hb⟩

set_option maxHeartbeats 1000000 in
theorem c_periodWith (L : List (Int × Int)) (a : Nat) (A : Option Addr) (c B : Nat) (w : World) (hc : cOk L = true) (ha : a < L.length) (hA : Cs w B A (L.drop (a + 1))) (hB : B ≤ w.heap.size) :
    Calls Try.prog 67 #[.agg #[.int .i64 (X L a), .int .i64 (Y L a)], .slice A (L.drop (a + 1)).length c] w fun e w' => e = .returned (.int .i64 (perE L a - X L a)) ∧ Below w.heap.size w w' := by
  have hl := cOk_len hc
  have hd : (L.drop (a + 1)).length = L.length - (a + 1) := List.length_drop
  have hb0 : Below w.heap.size w (w.alloc (.cells #[.int .i64 (X L a), .int .i64 (Y L a)] 37)) := (Below.refl _ _).alloc (Nat.le_refl _) _
  have bd := cOk_bd hc ha
  have cA : ∀ o, (w.alloc (.cells #[.int .i64 (X L a), .int .i64 (Y L a)] 37)).cell? ⟨w.heap.size, o, none⟩ = #[Value.int .i64 (X L a), .int .i64 (Y L a)][o]? := fun o => cell_of_row _ w.heap.size o _ _ _ (heap_alloc_new w _)
  have HF := Lib.hid (c_foldCP (perW L a) w.heap.size (L.drop (a + 1)) A c w.heap.size (w.alloc (.cells #[.int .i64 (X L a), .int .i64 (Y L a)] 37)) ((hA.more hB).below hb0) hb0.size (by omega) (fun k W hk hW => by
    rw [hd] at hk
    have b2 := cOk_bd hc (k := a + 1 + k) (by omega)
    have b3 := perW_bd hc a k (by omega)
    have K := c_perStep (X L a) (Y L a) (perW L a k) (X L (a + 1 + k)) (Y L (a + 1 + k)) w.heap.size W ((hW.cell (p := ⟨w.heap.size, 0, none⟩) (by simp)).trans (cA 0)) ((hW.cell (p := ⟨w.heap.size, 1, none⟩) (by simp)).trans (cA 1)) (by omega) (by omega) (by omega) (by omega)
    rw [perW_succ, X_drop, Y_drop]
    exact K))
  rw [perW_zero, hd, perW_all] at HF
  rw [hd]
  have e0 := cA 0
  have e1 := cA 1
  clear cA bd hA hd
  go_enter Try.func67, Try.ntmps67
  go_wp2_with fail
  refine HF.out.mono ?_
  rintro e w1 ⟨rfl, hb1⟩
  go_wp2_with fail
  go_ret
  exact ⟨rfl, hb0.trans (hb1.mono hb0.size)⟩

end Go.Proofs.Ytmimcgjobgfgfaa

