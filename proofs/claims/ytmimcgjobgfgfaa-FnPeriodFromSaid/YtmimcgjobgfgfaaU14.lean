/- Stacks of stays that a call owns (as slices of customers); without those at the top · periods (fold with a closure), stays taken off, who is left; chapter 8's functions of the program · Who is left: stays taken off the top, the one at the top, who is left when a customer comes · chapter 8's functions of the program -/
import Derived.Test.YtmimcgjobgfgfaaM22
import Derived.Test.YtmimcgjobgfgfaaKL
import Derived.Test.YtmimcgjobgfgfaaK17
namespace Go.Proofs.Ytmimcgjobgfgfaa
set_option linter.unusedVariables false
open Go.RowKit

theorem infoY : (Try.prog.info? 81).map (fun i => (i.zero, i.size, i.bytes)) = some (some (.agg #[.int .i64 0, .int .i64 0]), 2, 16) := by kernel_rfl
def SY (w : World) (base : Nat) (v : Value) (L : List (Int × Int)) : Prop := w.ownsRow base 81 2 v L.length (flatC L)
theorem SY.nil (w : World) (base : Nat) : SY w base (.slice none 0 0) [] := ⟨rfl, .inl ⟨rfl, rfl⟩⟩
theorem SY.empty (w : World) {base : Nat} (h : base ≤ w.heap.size) : SY (w.alloc (.cells #[] 81)) base (.slice (some ⟨w.heap.size, 0, none⟩) 0 0) [] :=
  ⟨rfl, .inr ⟨w.heap.size, 0, #[], rfl, h, heap_alloc_new _ _, Nat.le_refl _, by simp [maxLen], rfl, rfl⟩⟩
theorem SY.below {w w' : World} {base B : Nat} {v : Value} {xs : List (Int × Int)} (h : SY w base v xs) (hb : Below B w w') (hB : w.heap.size ≤ B) : SY w' base v xs := owns_below h hb hB
theorem SY.mono {w : World} {base base' : Nat} {v : Value} {xs : List (Int × Int)} (h : SY w base v xs) (hB : base' ≤ base) : SY w base' v xs := owns_mono h hB
theorem SY.form {w : World} {base : Nat} {v : Value} {L : List (Int × Int)} (h : SY w base v L) : ∃ A c, v = .slice A L.length c ∧ L.length ≤ c ∧ c ≤ maxLen ∧ Cs w w.heap.size A L := by
  have hl := owns_lt h
  rcases h.2 with ⟨rfl, h0⟩ | ⟨g, cap, cur, rfl, hg, hh, h1, h2, h3, h4⟩
  · exact ⟨none, 0, by rw [h0], by omega, by simp [maxLen], fun hp => by omega⟩
  · refine ⟨_, cap, rfl, h1, h2, fun hp => ⟨g, 0, rfl, hl g (by simp [Value.ownBlock]), fun k hk => ?_⟩⟩
    have := flatC_at L k hk
    refine ⟨?_, ?_⟩
    · rw [Nat.zero_add, World.ownsRow.cellAt h (k * 2) (by omega)]; exact this.1
    · rw [Nat.zero_add, World.ownsRow.cellAt h (k * 2 + 1) (by omega)]; exact this.2
theorem SY.cells {w : World} {base g n c : Nat} {M : List (Int × Int)} (h : SY w base (.slice (some ⟨g, 0, none⟩) n c) M) :
    n = M.length ∧ (∀ k, k < n → w.cell? ⟨g, k * 2, none⟩ = some (.int .i64 (X M k)) ∧ w.cell? ⟨g, k * 2 + 1, none⟩ = some (.int .i64 (Y M k))) ∧ ∀ j, w.frozen? ⟨g, j, none⟩ = false := by
  have hn : n = M.length := by
    rcases h.2 with ⟨h2, _⟩ | ⟨g', cap, cur, h2, _⟩
    · cases h2
    · injection h2
  subst hn
  refine ⟨rfl, fun k hk => ?_, fun j => World.ownsRow.frozenAt h j⟩
  have := flatC_at M k hk
  exact ⟨(World.ownsRow.cellAt h (k * 2) (by omega)).trans this.1, (World.ownsRow.cellAt h (k * 2 + 1) (by omega)).trans this.2⟩
theorem SY.alloc {w : World} {base : Nat} {v : Value} {xs : List (Int × Int)} (h : SY w base v xs) (o : Obj) : SY (w.alloc o) base v xs := World.ownsRow.alloc h o
theorem SY.drew {w : World} {base : Nat} {v : Value} {xs : List (Int × Int)} (h : SY w base v xs) : SY w.drew base v xs := h
theorem step_Y {w : World} {ops : Array Oper} {o : Oper} {a : Act} {K : Act → World → Prop} {Q : Exit → Act → World → Prop} {E : Prop} (hgd : o.guard = none) (s x : Operand)
    (ho : o.op = .call { callee := .builtin .append, args := #[s, x], argTypes := #[55, 55] })
    (base : Nat) (v : Value) (L : List (Int × Int)) (p q : Int) (B : Nat) (hs : a.eval s = v) (hown : SY w base v L) (hx : a.eval x = .slice (some ⟨B, 0, none⟩) 1 1)
    (hB : w.heap[B]? = some (.cells #[.int .i64 p, .int .i64 q] 81 (0, 0))) (hlen : L.length ≤ 1000000000000) (hbase : base ≤ w.heap.size)
    (h : ∀ g cap w', SY w' base (.slice (some ⟨g, 0, none⟩) (L.length + 1) cap) (L ++ [(p, q)]) → w.grownBy w' v.ownBlock → Below base w w' → K (a.put o.dst (.slice (some ⟨g, 0, none⟩) (L.length + 1) cap)) w') :
    if Region.wanted o (yielded ops a.tmps) = true then Oper.wp Try.prog o a w K Q else E := by
  obtain ⟨i0, hi, hz0, hz1, hz2⟩ := info_parts infoY
  refine step_append_lies w hgd s x _ ho base 81 i0 _ 2 16 Try.underlying55 hi hz0 hz1 hz2 rfl (by decide) v L.length _ hs hown
    ⟨B, 0, none⟩ 1 1 [.int .i64 p, .int .i64 q] hx rfl (World.news_of_block (cs := #[.int .i64 p, .int .i64 q]) hB) (by simp [Value.oneCell']) (by decide) (by simp only [maxLen]; omega) (by omega) hbase _ rfl ?_
  intro g cap w' h1 h2 _ _
  exact h g cap w' (by simpa [SY, flatC_snoc] using h1) h2 ((Below.refl _ _).grown h2 hbase (owns_base hown))
theorem SY.isOf {w : World} {base n c : Nat} {A : Option Addr} {xs : List (Int × Int)} (h : SY w base (.slice A n c) xs) : n = xs.length ∧ Cs w w.heap.size A xs := by
  obtain ⟨A', c', e, _, _, h'⟩ := h.form
  injection e with e1 e2 e3
  subst e1
  exact ⟨e2, h'⟩
theorem SY.grownR {w w' : World} {base : Nat} {row : Option Nat} {v : Value} {L : List (Int × Int)} (h : SY w base v L) (hg : w.grownBy w' row) (hr : ∀ r, row = some r → r < base) : SY w' base v L := by
  refine ⟨h.1, ?_⟩
  have hl := owns_lt h
  rcases h.2 with h2 | ⟨g, cap, cur, rfl, hgb, hh, rest⟩
  · exact .inl h2
  · have := hl g (by simp [Value.ownBlock])
    exact .inr ⟨g, cap, cur, rfl, hgb, by rw [hg.block g (by omega) (fun e => by have := hr _ e.symm; omega)]; exact hh, rest⟩
theorem SY.setLow {w : World} {base r o : Nat} {v u : Value} {xs : List (Int × Int)} (h : SY w base v xs) (hr : r < base) : SY (w.setCell ⟨r, o, none⟩ u) base v xs :=
  h.grownR (row := some r) ⟨rfl, rfl, rfl, by simp [World.setCell], fun k _ hne => Below.heap_setCell _ _ _ _ (fun e => hne (by rw [e]))⟩ (fun r' e => by cases e; exact hr)

theorem flatC_take (L : List (Int × Int)) : ∀ k, flatC (L.take k) = (flatC L).take (k * 2) := by
  induction L with
  | nil => intro k; simp [flatC]
  | cons d L ih =>
    intro k
    cases k with
    | zero => simp [flatC]
    | succ k =>
      have := ih k
      have e1 : (k + 1) * 2 = k * 2 + 1 + 1 := by omega
      simp only [flatC, List.take_succ_cons, List.flatMap_cons, e1, List.cons_append, List.nil_append] at this ⊢
      rw [this]
theorem SY.cut {w : World} {base c : Nat} {A : Option Addr} {L : List (Int × Int)} (h : SY w base (.slice A L.length c) L) (k : Nat) (hk : k ≤ L.length) : SY w base (.slice A k c) (L.take k) := by
  have hl : (L.take k).length = k := by rw [List.length_take]; omega
  have hfl : (flatC L).length = L.length * 2 := h.1
  refine ⟨by rw [hl, flatC_take, List.length_take]; omega, ?_⟩
  rw [hl]
  rcases h.2 with ⟨e, h0⟩ | ⟨g, cap, cur, e, hgb, hh, h1, h2, h3, h4⟩
  · injection e with e1 e2 e3
    subst e1 e3
    obtain rfl : k = 0 := by omega
    exact .inl ⟨rfl, rfl⟩
  · injection e with e1 e2 e3
    subst e1 e3
    refine .inr ⟨g, c, cur, rfl, hgb, hh, by omega, h2, h3, ?_⟩
    rw [flatC_take, ← h4, List.take_take, Nat.min_eq_left (by omega)]

/-! periods -/
/-- how long the period from a is, if only those up to a + m came -/
def perW (L : List (Int × Int)) (a m : Nat) : Int := perTo L a m - X L a
theorem perW_zero (L : List (Int × Int)) (a : Nat) : perW L a 0 = Y L a := by simp only [perW, perTo]; omega
theorem perW_succ (L : List (Int × Int)) (a m : Nat) : perW L a (m + 1) = if perW L a m ≤ X L (a + 1 + m) - X L a then perW L a m else perW L a m + Y L (a + 1 + m) := by
  by_cases h : X L (a + 1 + m) < perTo L a m
  · rw [if_neg (show ¬ perW L a m ≤ X L (a + 1 + m) - X L a by simp only [perW]; omega)]
    show perTo L a (m + 1) - X L a = perTo L a m - X L a + Y L (a + 1 + m)
    rw [show perTo L a (m + 1) = perTo L a m + Y L (a + 1 + m) from if_pos h]; omega
  · rw [if_pos (show perW L a m ≤ X L (a + 1 + m) - X L a by simp only [perW]; omega)]
    show perTo L a (m + 1) - X L a = perTo L a m - X L a
    rw [show perTo L a (m + 1) = perTo L a m from if_neg h]
theorem perW_all (L : List (Int × Int)) (a : Nat) : perW L a (L.length - (a + 1)) = perE L a - X L a := rfl
theorem perW_bd {L : List (Int × Int)} (hc : cOk L = true) (a m : Nat) (h : a + 1 + m ≤ L.length) : 1 ≤ perW L a m ∧ perW L a m ≤ 72 := by
  obtain ⟨p, h1, h2, h3, h4, h5⟩ := perTo_spec hc a m h
  have mo := sumTo_mono hc (i := a + 1) (j := p) (by omega) (by omega)
  have b := sumTo_le hc (j := p) (by omega)
  have c := sumTo_le hc (j := a) (by omega)
  have d := cOk_bd hc (k := a) (by omega)
  simp only [sumTo] at mo
  simp only [perW]; omega

attribute [local go_sem ↓] Go.wp_at_zero Go.wp_at_succ

set_option maxHeartbeats 1000000 in
theorem c_perStep (x y s p q : Int) (Bc : Nat) (w : World) (c1 : w.cell? ⟨Bc, 0, none⟩ = some (.int .i64 x)) (c2 : w.cell? ⟨Bc, 1, none⟩ = some (.int .i64 y)) (hx : 0 ≤ x ∧ x ≤ 60) (hp : 0 ≤ p ∧ p ≤ 60) (hs : 0 ≤ s ∧ s ≤ 100) (hq : 0 ≤ q ∧ q ≤ 9) :
    Calls Try.prog 84 #[.int .i64 s, .agg #[.int .i64 p, .int .i64 q], .pointer (some ⟨Bc, 0, none⟩)] w fun e w' => e = .returned (.int .i64 (if s ≤ p - x then s else s + q)) ∧ Below w.heap.size w w' := by
  have hlt := World.block_lt_of_cell? w _ c1
  have hb0 : Below w.heap.size w (w.alloc (.cells #[.int .i64 p, .int .i64 q] 37)) := (Below.refl _ _).alloc (Nat.le_refl _) _
  have d1 := (hb0.cell (p := ⟨Bc, 0, none⟩) hlt).trans c1
  have d2 := (hb0.cell (p := ⟨Bc, 1, none⟩) hlt).trans c2
  have HG := Lib.hid (fun W => c_gapTo x y p q W (by omega) (by omega) (by omega) (by omega))
  have q1 : IntKind.i64.wrap (s + q) = s + q := IntWalk.i64_in _ (by omega)
  by_cases h : s ≤ p - x
  · have h1 : decide (s ≤ p - x) = true := decide_eq_true h
    rw [if_pos h]
    clear h
    go_enter Try.func84, Try.ntmps84
    go_wp2_with fail
    refine (HG.out _).mono ?_
    rintro e w1 ⟨rfl, hb1⟩
    go_wp2_with fail
    go_ret
    exact ⟨rfl, hb0.trans (hb1.mono hb0.size)⟩
  · have h1 : decide (s ≤ p - x) = false := decide_eq_false h
    rw [if_neg h]
    clear h
    go_enter Try.func84, Try.ntmps84
    go_wp2_with fail
    refine (HG.out _).mono ?_
    rintro e w1 ⟨rfl, hb1⟩
    have cq : w1.cell? ⟨w.heap.size, 1, none⟩ = some (.int .i64 q) := (hb1.cell (p := ⟨w.heap.size, 1, none⟩) (by simp)).trans (by simp [cell_of_row _ w.heap.size 1 _ _ _ (heap_alloc_new w _)])
    go_wp2_with fail
    go_ret
    exact ⟨rfl, hb0.trans (hb1.mono hb0.size)⟩

set_option maxHeartbeats 1000000 in
theorem c_foldCP (acc : Nat → Int) (Bc : Nat) (L : List (Int × Int)) (A : Option Addr) (c B : Nat) (w : World) (hA : Cs w B A L) (hB : B ≤ w.heap.size) (hn : L.length ≤ 140737488351232)
    (hs : ∀ k W, k < L.length → Below w.heap.size w W → Calls Try.prog 84 #[.int .i64 (acc k), .agg #[.int .i64 (X L k), .int .i64 (Y L k)], .pointer (some ⟨Bc, 0, none⟩)] W fun e w' => e = .returned (.int .i64 (acc (k + 1))) ∧ Below W.heap.size W w') :
    Calls Try.prog 83 #[.slice A L.length c, .int .i64 (acc 0), .func (.func 84) #[] #[.pointer (some ⟨Bc, 0, none⟩)]] w fun e w' => e = .returned (.int .i64 (acc L.length)) ∧ Below w.heap.size w w' := by
  have Hs := Lib.hid hs; clear hs
  go_enter Try.func83, Try.ntmps83
  go_wp2_with fail
  go_loopw [7, 13] (fun a i wr => ∃ k : Nat, k ≤ L.length ∧ i = .int .i64 k ∧ a = .int .i64 (acc k) ∧ Below w.heap.size w wr)
      (fun _ i _ => L.length - (intOf i).toNat)
  case atStart => exact ⟨0, Nat.zero_le _, rfl, rfl, Below.refl _ _⟩
  case round =>
    obtain ⟨k, hk, rfl, rfl, hb⟩ := hrel
    by_cases hlt : k < L.length
    · obtain ⟨b, off, rfl, hlb, hc⟩ := hA (by omega)
      have c1 := (hb.cell (p := ⟨b, off + k * 2, none⟩) (show b < w.heap.size by omega)).trans (hc k hlt).1
      have c2 := (hb.cell (p := ⟨b, off + k * 2 + 1, none⟩) (show b < w.heap.size by omega)).trans (hc k hlt).2
      clear hc
      have hsz := hb.size
      have hbx : Below w.heap.size w (wr.alloc (.cells #[.int .i64 (X L k), .int .i64 (Y L k)] 37)) := hb.alloc hsz _
      have HW := Lib.hid (Hs.out k _ hlt hbx)
      go_wp2_with fail
      refine HW.out.mono ?_
      rintro e w1 ⟨rfl, hb1⟩
      go_wp2_with fail
      go_roundw
      case rel => exact ⟨k + 1, by omega, by go_num, rfl, hbx.trans (hb1.mono hbx.size)⟩
      case measure => simp [intOf]; omega
    · go_wp2_with fail
      go_ret
      obtain rfl : k = L.length := by omega
      exact ⟨rfl, hb⟩

set_option maxHeartbeats 1000000 in
theorem c_periodWith (L : List (Int × Int)) (a : Nat) (A : Option Addr) (c B : Nat) (w : World) (hc : cOk L = true) (ha : a < L.length) (hA : Cs w B A (L.drop (a + 1))) (hB : B ≤ w.heap.size) :
    Calls Try.prog 67 #[.agg #[.int .i64 (X L a), .int .i64 (Y L a)], .slice A (L.drop (a + 1)).length c] w fun e w' => e = .returned (.int .i64 (perE L a - X L a)) ∧ Below w.heap.size w w' := by
  have hl := cOk_len hc
  have hd : (L.drop (a + 1)).length = L.length - (a + 1) := List.length_drop
  have hb0 : Below w.heap.size w (w.alloc (.cells #[.int .i64 (X L a), .int .i64 (Y L a)] 37)) := (Below.refl _ _).alloc (Nat.le_refl _) _
  have bd := cOk_bd hc ha
  have cA : ∀ o, (w.alloc (.cells #[.int .i64 (X L a), .int .i64 (Y L a)] 37)).cell? ⟨w.heap.size, o, none⟩ = #[Value.int .i64 (X L a), .int .i64 (Y L a)][o]? := fun o => cell_of_row _ w.heap.size o _ _ _ (heap_alloc_new w _)
  have HF := Lib.hid (c_foldCP (perW L a) w.heap.size (L.drop (a + 1)) A c w.heap.size (w.alloc (.cells #[.int .i64 (X L a), .int .i64 (Y L a)] 37)) ((hA.more hB).below hb0) hb0.size (by omega) (fun k W hk hW => by
    rw [hd] at hk
    have b2 := cOk_bd hc (k := a + 1 + k) (by omega)
    have b3 := perW_bd hc a k (by omega)
    have K := c_perStep (X L a) (Y L a) (perW L a k) (X L (a + 1 + k)) (Y L (a + 1 + k)) w.heap.size W ((hW.cell (p := ⟨w.heap.size, 0, none⟩) (by simp)).trans (cA 0)) ((hW.cell (p := ⟨w.heap.size, 1, none⟩) (by simp)).trans (cA 1)) (by omega) (by omega) (by omega) (by omega)
    rw [perW_succ, X_drop, Y_drop]
    exact K))
  rw [perW_zero, hd, perW_all] at HF
  rw [hd]
  have e0 := cA 0
  have e1 := cA 1
  clear cA bd hA hd
  go_enter Try.func67, Try.ntmps67
  go_wp2_with fail
  refine HF.out.mono ?_
  rintro e w1 ⟨rfl, hb1⟩
  go_wp2_with fail
  go_ret
  exact ⟨rfl, hb0.trans (hb1.mono hb0.size)⟩

end Go.Proofs.Ytmimcgjobgfgfaa

namespace Go.Proofs.Ytmimcgjobgfgfaa
set_option linter.unusedVariables false
open Go.RowKit
attribute [local go_sem ↓] Go.wp_at_zero Go.wp_at_succ

set_option maxHeartbeats 2000000 in
theorem c_at (S : List (Int × Int)) (A : Option Addr) (c base : Nat) (x : Int) (w : World) (h : SY w base (.slice A S.length c) S) (hn : S.length ≤ 1000000) :
    Calls Try.prog 68 #[.slice A S.length c, .int .i64 x] w fun e w' => e = .returned (.slice A (popS S x).length c) ∧ w' = w := by
  have HL := Lib.hid (popS_len S x)
  obtain ⟨A', c', e, hc1, hc2, hcs⟩ := h.form
  injection e with e1 e2 e3
  subst e1 e3
  have HC := Lib.hid hcs
  clear hcs h
  go_enter Try.func68, Try.ntmps68
  go_wp2_with fail
  go_loopw [0] (fun v wr => ∃ m : Nat, m ≤ S.length ∧ v = .slice A m c ∧ keptTo S x m = keptTo S x S.length ∧ wr = w) (fun v _ => match v with | .slice _ m _ => m | _ => 0)
  case atStart => exact ⟨S.length, Nat.le_refl _, rfl, rfl, rfl⟩
  case round =>
    obtain ⟨m, hm, rfl, hk, rfl⟩ := hrel
    cases m with
    | zero =>
      have HL2 := Lib.hid (show (popS S x).length = 0 by rw [HL.out, ← hk]; rfl)
      clear hk
      go_wp2_with fail
      go_ret
      exact ⟨by rw [HL2.out]; rfl, rfl⟩
    | succ m =>
      obtain ⟨b, off, rfl, hlb, hcc⟩ := HC.out (by omega)
      have c1 := (hcc m (by omega)).2
      have k0 : ((m + 1 : Nat) : Int) - 1 = (m : Int) := by omega
      have k1 : (0 : Int) < ((m + 1 : Nat) : Int) := by omega
      have k2 : (m : Int) < ((m + 1 : Nat) : Int) := by omega
      have k3 : (m : Int) ≤ (c : Int) := by omega
      clear hcc
      by_cases hy : Y S m ≤ x
      · have hd : decide (Y S m ≤ x) = true := decide_eq_true hy
        have HK := Lib.hid (show keptTo S x m = keptTo S x S.length by rw [← hk]; exact (if_pos hy).symm)
        clear hk hy
        go_wp2_with fail
        go_roundw
        case rel => exact ⟨m, by omega, rfl, HK.out, trivial⟩
        case measure => simp
      · have hd : decide (Y S m ≤ x) = false := decide_eq_false hy
        have HL2 := Lib.hid (show (popS S x).length = m + 1 by rw [HL.out, ← hk]; exact if_neg hy)
        clear hk hy
        go_wp2_with fail
        go_ret
        exact ⟨by rw [HL2.out]; rfl, rfl⟩

set_option maxHeartbeats 1000000 in
theorem c_top (S : List (Int × Int)) (A : Option Addr) (c base : Nat) (w : World) (h : SY w base (.slice A S.length c) S) (hn : S.length ≤ 1000000) :
    Calls Try.prog 49 #[.slice A S.length c] w fun e w' => e = .returned (.int .i64 (if S.length = 0 then -1 else X S (S.length - 1))) ∧ w' = w := by
  obtain ⟨A', c', e, hc1, hc2, hcs⟩ := h.form
  injection e with e1 e2 e3
  subst e1 e3
  clear h
  by_cases h0 : S.length = 0
  · rw [if_pos h0]
    have hz : ((S.length : Int) == 0) = true := beq_iff_eq.2 (by omega)
    clear hcs
    go_enter Try.func49, Try.ntmps49
    go_wp2_with fail
    go_ret
    exact ⟨rfl, rfl⟩
  · rw [if_neg h0]
    obtain ⟨b, off, rfl, hlb, hcc⟩ := hcs (by omega)
    have c1 := (hcc (S.length - 1) (by omega)).1
    have hz : ((S.length : Int) == 0) = false := beq_eq_false_iff_ne.2 (by omega)
    have k1 : (0 : Int) ≤ (S.length : Int) - 1 := by omega
    have k2 : (S.length : Int) - 1 < (S.length : Int) := by omega
    have k3 : ((S.length : Int) - 1).toNat = S.length - 1 := by omega
    have k4 : (1 : Int) ≤ (S.length : Int) := by omega
    clear hcc h0
    go_enter Try.func49, Try.ntmps49
    go_wp2_with fail
    go_ret
    exact ⟨rfl, rfl⟩

theorem cs_from {w : World} {B b off : Nat} {L : List (Int × Int)} (hlb : b < B) (hcc : Cells w b off L) (k : Nat) : Cs w B (some ⟨b, off + k * 2, none⟩) (L.drop k) := by
  refine fun _ => ⟨b, off + k * 2, rfl, hlb, fun i hi => ?_⟩
  rw [List.length_drop] at hi
  have := hcc (k + i) (by omega)
  rw [X_drop, Y_drop, show off + k * 2 + i * 2 = off + (k + i) * 2 by omega]
  exact this

set_option maxRecDepth 4000 in
set_option maxHeartbeats 2000000 in
theorem c_periodAt (L : List (Int × Int)) (A : Option Addr) (c a : Nat) (w : World) (hc : cOk L = true) (ha : a < L.length) (hA : Cs w w.heap.size A L) (hcap : L.length ≤ c) :
    Calls Try.prog 43 #[.slice A L.length c, .int .i64 (a : Int)] w fun e w' => e = .returned (.int .i64 (perE L a - X L a)) ∧ Below w.heap.size w w' := by
  have hl := cOk_len hc
  obtain ⟨b, off, rfl, hlb, hcc⟩ := hA (by omega)
  have c1 := (hcc a ha).1
  have c2 := (hcc a ha).2
  have hd : (L.drop (a + 1)).length = L.length - (a + 1) := List.length_drop
  have k1 : (0 : Int) ≤ (a : Int) := by omega
  have k2 : (a : Int) < (L.length : Int) := by omega
  have k3 : (a : Int) + 1 ≤ (L.length : Int) := by omega
  have k4 : ((a : Int) + 1).toNat = a + 1 := by omega
  have k5 : IntKind.i64.wrap ((a : Int) + 1) = (a : Int) + 1 := IntWalk.i64_in _ (by omega)
  have k6 : (0 : Int) ≤ (a : Int) + 1 := by omega
  have k7 : ((L.length : Int) - ((a : Int) + 1)).toNat = L.length - (a + 1) := by omega
  have k8 : (L.length : Int) ≤ (c : Int) := by omega
  have c1' := WB.cell (B := w.heap.size) hlb c1
  have c2' := WB.cell (B := w.heap.size) hlb c2
  by_cases hlt : a + 1 < c
  · have HP := Lib.hid (show ∀ W, Below w.heap.size w W → Calls Try.prog 67 #[.agg #[.int .i64 (X L a), .int .i64 (Y L a)], .slice (some ⟨b, off + (a + 1) * 2, none⟩) (L.length - (a + 1)) (c - (a + 1))] W fun e w' => e = .returned (.int .i64 (perE L a - X L a)) ∧ Below W.heap.size W w' from fun W hb => by
      have K := c_periodWith L a (some ⟨b, off + (a + 1) * 2, none⟩) (c - (a + 1)) w.heap.size W hc ha ((cs_from hlb hcc (a + 1)).below hb) hb.size
      rw [hd] at K; exact K)
    have k9 : (a : Int) + 1 < (c : Int) := by omega
    clear hc hcc hA hd
    go_enter Try.func43, Try.ntmps43
    go_wp2_with fail
    refine wp_region_wb w.heap.size (by kernel_rfl) (by kernel_rfl) ?_
    repeat (go_big_quiet_step ((go_at_call 67; exact Calls.inB (Nat.le_refl _) (HP.out _ (WB.below _)))))
    refine wpQuiet_nil ?_
    rintro w5 ⟨⟨_, hb5⟩, rfl⟩
    go_wp2_with fail
    go_ret
    exact ⟨rfl, hb5⟩
  · obtain ⟨rfl, hcl⟩ : c = a + 1 ∧ L.length = a + 1 := by omega
    have HP := Lib.hid (show ∀ W, Below w.heap.size w W → Calls Try.prog 67 #[.agg #[.int .i64 (X L a), .int .i64 (Y L a)], .slice (some ⟨b, off, none⟩) 0 0] W fun e w' => e = .returned (.int .i64 (perE L a - X L a)) ∧ Below W.heap.size W w' from fun W hb => by
      have K := c_periodWith L a (some ⟨b, off, none⟩) 0 w.heap.size W hc ha (fun h => by rw [hd] at h; omega) hb.size
      rw [hd, hcl, Nat.sub_self] at K; exact K)
    clear hc hcc hA hd hlt
    go_enter Try.func43, Try.ntmps43
    go_wp2_with fail
    refine wp_region_wb w.heap.size (by kernel_rfl) (by kernel_rfl) ?_
    repeat (go_big_quiet_step ((go_at_call 67; exact Calls.inB (Nat.le_refl _) (HP.out _ (WB.below _)))))
    refine wpQuiet_nil ?_
    rintro w5 ⟨⟨_, hb5⟩, rfl⟩
    go_wp2_with fail
    go_ret
    exact ⟨rfl, hb5⟩

set_option maxRecDepth 4000 in
set_option maxHeartbeats 4000000 in
theorem c_leftWhen (L : List (Int × Int)) (A : Option Addr) (c a : Nat) (w : World) (hc : cOk L = true) (ha : a < L.length) (hA : Cs w w.heap.size A L) (hcap : L.length ≤ c) :
    Calls Try.prog 48 #[.slice A L.length c, .int .i64 (a : Int)] w fun e w' => ∃ A' c', e = .returned (.slice A' (leftL L a).length c') ∧ SY w' w.heap.size (.slice A' (leftL L a).length c') (leftL L a) ∧ Below w.heap.size w w' := by
  have hl := cOk_len hc
  obtain ⟨b, off, rfl, hlb, hcc⟩ := hA (by omega)
  have HA := Lib.hid (fun W (hb : Below w.heap.size w W) => show Cs W W.heap.size (some ⟨b, off, none⟩) L from (hA.below hb).more hb.size)
  have HC := Lib.hid hcc
  have H := Lib.hid hc
  have HN := Lib.hid (fun j => stk_len L j)
  have HPL := Lib.hid (fun j => show (leftL L j).length ≤ j from leftL_len_le L j)
  have HST := Lib.hid (fun j => show stk L (j + 1) = leftL L j ++ [((j : Int), perE L j)] from rfl)
  have k1 : (0 : Int) ≤ (a : Int) := by omega
  have k2 : (a : Int) ≤ (L.length : Int) := by omega
  have k3 : (a : Int) ≤ (c : Int) := by omega
  have k4 : (a : Int) < (L.length : Int) := by omega
  have k5 : (L.length : Int) ≤ (c : Int) := by omega
  clear hc hcc hA
  go_enter Try.func48, Try.ntmps48
  go_wp2_with fail
  go_loopw [5, 12] (fun v i wr => ∃ k : Nat, k ≤ a ∧ i = .int .i64 k ∧ SY wr w.heap.size v (stk L k) ∧ Below w.heap.size w wr) (fun _ i _ => a - (intOf i).toNat)
  case atStart => exact ⟨0, by omega, rfl, SY.nil _ _, Below.refl _ _⟩
  case round =>
    obtain ⟨k, hk, rfl, hown, hb⟩ := hrel
    have hsz := hb.size
    obtain ⟨G, gc, rfl, hg1, hg2, -⟩ := hown.form
    by_cases hlt : k < a
    · have c1 := (hb.cell (p := ⟨b, off + k * 2, none⟩) hlb).trans (HC.out k (by omega)).1
      have c2 := (hb.cell (p := ⟨b, off + k * 2 + 1, none⟩) hlb).trans (HC.out k (by omega)).2
      have bd := cOk_bd H.out (k := k) (by omega)
      have pb := perE_bd H.out (a := k) (by omega)
      have q1 : IntKind.i64.wrap (X L k + (perE L k - X L k)) = perE L k := by rw [IntWalk.i64_in _ (by omega)]; omega
      obtain ⟨W1, hW1⟩ : ∃ W1, wr.alloc (.cells #[.int .i64 (X L k), .int .i64 (Y L k)] 37) = W1 := ⟨_, rfl⟩
      have hb1 : Below w.heap.size w W1 := by rw [← hW1]; exact hb.alloc hsz _
      have hs1 : W1.heap.size = wr.heap.size + 1 := by rw [← hW1]; simp
      have own1 : SY W1 w.heap.size (.slice G (stk L k).length gc) (stk L k) := by rw [← hW1]; exact hown.alloc _
      have cX : W1.cell? ⟨wr.heap.size, 0, none⟩ = some (.int .i64 (X L k)) := by rw [← hW1]; simp [cell_of_row _ wr.heap.size 0 _ _ _ (heap_alloc_new wr _)]
      have hn := HN.out k
      have hpl := HPL.out k
      have HT := Lib.hid (fun W (hW : Below W1.heap.size W1 W) => show Calls Try.prog 68 #[.slice G (stk L k).length gc, .int .i64 (X L k)] W fun e w' => e = .returned (.slice G (leftL L k).length gc) ∧ w' = W from c_at (stk L k) G gc w.heap.size (X L k) W (own1.below hW (Nat.le_refl _)) (by omega))
      have HP := Lib.hid (show Calls Try.prog 43 #[.slice (some ⟨b, off, none⟩) L.length c, .int .i64 (k : Int)] W1.drew fun e w' => e = .returned (.int .i64 (perE L k - X L k)) ∧ Below W1.heap.size W1 w' from (c_periodAt L (some ⟨b, off, none⟩) c k W1.drew H.out (by omega) (HA.out _ hb1.drew) hcap).mono fun e w' ⟨h1, h2⟩ => ⟨h1, (Below.refl _ W1).drew.trans h2⟩)
      have HO := Lib.hid (fun W (hW : Below W1.heap.size W1 W) => show SY W w.heap.size (.slice G (leftL L k).length gc) (leftL L k) from by
        have K := (own1.below hW (Nat.le_refl _)).cut (leftL L k).length (by rw [leftL, popS_len]; exact keptTo_le _ _ _)
        rw [leftL, popS_len] at K ⊢
        exact K)
      have HX := Lib.hid (fun W (hW : Below W1.heap.size W1 W) => show W.cell? ⟨wr.heap.size, 0, none⟩ = some (.int .i64 (X L k)) from (hW.cell (p := ⟨wr.heap.size, 0, none⟩) (show wr.heap.size < W1.heap.size by omega)).trans cX)
      have hq5 : (leftL L k).length ≤ 1000000000000 := by omega
      have HG := Lib.hid (fun r (hr : (Value.slice G (leftL L k).length gc).ownBlock = some r) => show r < wr.heap.size from owns_lt hown r (by cases G with | none => cases hr | some g => exact hr))
      have hd0 : Below W1.heap.size W1 W1.drew := (Below.refl _ W1).drew
      generalize perE L k - X L k = q at q1 HP
      clear own1 bd pb
      go_wp2_with fail
      clear hW1 c1 c2
      go_region_held3 (fun w' => w'.cell? ⟨wr.heap.size, 0, none⟩ = some (.int .i64 (X L k)))
        (first
          | go_keep
          | exact hgr7.cell (HX.out _ (hb5.alloc hb5.size _)) (fun e => by have h1 := HG.out _ e.symm; simp at h1)
          | exact HX.out _ (hb5.alloc hb5.size _)
          | exact HX.out _ hb5
          | exact HX.out _ hd0)
        (first
          | (go_at_call 68; refine (HT.out _ hd0).mono ?_; rintro e w6 ⟨rfl, rfl⟩)
          | (go_at_call 68; refine (HT.out _ (hb5.alloc hb5.size _)).mono ?_; rintro e w6 ⟨rfl, rfl⟩)
          | (go_at_call 68; refine (HT.out _ hb5).mono ?_; rintro e w6 ⟨rfl, rfl⟩)
          | (go_at_call 43; refine HP.out.mono ?_; rintro e w5 ⟨rfl, hb5⟩)
          | (refine step_Y (by rfl) (.tmp 20) (.tmp 29) (by rfl) w.heap.size (.slice G (leftL L k).length gc) (leftL L k) (k : Int) (perE L k) w5.heap.size (by rfl) (HO.out _ (hb5.alloc hb5.size _)) (by rfl) (heap_alloc_new _ _) hq5 ?_ ?_; (have h56 := hb5.size; simp; omega); intro g cap w7 own7 hgr7 hb7))
      rw [← HST.out] at own7
      have hbx : Below w.heap.size w w7 := (hb1.trans ((hb5.alloc hb5.size _).mono (by omega))).trans hb7
      go_wp2_with fail
      go_roundw
      case rel => exact ⟨k + 1, by omega, by go_num, by exact own7, hbx⟩
      case measure => simp [intOf]; omega
    · obtain rfl : k = a := by omega
      have c1 := (hb.cell (p := ⟨b, off + k * 2, none⟩) hlb).trans (HC.out k ha).1
      have hn := HN.out k
      have HT := Lib.hid (show Calls Try.prog 68 #[.slice G (stk L k).length gc, .int .i64 (X L k)] wr fun e w' => e = .returned (.slice G (leftL L k).length gc) ∧ w' = wr from c_at (stk L k) G gc w.heap.size (X L k) wr hown (by omega))
      have HO := Lib.hid (show SY wr w.heap.size (.slice G (leftL L k).length gc) (leftL L k) from by
        have K := hown.cut (leftL L k).length (by rw [leftL, popS_len]; exact keptTo_le _ _ _)
        rw [leftL, popS_len] at K ⊢
        exact K)
      have hlf : ¬ ((k : Int) < (k : Int)) := by omega
      clear hlt
      go_wp2_with fail
      refine HT.out.mono ?_
      rintro e w6 ⟨rfl, rfl⟩
      go_wp2_with fail
      go_ret
      exact ⟨_, _, rfl, HO.out, hb⟩

set_option maxHeartbeats 1000000 in
theorem c_iLastTimes (L : List (Int × Int)) (A : Option Addr) (c : Nat) (w : World) (hA : Cs w w.heap.size A L) (hcap : L.length ≤ c) (hn : L.length ≤ 140737488351232) :
    Calls Try.prog 12 #[.slice A L.length c] w fun e w' => ∃ v, e = .returned v ∧ IO w' w.heap.size v (lastR L) ∧ Below w.heap.size w w' := by
  have hl : (orderR L 1).length ≤ 200 := by
    cases hp : byOk L 1 with
    | false => rw [orderR_no hp]; simp
    | true =>
      obtain ⟨hc, -⟩ : cOk L = true ∧ decide (0 ≤ (1 : Int) ∧ (1 : Int) ≤ 3) = true := by simpa [byOk] using hp
      obtain ⟨T, hT, hT2⟩ := lastLeave_nat hc
      rw [orderR_yes hp, hT, orderTo_len]; omega
  go_enter Try.func12, Try.ntmps12
  go_wp2_with fail
  refine (c_iOrderBy L A c 1 w hA hcap hn).mono ?_
  rintro e w1 ⟨v1, rfl, o1, hb1⟩
  have hs1 := hb1.size
  obtain ⟨O, d, rfl, -, -, hO⟩ := o1.form
  clear o1
  go_wp2_with fail
  refine (c_iTimesOf L (orderR L 1) A O c d _ ((hA.below hb1).more hs1) hO hn (by omega)).mono ?_
  rintro e w2 ⟨v2, rfl, o2, hb2⟩
  go_wp2_with fail
  go_ret
  exact ⟨_, rfl, o2.mono hs1, hb1.trans (hb2.mono hs1)⟩

theorem placeOk_no {L : List (Int × Int)} {t : Int} (h : placeOk L t = false) (hc : cOk L = true) : decide (0 ≤ t ∧ t ≤ (L.length : Int) - 1) = false := by
  refine decide_eq_false fun hp => ?_
  have : placeOk L t = true := by
    obtain ⟨m, rfl⟩ : ∃ m : Nat, t = m := ⟨t.toNat, by omega⟩
    exact placeOk_mk hc (by omega)
  rw [h] at this
  cases this

set_option maxHeartbeats 2000000 in
theorem c_iPeriodFrom (L : List (Int × Int)) (A : Option Addr) (c : Nat) (t : Int) (w : World) (hA : Cs w w.heap.size A L) (hcap : L.length ≤ c) (hn : L.length ≤ 140737488351232) :
    Calls Try.prog 17 #[.slice A L.length c, .int .i64 t] w fun e w' => e = .returned (.int .i64 (perV L t)) ∧ Below w.heap.size w w' := by
  have HK := Lib.hid (c_iCustomersOk L A c w hA hn)
  have HI := Lib.hid (fun W => c_placeIs L A c t W hn)
  cases hp : placeOk L t with
  | true =>
    have HV := Lib.hid (perV_yes hp)
    obtain ⟨m, rfl, hml, hok⟩ := placeOk_nat hp
    have H := Lib.hid hok
    have hd : decide (0 ≤ (m : Int) ∧ (m : Int) ≤ (L.length : Int) - 1) = true := decide_eq_true (by omega)
    have HD := Lib.hid hd
    clear hp hok hd
    go_enter Try.func17, Try.ntmps17
    go_wp2_with fail
    refine HK.out.mono ?_
    rintro e w1 ⟨rfl, hb1⟩
    rw [H.out]
    go_wp2_with fail
    refine (HI.out _).mono ?_
    rintro e w' ⟨rfl, rfl⟩
    rw [HD.out]
    go_wp2_with fail
    refine (c_periodAt L A c m _ H.out hml ((hA.below hb1).more hb1.size) hcap).mono ?_
    rintro e w2 ⟨rfl, hb2⟩
    go_wp2_with fail
    go_ret
    exact ⟨by rw [HV.out, Int.toNat_natCast]; rfl, hb1.trans (hb2.mono hb1.size)⟩
  | false =>
    have HV := Lib.hid (perV_no hp)
    by_cases hok : cOk L = true
    · have H := Lib.hid hok
      have HD := Lib.hid (placeOk_no hp hok)
      clear hp hok
      go_enter Try.func17, Try.ntmps17
      go_wp2_with fail
      refine HK.out.mono ?_
      rintro e w1 ⟨rfl, hb1⟩
      rw [H.out]
      go_wp2_with fail
      refine (HI.out _).mono ?_
      rintro e w' ⟨rfl, rfl⟩
      rw [HD.out]
      go_wp2_with fail
      go_ret
      exact ⟨by rw [HV.out]; rfl, hb1⟩
    · have H := Lib.hid (show cOk L = false by simpa using hok)
      clear hp hok
      go_enter Try.func17, Try.ntmps17
      go_wp2_with fail
      refine HK.out.mono ?_
      rintro e w1 ⟨rfl, hb1⟩
      rw [H.out]
      go_wp2_with fail
      go_ret
      exact ⟨by rw [HV.out]; rfl, hb1⟩

set_option maxHeartbeats 2000000 in
theorem c_iLeftFor (L : List (Int × Int)) (A : Option Addr) (c : Nat) (t : Int) (w : World) (hA : Cs w w.heap.size A L) (hcap : L.length ≤ c) (hn : L.length ≤ 140737488351232) :
    Calls Try.prog 22 #[.slice A L.length c, .int .i64 t] w fun e w' => e = .returned (.int .i64 (leftV L t)) ∧ Below w.heap.size w w' := by
  have HK := Lib.hid (c_iCustomersOk L A c w hA hn)
  have HI := Lib.hid (fun W => c_placeIs L A c t W hn)
  cases hp : placeOk L t with
  | true =>
    have hV := leftV_yes hp
    obtain ⟨m, rfl, hml, hok⟩ := placeOk_nat hp
    rw [Int.toNat_natCast] at hV
    have hl := cOk_len hok
    have HV := Lib.hid (show (if (leftL L m).length = 0 then -1 else X (leftL L m) ((leftL L m).length - 1)) = leftV L m from by
      rw [hV]
      rcases leftL_top hok hml with ⟨e, hpp⟩ | ⟨k, e, hk, hpp⟩
      · rw [hpp, e]; rfl
      · rw [hpp, e, if_neg (by simp)]; simp [X])
    have hll := leftL_len_le L m
    have H := Lib.hid hok
    have hd : decide (0 ≤ (m : Int) ∧ (m : Int) ≤ (L.length : Int) - 1) = true := decide_eq_true (by omega)
    have HD := Lib.hid hd
    clear hp hok hd hV
    go_enter Try.func22, Try.ntmps22
    go_wp2_with fail
    refine HK.out.mono ?_
    rintro e w1 ⟨rfl, hb1⟩
    rw [H.out]
    go_wp2_with fail
    refine (HI.out _).mono ?_
    rintro e w' ⟨rfl, rfl⟩
    rw [HD.out]
    go_wp2_with fail
    refine (c_leftWhen L A c m _ H.out hml ((hA.below hb1).more hb1.size) hcap).mono ?_
    rintro e w2 ⟨G, gc, rfl, o2, hb2⟩
    go_wp2_with fail
    refine (c_top (leftL L m) G gc _ _ o2 (by omega)).mono ?_
    rintro e w3 ⟨rfl, rfl⟩
    rw [HV.out]
    go_wp2_with fail
    go_ret
    exact ⟨rfl, hb1.trans (hb2.mono hb1.size)⟩
  | false =>
    have HV := Lib.hid (leftV_no hp)
    by_cases hok : cOk L = true
    · have H := Lib.hid hok
      have HD := Lib.hid (placeOk_no hp hok)
      clear hp hok
      go_enter Try.func22, Try.ntmps22
      go_wp2_with fail
      refine HK.out.mono ?_
      rintro e w1 ⟨rfl, hb1⟩
      rw [H.out]
      go_wp2_with fail
      refine (HI.out _).mono ?_
      rintro e w' ⟨rfl, rfl⟩
      rw [HD.out]
      go_wp2_with fail
      go_ret
      exact ⟨by rw [HV.out]; rfl, hb1⟩
    · have H := Lib.hid (show cOk L = false by simpa using hok)
      clear hp hok
      go_enter Try.func22, Try.ntmps22
      go_wp2_with fail
      refine HK.out.mono ?_
      rintro e w1 ⟨rfl, hb1⟩
      rw [H.out]
      go_wp2_with fail
      go_ret
      exact ⟨by rw [HV.out]; rfl, hb1⟩

set_option maxHeartbeats 2000000 in
theorem c_iDeepAt (L : List (Int × Int)) (A : Option Addr) (c : Nat) (t : Int) (w : World) (hA : Cs w w.heap.size A L) (hcap : L.length ≤ c) (hn : L.length ≤ 140737488351232) :
    Calls Try.prog 25 #[.slice A L.length c, .int .i64 t] w fun e w' => e = .returned (.int .i64 (deepV L t)) ∧ Below w.heap.size w w' := by
  have HK := Lib.hid (c_iCustomersOk L A c w hA hn)
  have HI := Lib.hid (fun W => c_placeIs L A c t W hn)
  cases hp : placeOk L t with
  | true =>
    have hV := deepV_yes hp
    obtain ⟨m, rfl, hml, hok⟩ := placeOk_nat hp
    rw [Int.toNat_natCast] at hV
    have hl := cOk_len hok
    have HV := Lib.hid (show ((leftL L m).length : Int) + 1 = deepV L m from by rw [hV]; exact leftL_deep hok m hml)
    have hll := leftL_len_le L m
    have H := Lib.hid hok
    have hd : decide (0 ≤ (m : Int) ∧ (m : Int) ≤ (L.length : Int) - 1) = true := decide_eq_true (by omega)
    have HD := Lib.hid hd
    clear hp hok hd hV
    go_enter Try.func25, Try.ntmps25
    go_wp2_with fail
    refine HK.out.mono ?_
    rintro e w1 ⟨rfl, hb1⟩
    rw [H.out]
    go_wp2_with fail
    refine (HI.out _).mono ?_
    rintro e w' ⟨rfl, rfl⟩
    rw [HD.out]
    go_wp2_with fail
    refine (c_leftWhen L A c m _ H.out hml ((hA.below hb1).more hb1.size) hcap).mono ?_
    rintro e w2 ⟨G, gc, rfl, o2, hb2⟩
    go_wp2_with fail
    go_ret
    exact ⟨by rw [← HV.out]; rfl, hb1.trans (hb2.mono hb1.size)⟩
  | false =>
    have HV := Lib.hid (deepV_no hp)
    by_cases hok : cOk L = true
    · have H := Lib.hid hok
      have HD := Lib.hid (placeOk_no hp hok)
      clear hp hok
      go_enter Try.func25, Try.ntmps25
      go_wp2_with fail
      refine HK.out.mono ?_
      rintro e w1 ⟨rfl, hb1⟩
      rw [H.out]
      go_wp2_with fail
      refine (HI.out _).mono ?_
      rintro e w' ⟨rfl, rfl⟩
      rw [HD.out]
      go_wp2_with fail
      go_ret
      exact ⟨by rw [HV.out]; rfl, hb1⟩
    · have H := Lib.hid (show cOk L = false by simpa using hok)
      clear hp hok
      go_enter Try.func25, Try.ntmps25
      go_wp2_with fail
      refine HK.out.mono ?_
      rintro e w1 ⟨rfl, hb1⟩
      rw [H.out]
      go_wp2_with fail
      go_ret
      exact ⟨by rw [HV.out]; rfl, hb1⟩

end Go.Proofs.Ytmimcgjobgfgfaa

