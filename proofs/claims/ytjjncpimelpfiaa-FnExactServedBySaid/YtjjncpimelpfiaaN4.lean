/- The methods of busyPeriod; slices of periods that a call owns; withPeriod -/
import Derived.Test.YtjjncpimelpfiaaN1
import Derived.Test.YtjjncpimelpfiaaK2
namespace Go.Proofs.Ytjjncpimelpfiaa
set_option linter.unusedVariables false
open Go.RowKit
attribute [local go_sem ↓] Go.wp_at_zero Go.wp_at_succ

theorem infoB : (Try.prog.info? 66).map (fun i => (i.zero, i.size, i.bytes)) = some (some (.agg #[.int .i64 0, .int .i64 0]), 2, 16) := by kernel_rfl

set_option maxHeartbeats 1000000 in
theorem c_touches (a b p q : Int) (w : World) :
    Calls Try.prog 65 #[.agg #[.int .i64 a, .int .i64 b], .agg #[.int .i64 p, .int .i64 q]] w fun e w' => e = .returned (.bool (b == p)) ∧ Below w.heap.size w w' := by
  go_enter Try.func65, Try.ntmps65
  go_wp2_with fail
  go_ret
  refine ⟨rfl, ?_⟩
  (repeat (first | exact rfl | exact Below.refl _ _ | (with_reducible refine Below.drew ?_) | (with_reducible refine Below.drewN ?_ _) | (with_reducible refine Below.alloc ?_ ?_ _) | (with_reducible refine Below.setCell ?_ ?_ _) | (show _ ≤ _; focus (first | omega | (simp; done) | (simp; omega)))))

set_option maxHeartbeats 1000000 in
theorem c_mergedWith (a b p q : Int) (w : World) :
    Calls Try.prog 66 #[.agg #[.int .i64 a, .int .i64 b], .agg #[.int .i64 p, .int .i64 q]] w fun e w' => e = .returned (.agg #[.int .i64 a, .int .i64 q]) ∧ Below w.heap.size w w' := by
  go_enter Try.func66, Try.ntmps66
  go_wp2_with fail
  refine bodyPost_ret (v := .agg #[.int .i64 a, .int .i64 q]) (by simp [results, Try.f66, go_sem]) rfl ?_
  refine ⟨rfl, ?_⟩
  (repeat (first | exact rfl | exact Below.refl _ _ | (with_reducible refine Below.drew ?_) | (with_reducible refine Below.drewN ?_ _) | (with_reducible refine Below.alloc ?_ ?_ _) | (with_reducible refine Below.setCell ?_ ?_ _) | (show _ ≤ _; focus (first | omega | (simp; done) | (simp; omega)))))

set_option maxHeartbeats 1000000 in
theorem c_row (a b : Int) (w : World) :
    Calls Try.prog 52 #[.agg #[.int .i64 a, .int .i64 b]] w fun e w' => e = .returned (.slice (some ⟨w.heap.size + 1, 0, none⟩) 2 2) ∧ IO w' w.heap.size (.slice (some ⟨w.heap.size + 1, 0, none⟩) 2 2) [a, b] ∧ Below w.heap.size w w' := by
  go_enter Try.func52, Try.ntmps52
  go_wp2_with fail
  go_ret
  refine ⟨rfl, ?_, ?_⟩
  · have := IO.lit2 (w.alloc (.cells #[.int .i64 a, .int .i64 b] 66)) (base := w.heap.size) (by simp) a b
    simpa using this
  (repeat (first | exact rfl | exact Below.refl _ _ | (with_reducible refine Below.drew ?_) | (with_reducible refine Below.drewN ?_ _) | (with_reducible refine Below.alloc ?_ ?_ _) | (with_reducible refine Below.setCell ?_ ?_ _) | (show _ ≤ _; focus (first | omega | (simp; done) | (simp; omega)))))

set_option maxHeartbeats 1000000 in
theorem c_has (a b t : Int) (w : World) (hb : -9000000000000000000 ≤ b ∧ b ≤ 9000000000000000000) :
    Calls Try.prog 55 #[.agg #[.int .i64 a, .int .i64 b], .int .i64 t] w fun e w' => e = .returned (.bool (decide (a ≤ t ∧ t ≤ b - 1))) ∧ Below w.heap.size w w' := by
  have HK := Lib.hid (fun W => c_within t a (b - 1) W)
  go_enter Try.func55, Try.ntmps55
  go_wp2_with fail
  refine (HK.out _).mono ?_
  rintro e w' ⟨rfl, rfl⟩
  go_wp2_with fail
  go_ret
  refine ⟨by rw [Bool.decide_and]; rfl, ?_⟩
  (repeat (first | exact rfl | exact Below.refl _ _ | (with_reducible refine Below.drew ?_) | (with_reducible refine Below.drewN ?_ _) | (with_reducible refine Below.alloc ?_ ?_ _) | (with_reducible refine Below.setCell ?_ ?_ _) | (show _ ≤ _; focus (first | omega | (simp; done) | (simp; omega)))))

def PO (w : World) (base : Nat) (v : Value) (B : List (Int × Int)) : Prop := w.ownsRow base 66 2 v B.length (flatC B)
theorem PO.nil (w : World) (base : Nat) : PO w base (.slice none 0 0) [] := ⟨rfl, .inl ⟨rfl, rfl⟩⟩
theorem PO.below {w w' : World} {base B : Nat} {v : Value} {xs : List (Int × Int)} (h : PO w base v xs) (hb : Below B w w') (hB : w.heap.size ≤ B) : PO w' base v xs := owns_below h hb hB
theorem PO.mono {w : World} {base base' : Nat} {v : Value} {xs : List (Int × Int)} (h : PO w base v xs) (hB : base' ≤ base) : PO w base' v xs := owns_mono h hB
theorem PO.alloc {w : World} {base : Nat} {v : Value} {xs : List (Int × Int)} (h : PO w base v xs) (o : Obj) : PO (w.alloc o) base v xs := World.ownsRow.alloc h o
theorem PO.drew {w : World} {base : Nat} {v : Value} {xs : List (Int × Int)} (h : PO w base v xs) : PO w.drew base v xs := h
/-- it stays as it is where another block is turned -/
theorem PO.kept {w w' : World} {base : Nat} {row : Option Nat} {v : Value} {xs : List (Int × Int)} (h : PO w base v xs) (hg : w.grownBy w' row) (hr : ∀ r, v.ownBlock = some r → row ≠ some r) : PO w' base v xs := by
  refine ⟨h.1, ?_⟩
  have hl := owns_lt h
  rcases h.2 with h2 | ⟨g, cap, cur, rfl, hgb, hh, rest⟩
  · exact .inl h2
  · have := hl g (by simp [Value.ownBlock])
    exact .inr ⟨g, cap, cur, rfl, hgb, by rw [hg.block g (by omega) (fun e => hr g (by simp [Value.ownBlock]) e.symm)]; exact hh, rest⟩
theorem PO.cellsObj {w : World} {base : Nat} {v : Value} {xs : List (Int × Int)} (h : PO w base v xs) (r : Nat) (o : Obj) (hr : v.ownBlock = some r) (ho : w.heap[r]? = some o) : o.isCells = true := by
  rcases h.2 with ⟨rfl, _⟩ | ⟨g, cap, cur, rfl, hgb, hh, rest⟩
  · simp [Value.ownBlock] at hr
  · simp only [Value.ownBlock] at hr
    have e : g = r := by simpa using hr
    subst e
    rw [hh] at ho; cases ho; rfl
theorem PO.form {w : World} {base : Nat} {v : Value} {L : List (Int × Int)} (h : PO w base v L) : ∃ A c, v = .slice A L.length c ∧ (0 < L.length → ∃ g, A = some ⟨g, 0, none⟩ ∧ base ≤ g ∧ g < w.heap.size ∧ (∀ k, k < L.length → w.cell? ⟨g, k * 2, none⟩ = some (.int .i64 (X L k)) ∧ w.cell? ⟨g, k * 2 + 1, none⟩ = some (.int .i64 (Y L k))) ∧ ∀ j, w.frozen? ⟨g, j, none⟩ = false) := by
  have hl := owns_lt h
  rcases h.2 with ⟨rfl, h0⟩ | ⟨g, cap, cur, rfl, hg, hh, h1, h2, h3, h4⟩
  · exact ⟨none, 0, by rw [h0], fun hp => by omega⟩
  · refine ⟨_, cap, rfl, fun hp => ⟨g, rfl, hg, hl g (by simp [Value.ownBlock]), fun k hk => ?_, fun j => World.ownsRow.frozenAt h j⟩⟩
    have := flatC_at L k hk
    exact ⟨(World.ownsRow.cellAt h (k * 2) (by omega)).trans this.1, (World.ownsRow.cellAt h (k * 2 + 1) (by omega)).trans this.2⟩
theorem flatC_set2 (B : List (Int × Int)) : ∀ (k : Nat) (c : Int × Int), k < B.length → flatC (B.set k c) = ((flatC B).set (k * 2) (.int .i64 c.1)).set (k * 2 + 1) (.int .i64 c.2) := by
  induction B with
  | nil => intro k c hk; simp at hk
  | cons d B ih =>
    intro k c hk
    cases k with
    | zero => rfl
    | succ k =>
      have := ih k c (by simpa using hk)
      have e1 : (k + 1) * 2 = k * 2 + 1 + 1 := by omega
      simp only [flatC, List.set_cons_succ, List.flatMap_cons, e1, List.cons_append, List.nil_append] at this ⊢
      rw [this]
/-- both numbers of one of the periods are written anew -/
theorem PO.store {w : World} {base g n c : Nat} {B : List (Int × Int)} (h : PO w base (.slice (some ⟨g, 0, none⟩) n c) B) (k : Nat) (hk : k < B.length) (a b : Int) :
    PO ((w.setCell ⟨g, k * 2, none⟩ (.int .i64 a)).setCell ⟨g, k * 2 + 1, none⟩ (.int .i64 b)) base (.slice (some ⟨g, 0, none⟩) n c) (B.set k (a, b)) := by
  have hn : n = B.length := by
    rcases h.2 with ⟨h2, _⟩ | ⟨g', cap, cur, h2, _⟩
    · cases h2
    · injection h2
  subst hn
  have h1 := (World.ownsRow.stored (g := g) (cap := c) h (k * 2) (.int .i64 a)).1
  have h2 := (World.ownsRow.stored (g := g) (cap := c) h1 (k * 2 + 1) (.int .i64 b)).1
  unfold PO
  rw [List.length_set, flatC_set2 _ _ _ hk]
  exact h2

section
variable {w : World}
/-- out = append(out, period), in a region in the text's order -/
theorem app_P2 {ops : Array Oper} {rest : List Oper} {o : Oper} {a : Act} {Q : Exit → Act → World → Prop} (hgd : o.guard = none) (s x : Operand)
    (ho : o.op = .call { callee := .builtin .append, args := #[s, x], argTypes := #[63, 63] })
    (base : Nat) (v : Value) (L : List (Int × Int)) (p q : Int) (B : Nat) (hs : a.eval s = v) (hown : PO w base v L) (hx : a.eval x = .slice (some ⟨B, 0, none⟩) 1 1)
    (hB : w.heap[B]? = some (.cells #[.int .i64 p, .int .i64 q] 66 (0, 0))) (hlen : L.length ≤ 1000000000000) (hbase : base ≤ w.heap.size)
    (h : ∀ g cap w', PO w' base (.slice (some ⟨g, 0, none⟩) (L.length + 1) cap) (L ++ [(p, q)]) → w.grownBy w' v.ownBlock → wpList Try.prog ops Q rest (a.put o.dst (.slice (some ⟨g, 0, none⟩) (L.length + 1) cap)) w') :
    wpList Try.prog ops Q (o :: rest) a w := by
  obtain ⟨i0, hi, hz0, hz1, hz2⟩ := info_parts infoB
  refine wpList_append_lies w hgd s x _ ho base 66 i0 _ 2 16 Try.underlying63 hi hz0 hz1 hz2 rfl (by decide) v L.length _ hs hown
    ⟨B, 0, none⟩ 1 1 [.int .i64 p, .int .i64 q] hx rfl (World.news_of_block (cs := #[.int .i64 p, .int .i64 q]) hB) (by simp [Value.oneCell']) (by decide) (by simp only [maxLen]; omega) (by omega) hbase _ rfl ?_
  intro g cap w' h1 h2 _ _
  exact h g cap w' (by simpa [PO, flatC_snoc] using h1) h2
end

theorem grown_via {w w5 w7 : World} {row : Option Nat} (hb : Below w.heap.size w w5) (h : w5.grownBy w7 row) : w.grownBy w7 row :=
  ⟨h.os.trans hb.os, h.tape.trans hb.tape, h.output.trans hb.output, Nat.le_trans hb.size h.size, fun k hk hne => (h.block k (Nat.lt_of_lt_of_le hk hb.size) hne).trans (hb.block k hk)⟩

set_option maxHeartbeats 4000000 in
theorem c_withPeriod (B : List (Int × Int)) (t : Nat) (base : Nat) (v : Value) (w : World) (hown : PO w base v B) (hbase : base ≤ w.heap.size) (hl : B.length ≤ 1000000) :
    Calls Try.prog 64 #[v, .agg #[.int .i64 (t : Int), .int .i64 ((t : Int) + 1)]] w fun e w' => ∃ v', e = .returned v' ∧ PO w' base v' (busyNext B t) ∧ w.grownBy w' v.ownBlock := by
  obtain ⟨O, oc, rfl, hO⟩ := hown.form
  go_enter Try.func64, Try.ntmps64
  by_cases hB0 : B.length = 0
  · have hq1 : (B.length : Int) - 1 < 0 := by omega
    go_wp2_with fail
    have bB0 := heap_alloc_new w (.cells #[.int .i64 (t : Int), .int .i64 ((t : Int) + 1)] 66)
    refine wp_region_wb (w.heap.size + 1) (by kernel_rfl) (by kernel_rfl) ?_
    repeat (go_big_quiet_step (fail))
    refine wpQuiet_nil ?_
    rintro w5 ⟨⟨_, hb5⟩, rfl⟩
    have hbx : Below w.heap.size w w5 := ((Below.refl _ w).alloc (Nat.le_refl _) _).trans (hb5.mono (by omega))
    have hz5 := hb5.size
    simp only [World.size_alloc] at hz5
    have bB5 := (hb5.block w.heap.size (by omega)).trans bB0
    have cB := fun o => cell_of_row w5 w.heap.size o _ _ _ bB5
    have cB0 := cB 0
    have cB1 := cB 1
    have own5 : PO w5 base (.slice O B.length oc) B := hown.below hbx (Nat.le_refl _)
    have hBe : B = [] := List.eq_nil_of_length_eq_zero hB0
    have E2 := Lib.hid (show busyNext B (t : Int) = B ++ [((t : Int), (t : Int) + 1)] by rw [hBe]; rfl)
    have HX := Lib.hid (And.intro hbx own5)
    have HL := Lib.hid (show B.length ≤ 1000000000000 by omega)
    clear cB hBe hbx own5 hb5 hown hO hl hB0
    go_wp2_with (refine app_P2 ?_ (.tmp 20) (.tmp 22) ?_ base (.slice O B.length oc) B (t : Int) ((t : Int) + 1) w5.heap.size ?_ ?_ ?_ ?_ ?_ ?_ ?_; rfl; rfl; rfl; exact (HX.out.2.alloc _); rfl; exact (heap_alloc_new _ _); exact HL.out; exact (Nat.le_trans hbase (Nat.le_trans (by omega) (show w5.heap.size ≤ (w5.alloc _).heap.size by simp))); intro g7 cap w7 hown7 hgr7)
    go_ret
    exact ⟨_, rfl, by rw [E2.out]; exact hown7, grown_via (HX.out.1.alloc (by omega) _) hgr7⟩
  · have hpos : 0 < B.length := by omega
    obtain ⟨g0, rfl, hg0, hg0lt, hcl, hfz⟩ := hO hpos
    obtain ⟨d0, d1⟩ := hcl (B.length - 1) (by omega)
    have k0 : decide ((B.length : Int) - 1 < 0) = false := decide_eq_false (by omega)
    have k1 : (0 : Int) ≤ (B.length : Int) - 1 := by omega
    have k2 : (B.length : Int) - 1 < (B.length : Int) := by omega
    have k5 : ((B.length : Int) - 1).toNat = B.length - 1 := by omega
    have bB0 := heap_alloc_new w (.cells #[.int .i64 (t : Int), .int .i64 ((t : Int) + 1)] 66)
    have hb1 : Below w.heap.size w (w.alloc (.cells #[.int .i64 (t : Int), .int .i64 ((t : Int) + 1)] 66)) := (Below.refl _ w).alloc (Nat.le_refl _) _
    have hs1 : (w.alloc (.cells #[.int .i64 (t : Int), .int .i64 ((t : Int) + 1)] 66)).heap.size = w.heap.size + 1 := by simp
    have e0 := WB.cell (B := w.heap.size + 1) (show g0 < w.heap.size + 1 by omega) ((hb1.cell (p := ⟨g0, (B.length - 1) * 2, none⟩) hg0lt).trans d0)
    have e1 := WB.cell (B := w.heap.size + 1) (show g0 < w.heap.size + 1 by omega) ((hb1.cell (p := ⟨g0, (B.length - 1) * 2 + 1, none⟩) hg0lt).trans d1)
    have e2 := WB.cell (w := w.alloc (.cells #[.int .i64 (t : Int), .int .i64 ((t : Int) + 1)] 66)) (B := w.heap.size + 1) (b := w.heap.size) (o := 0) (v := .int .i64 (t : Int)) (by omega) (by simp [cell_of_row _ w.heap.size 0 _ _ _ bB0])
    have e3 := WB.cell (w := w.alloc (.cells #[.int .i64 (t : Int), .int .i64 ((t : Int) + 1)] 66)) (B := w.heap.size + 1) (b := w.heap.size) (o := 1) (v := .int .i64 ((t : Int) + 1)) (by omega) (by simp [cell_of_row _ w.heap.size 1 _ _ _ bB0])
    by_cases hy : Y B (B.length - 1) = t
    · have hyb : (Y B (B.length - 1) == (t : Int)) = true := beq_iff_eq.2 hy
      have HT := Lib.hid (fun W => by have K := c_touches (X B (B.length - 1)) (Y B (B.length - 1)) (t : Int) ((t : Int) + 1) W; rw [hyb] at K; exact K)
      have E2 := Lib.hid (show busyNext B (t : Int) = B.set (B.length - 1) (X B (B.length - 1), (t : Int) + 1) by rw [busyNext, if_pos (show lastIs B (t : Int) = true from decide_eq_true ⟨hpos, hy⟩)])
      clear hcl hy hyb hO
      go_wp2_with fail
      refine wp_region_wb (w.heap.size + 1) (by kernel_rfl) (by kernel_rfl) ?_
      repeat (go_big_quiet_step ((go_at_call 65; exact Calls.inB (Nat.le_of_eq hs1.symm) (HT.out _))))
      refine wpQuiet_nil ?_
      rintro w5 ⟨⟨_, hb5⟩, rfl⟩
      have hbx : Below w.heap.size w w5 := hb1.trans (hb5.mono (by omega))
      have hz5 := hb5.size
      simp only [World.size_alloc] at hz5
      have hz5' : w.heap.size + 1 ≤ w5.heap.size := hz5
      have bB5 := (hb5.block w.heap.size (by omega)).trans bB0
      have own5 : PO w5 base (.slice (some ⟨g0, 0, none⟩) B.length oc) B := hown.below hbx (Nat.le_refl _)
      have e4 := WB.cell (w := w5) (B := w.heap.size + 1) (show g0 < w.heap.size + 1 by omega) ((hbx.cell (p := ⟨g0, (B.length - 1) * 2, none⟩) hg0lt).trans d0)
      have e5 := WB.cell (w := w5) (B := w.heap.size + 1) (show g0 < w.heap.size + 1 by omega) ((hbx.cell (p := ⟨g0, (B.length - 1) * 2 + 1, none⟩) hg0lt).trans d1)
      have e6 := WB.cell (w := w5) (B := w.heap.size + 1) (b := w.heap.size) (o := 0) (v := .int .i64 (t : Int)) (by omega) (by simp [cell_of_row _ w.heap.size 0 _ _ _ bB5])
      have e7 := WB.cell (w := w5) (B := w.heap.size + 1) (b := w.heap.size) (o := 1) (v := .int .i64 ((t : Int) + 1)) (by omega) (by simp [cell_of_row _ w.heap.size 1 _ _ _ bB5])
      have HM := Lib.hid (fun W => c_mergedWith (X B (B.length - 1)) (Y B (B.length - 1)) (t : Int) ((t : Int) + 1) W)
      clear e0 e1 e2 e3 bB0 bB5 hb5 hz5 hb1
      go_wp2_with fail
      refine wp_region_wb_tail (w.heap.size + 1) 9 (by kernel_rfl) (by kernel_rfl) ?_
      simp only [List.take_succ_cons, List.take_zero, List.drop_succ_cons, List.drop_zero]
      repeat (go_big_quiet_step ((go_at_call 66; exact Calls.inB hz5' (HM.out _))))
      refine wpQuiet_nil ?_
      rintro w6 ⟨⟨_, hb6⟩, rfl⟩
      have hby : Below w.heap.size w w6 := hbx.trans (hb6.mono (by omega))
      have own6 : PO w6 base (.slice (some ⟨g0, 0, none⟩) B.length oc) B := hown.below hby (Nat.le_refl _)
      have f6 := fun j => World.ownsRow.frozenAt own6 j
      have f0 := f6 ((B.length - 1) * 2)
      have f1 := f6 ((B.length - 1) * 2 + 1)
      have c0 := (hby.cell (p := ⟨g0, (B.length - 1) * 2, none⟩) hg0lt).trans d0
      have c1 := (hby.cell (p := ⟨g0, (B.length - 1) * 2 + 1, none⟩) hg0lt).trans d1
      have HO := Lib.hid (own6.store (B.length - 1) (by omega) (X B (B.length - 1)) ((t : Int) + 1))
      have HG := Lib.hid (grown_via (row := some g0) hby (⟨rfl, rfl, rfl, by simp [World.setCell], fun b _ hb => (Below.heap_setCell _ _ _ _ (fun e => hb (by rw [e]))).trans (Below.heap_setCell _ _ _ _ (fun e => hb (by rw [e])))⟩ : w6.grownBy ((w6.setCell ⟨g0, (B.length - 1) * 2, none⟩ (.int .i64 (X B (B.length - 1)))).setCell ⟨g0, (B.length - 1) * 2 + 1, none⟩ (.int .i64 ((t : Int) + 1))) (some g0)))
      clear f6 e4 e5 e6 e7 d0 d1 own6 own5 hown hby hb6 hbx
      go_wp2_with fail
      go_ret
      exact ⟨_, rfl, by rw [E2.out]; exact HO.out, HG.out⟩
    · have hyb : (Y B (B.length - 1) == (t : Int)) = false := beq_eq_false_iff_ne.2 hy
      have HT := Lib.hid (fun W => by have K := c_touches (X B (B.length - 1)) (Y B (B.length - 1)) (t : Int) ((t : Int) + 1) W; rw [hyb] at K; exact K)
      have E2 := Lib.hid (show busyNext B (t : Int) = B ++ [((t : Int), (t : Int) + 1)] by rw [busyNext, if_neg (by simp [lastIs, hy])])
      clear hcl hy hyb d0 d1 hO
      go_wp2_with fail
      refine wp_region_wb (w.heap.size + 1) (by kernel_rfl) (by kernel_rfl) ?_
      repeat (go_big_quiet_step ((go_at_call 65; exact Calls.inB (Nat.le_of_eq hs1.symm) (HT.out _))))
      refine wpQuiet_nil ?_
      rintro w5 ⟨⟨_, hb5⟩, rfl⟩
      have hbx : Below w.heap.size w w5 := hb1.trans (hb5.mono (by omega))
      have hz5 := hb5.size
      simp only [World.size_alloc] at hz5
      have bB5 := (hb5.block w.heap.size (by omega)).trans bB0
      have cB := fun o => cell_of_row w5 w.heap.size o _ _ _ bB5
      have cB0 := cB 0
      have cB1 := cB 1
      have own5 : PO w5 base (.slice (some ⟨g0, 0, none⟩) B.length oc) B := hown.below hbx (Nat.le_refl _)
      have HX := Lib.hid (And.intro hbx own5)
      have HL := Lib.hid (show B.length ≤ 1000000000000 by omega)
      clear cB hbx own5 hb5 hown hl hB0 hb1 e0 e1 e2 e3
      go_wp2_with (refine app_P2 ?_ (.tmp 20) (.tmp 22) ?_ base (.slice (some ⟨g0, 0, none⟩) B.length oc) B (t : Int) ((t : Int) + 1) w5.heap.size ?_ ?_ ?_ ?_ ?_ ?_ ?_; rfl; rfl; rfl; exact (HX.out.2.alloc _); rfl; exact (heap_alloc_new _ _); exact HL.out; exact (Nat.le_trans hbase (Nat.le_trans (by omega) (show w5.heap.size ≤ (w5.alloc _).heap.size by simp))); intro g7 cap w7 hown7 hgr7)
      go_ret
      exact ⟨_, rfl, by rw [E2.out]; exact hown7, grown_via (HX.out.1.alloc (by omega) _) hgr7⟩

end Go.Proofs.Ytjjncpimelpfiaa

