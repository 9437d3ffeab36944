/- Lists of candidates; the method waiting; the four preferences; slices.MinFunc over them; the method choose. -/
import Derived.Test.YtmimcgjobgfgfaaU1
namespace Go.Proofs.Ytmimcgjobgfgfaa
set_option linter.unusedVariables false
open Go.RowKit
attribute [local go_sem ↓] Go.wp_at_zero Go.wp_at_succ

theorem infoD : (Try.prog.info? 92).map (fun i => (i.zero, i.size, i.bytes)) = some (some (.agg #[.int .i64 0, .int .i64 0]), 2, 16) := by kernel_rfl
def DO (w : World) (base : Nat) (v : Value) (B : List (Int × Int)) : Prop := w.ownsRow base 92 2 v B.length (flatC B)
theorem DO.nil (w : World) (base : Nat) : DO w base (.slice none 0 0) [] := ⟨rfl, .inl ⟨rfl, rfl⟩⟩
theorem DO.below {w w' : World} {base B : Nat} {v : Value} {xs : List (Int × Int)} (h : DO w base v xs) (hb : Below B w w') (hB : w.heap.size ≤ B) : DO w' base v xs := owns_below h hb hB
theorem DO.alloc {w : World} {base : Nat} {v : Value} {xs : List (Int × Int)} (h : DO w base v xs) (o : Obj) : DO (w.alloc o) base v xs := World.ownsRow.alloc h o
theorem DO.drew {w : World} {base : Nat} {v : Value} {xs : List (Int × Int)} (h : DO w base v xs) : DO w.drew base v xs := h
/-- candidates that read as B, below a block -/
def Ds (w : World) (b0 : Nat) (A : Option Addr) (B : List (Int × Int)) : Prop :=
  0 < B.length → ∃ g, A = some ⟨g, 0, none⟩ ∧ g < b0 ∧ ∀ k, k < B.length → w.cell? ⟨g, k * 2, none⟩ = some (.int .i64 (X B k)) ∧ w.cell? ⟨g, k * 2 + 1, none⟩ = some (.int .i64 (Y B k))
theorem Ds.below {w w' : World} {b0 b1 : Nat} {A : Option Addr} {B : List (Int × Int)} (h : Ds w b0 A B) (hb : Below b1 w w') (h1 : b0 ≤ b1) : Ds w' b0 A B := by
  intro hn
  obtain ⟨g, rfl, hlt, hc⟩ := h hn
  exact ⟨g, rfl, hlt, fun k hk => ⟨(hb.cell (p := ⟨g, _, none⟩) (by show g < _; omega)).trans (hc k hk).1, (hb.cell (p := ⟨g, _, none⟩) (by show g < _; omega)).trans (hc k hk).2⟩⟩
theorem DO.form {w : World} {base : Nat} {v : Value} {B : List (Int × Int)} (h : DO w base v B) : ∃ A c, v = .slice A B.length c ∧ Ds w w.heap.size A B := by
  have hl := owns_lt h
  rcases h.2 with ⟨rfl, h0⟩ | ⟨g, cap, cur, rfl, hg, hh, h1, h2, h3, h4⟩
  · exact ⟨none, 0, by rw [h0], fun hp => by omega⟩
  · refine ⟨_, cap, rfl, fun hp => ⟨g, rfl, hl g (by simp [Value.ownBlock]), fun k hk => ?_⟩⟩
    have := flatC_at B k hk
    exact ⟨(World.ownsRow.cellAt h (k * 2) (by omega)).trans this.1, (World.ownsRow.cellAt h (k * 2 + 1) (by omega)).trans this.2⟩
/-- a box of its own that holds one candidate -/
def D1 (w : World) (g : Nat) (m : Int × Int) : Prop := ∃ base, DO w base (.slice (some ⟨g, 0, none⟩) 1 1) [m]
theorem D1.new {w : World} {g : Nat} {a b : Int} (h : w.heap[g]? = some (.cells #[.int .i64 a, .int .i64 b] 92 (0, 0))) : D1 w g (a, b) :=
  ⟨0, rfl, .inr ⟨g, 1, #[.int .i64 a, .int .i64 b], rfl, Nat.zero_le _, h, Nat.le_refl _, by simp [maxLen], rfl, rfl⟩⟩
theorem D1.cells {w : World} {g : Nat} {m : Int × Int} (h : D1 w g m) : g < w.heap.size ∧ w.cell? ⟨g, 0, none⟩ = some (.int .i64 m.1) ∧ w.cell? ⟨g, 1, none⟩ = some (.int .i64 m.2) ∧ ∀ j, w.frozen? ⟨g, j, none⟩ = false := by
  obtain ⟨base, h⟩ := h
  exact ⟨owns_lt h g (by simp [Value.ownBlock]), World.ownsRow.cellAt h 0 (by simp), World.ownsRow.cellAt h 1 (by simp), fun j => World.ownsRow.frozenAt h j⟩
theorem D1.other {w : World} {g : Nat} {m : Int × Int} (h : D1 w g m) {b : Nat} (hne : g ≠ b) (o : Nat) (u : Value) : D1 (w.setCell ⟨b, o, none⟩ u) g m := by
  obtain ⟨base, h0, h⟩ := h
  refine ⟨base, h0, ?_⟩
  rcases h with ⟨h1, _⟩ | ⟨g', cap, cur, h1, hg, hh, rest⟩
  · cases h1
  · refine .inr ⟨g', cap, cur, h1, hg, ?_, rest⟩
    have e : g' = g := by injection h1 with e1 _ _; injection e1 with e1; injection e1 with e1 _ _; exact e1.symm
    subst e
    rw [Below.heap_setCell _ _ _ _ hne]; exact hh
theorem D1.below {w w' : World} {g : Nat} {m : Int × Int} (h : D1 w g m) (hb : Below w.heap.size w w') : D1 w' g m := by
  obtain ⟨base, h⟩ := h
  exact ⟨base, owns_below h hb (Nat.le_refl _)⟩
theorem D1.store {w : World} {g : Nat} {m : Int × Int} (h : D1 w g m) (a b : Int) : D1 ((w.setCell ⟨g, 0, none⟩ (.int .i64 a)).setCell ⟨g, 1, none⟩ (.int .i64 b)) g (a, b) := by
  obtain ⟨base, h⟩ := h
  have h1 := (World.ownsRow.stored (g := g) (cap := 1) h 0 (.int .i64 a)).1
  have h2 := (World.ownsRow.stored (g := g) (cap := 1) h1 1 (.int .i64 b)).1
  exact ⟨base, h2⟩

section
variable {w : World}
/-- all = append(all, candidate), in a region in the text's order -/
theorem app_D {ops : Array Oper} {rest : List Oper} {o : Oper} {a : Act} {Q : Exit → Act → World → Prop} (hgd : o.guard = none) (s x : Operand)
    (ho : o.op = .call { callee := .builtin .append, args := #[s, x], argTypes := #[87, 87] })
    (base : Nat) (v : Value) (L : List (Int × Int)) (p q : Int) (B : Nat) (hs : a.eval s = v) (hown : DO w base v L) (hx : a.eval x = .slice (some ⟨B, 0, none⟩) 1 1)
    (hB : w.heap[B]? = some (.cells #[.int .i64 p, .int .i64 q] 92 (0, 0))) (hlen : L.length ≤ 1000000000000) (hbase : base ≤ w.heap.size)
    (h : ∀ g cap w', DO w' base (.slice (some ⟨g, 0, none⟩) (L.length + 1) cap) (L ++ [(p, q)]) → Below base w w' → wpList Try.prog ops Q rest (a.put o.dst (.slice (some ⟨g, 0, none⟩) (L.length + 1) cap)) w') :
    wpList Try.prog ops Q (o :: rest) a w := by
  obtain ⟨i0, hi, hz0, hz1, hz2⟩ := info_parts infoD
  refine wpList_append_lies w hgd s x _ ho base 92 i0 _ 2 16 Try.underlying87 hi hz0 hz1 hz2 rfl (by decide) v L.length _ hs hown
    ⟨B, 0, none⟩ 1 1 [.int .i64 p, .int .i64 q] hx rfl (World.news_of_block (cs := #[.int .i64 p, .int .i64 q]) hB) (by simp [Value.oneCell']) (by decide) (by simp only [maxLen]; omega) (by omega) hbase _ rfl ?_
  intro g cap w' h1 h2 _ _
  exact h g cap w' (by simpa [DO, flatC_snoc] using h1) ((Below.refl _ _).grown h2 hbase (owns_base hown))
end

/-- those of the first n who have units left -/
def cands (lf : List Int) : Nat → List (Int × Int)
  | 0 => []
  | n + 1 => if 0 < Z lf n then cands lf n ++ [((n : Int), Z lf n)] else cands lf n
theorem cands_len (lf : List Int) : ∀ n, (cands lf n).length ≤ n := by
  intro n
  induction n with
  | zero => exact Nat.le_refl _
  | succ n ih =>
    simp only [cands]
    split
    · rw [List.length_append, List.length_singleton]; omega
    · omega

set_option maxRecDepth 4000 in
set_option maxHeartbeats 4000000 in
theorem c_waiting (lf : List Int) (G : Option Addr) (g n : Nat) (w : World) (hG : Is w w.heap.size G lf) (hn : n ≤ lf.length) (hg : lf.length ≤ g) (hl : lf.length ≤ 1000000) :
    Calls Try.prog 75 #[.slice G lf.length g, .int .i64 n] w fun e w' => ∃ v, e = .returned v ∧ DO w' w.heap.size v (cands lf n) ∧ Below w.heap.size w w' := by
  go_enter Try.func75, Try.ntmps75
  have hn0 : (0 : Int) ≤ (n : Int) := by omega
  have hn1 : n ≤ g := by omega
  go_wp2_with fail
  go_loopw [5, 12] (fun o i wr => ∃ k : Nat, k ≤ n ∧ i = .int .i64 k ∧ DO wr w.heap.size o (cands lf k) ∧ Below w.heap.size w wr) (fun _ i _ => n - (intOf i).toNat)
  case atStart => exact ⟨0, by omega, rfl, DO.nil _ _, Below.refl _ _⟩
  case round =>
    obtain ⟨k, hk, rfl, hown, hb⟩ := hrel
    have hsz := hb.size
    by_cases hlt : k < n
    · obtain ⟨gb, go, rfl, hgb, hgc⟩ := hG (by omega)
      have c0 := (hb.cell (p := ⟨gb, go + k, none⟩) hgb).trans (hgc k (by omega))
      have q5 : (cands lf k).length ≤ 1000000000000 := by have := cands_len lf k; omega
      clear hgc
      by_cases hz : 0 < Z lf k
      · have E := Lib.hid (show cands lf (k + 1) = cands lf k ++ [((k : Int), Z lf k)] by simp only [cands]; rw [if_pos hz])
        go_wp2_with (refine app_D ?_ (.tmp 19) (.tmp 23) ?_ w.heap.size u5 (cands lf k) (k : Int) (Z lf k) wr.heap.size ?_ ?_ ?_ ?_ ?_ ?_ ?_; rfl; rfl; rfl; exact (hown.alloc _); rfl; exact (heap_alloc_new _ _); exact q5; exact (Nat.le_trans hsz (by simp)); intro g7 cap w7 hown7 hb7)
        go_roundw
        case rel =>
          refine ⟨k + 1, by omega, by go_num, by rw [E.out]; exact hown7, ?_⟩
          refine Below.trans ?_ hb7
          (repeat (first | exact hb | exact Below.refl _ _ | (with_reducible refine Below.drew ?_) | (with_reducible refine Below.drewN ?_ _) | (with_reducible refine Below.alloc ?_ ?_ _) | (with_reducible refine Below.setCell ?_ ?_ _) | (show _ ≤ _; focus (first | omega | (simp; done) | (simp; omega)))))
        case measure => simp [intOf]; omega
      · have E := Lib.hid (show cands lf (k + 1) = cands lf k by simp only [cands]; rw [if_neg hz])
        go_wp2_with fail
        go_roundw
        case rel => exact ⟨k + 1, by omega, by go_num, by rw [E.out]; exact hown, hb⟩
        case measure => simp [intOf]; omega
    · have hlf : ¬ ((k : Int) < (n : Int)) := by omega
      obtain rfl : k = n := by omega
      go_wp2_with fail
      go_ret
      exact ⟨_, rfl, hown, hb⟩

/-- what a rule says of two candidates: below 0 if the first one is to be served rather -/
def prefV (r : Int) (a b : Int × Int) : Int := if r = 0 then a.1 - b.1 else if r = 1 then b.1 - a.1 else if r = 2 then a.2 - b.2 else b.2 - a.2
def smallC (a : Int × Int) : Prop := -1000 ≤ a.1 ∧ a.1 ≤ 1000 ∧ -1000 ≤ a.2 ∧ a.2 ≤ 1000
def aggC (a : Int × Int) : Value := .agg #[.int .i64 a.1, .int .i64 a.2]
theorem c_pref0 (a b : Int × Int) (w : World) (ha : smallC a) (hb : smallC b) : Calls Try.prog 78 #[.agg #[.int .i64 a.1, .int .i64 a.2], .agg #[.int .i64 b.1, .int .i64 b.2]] w fun e w' => e = .returned (.int .i64 (prefV 0 a b)) ∧ Below w.heap.size w w' := by
  obtain ⟨a1, a2, a3, a4⟩ := ha
  obtain ⟨b1, b2, b3, b4⟩ := hb
  obtain ⟨p, q⟩ := a
  obtain ⟨s, t⟩ := b
  go_enter Try.func78, Try.ntmps78
  go_wp2_with fail
  go_ret
  exact ⟨rfl, by (repeat (first | exact rfl | exact Below.refl _ _ | (with_reducible refine Below.drew ?_) | (with_reducible refine Below.drewN ?_ _) | (with_reducible refine Below.alloc ?_ ?_ _) | (with_reducible refine Below.setCell ?_ ?_ _) | (show _ ≤ _; focus (first | omega | (simp; done) | (simp; omega)))))⟩
theorem c_pref1 (a b : Int × Int) (w : World) (ha : smallC a) (hb : smallC b) : Calls Try.prog 79 #[.agg #[.int .i64 a.1, .int .i64 a.2], .agg #[.int .i64 b.1, .int .i64 b.2]] w fun e w' => e = .returned (.int .i64 (prefV 1 a b)) ∧ Below w.heap.size w w' := by
  obtain ⟨a1, a2, a3, a4⟩ := ha
  obtain ⟨b1, b2, b3, b4⟩ := hb
  obtain ⟨p, q⟩ := a
  obtain ⟨s, t⟩ := b
  go_enter Try.func79, Try.ntmps79
  go_wp2_with fail
  go_ret
  exact ⟨rfl, by (repeat (first | exact rfl | exact Below.refl _ _ | (with_reducible refine Below.drew ?_) | (with_reducible refine Below.drewN ?_ _) | (with_reducible refine Below.alloc ?_ ?_ _) | (with_reducible refine Below.setCell ?_ ?_ _) | (show _ ≤ _; focus (first | omega | (simp; done) | (simp; omega)))))⟩
theorem c_pref2 (a b : Int × Int) (w : World) (ha : smallC a) (hb : smallC b) : Calls Try.prog 80 #[.agg #[.int .i64 a.1, .int .i64 a.2], .agg #[.int .i64 b.1, .int .i64 b.2]] w fun e w' => e = .returned (.int .i64 (prefV 2 a b)) ∧ Below w.heap.size w w' := by
  obtain ⟨a1, a2, a3, a4⟩ := ha
  obtain ⟨b1, b2, b3, b4⟩ := hb
  obtain ⟨p, q⟩ := a
  obtain ⟨s, t⟩ := b
  go_enter Try.func80, Try.ntmps80
  go_wp2_with fail
  go_ret
  exact ⟨rfl, by (repeat (first | exact rfl | exact Below.refl _ _ | (with_reducible refine Below.drew ?_) | (with_reducible refine Below.drewN ?_ _) | (with_reducible refine Below.alloc ?_ ?_ _) | (with_reducible refine Below.setCell ?_ ?_ _) | (show _ ≤ _; focus (first | omega | (simp; done) | (simp; omega)))))⟩
theorem c_pref3 (a b : Int × Int) (w : World) (ha : smallC a) (hb : smallC b) : Calls Try.prog 81 #[.agg #[.int .i64 a.1, .int .i64 a.2], .agg #[.int .i64 b.1, .int .i64 b.2]] w fun e w' => e = .returned (.int .i64 (prefV 3 a b)) ∧ Below w.heap.size w w' := by
  obtain ⟨a1, a2, a3, a4⟩ := ha
  obtain ⟨b1, b2, b3, b4⟩ := hb
  obtain ⟨p, q⟩ := a
  obtain ⟨s, t⟩ := b
  go_enter Try.func81, Try.ntmps81
  go_wp2_with fail
  go_ret
  exact ⟨rfl, by (repeat (first | exact rfl | exact Below.refl _ _ | (with_reducible refine Below.drew ?_) | (with_reducible refine Below.drewN ?_ _) | (with_reducible refine Below.alloc ?_ ?_ _) | (with_reducible refine Below.setCell ?_ ?_ _) | (show _ ≤ _; focus (first | omega | (simp; done) | (simp; omega)))))⟩

/-- the first one of the first k + 1 candidates behind whom the rule puts no other -/
def minC (r : Int) (B : List (Int × Int)) : Nat → Int × Int
  | 0 => (X B 0, Y B 0)
  | k + 1 => if prefV r (X B (k + 1), Y B (k + 1)) (minC r B k) < 0 then (X B (k + 1), Y B (k + 1)) else minC r B k
def smallB (B : List (Int × Int)) : Prop := ∀ k, k < B.length → smallC (X B k, Y B k)
theorem minC_small {r : Int} {B : List (Int × Int)} (h : smallB B) : ∀ k, k < B.length → smallC (minC r B k) := by
  intro k
  induction k with
  | zero => intro h0; exact h 0 h0
  | succ k ih =>
    intro hk
    simp only [minC]
    split
    · exact h _ hk
    · exact ih (by omega)

set_option maxRecDepth 4000 in
set_option maxHeartbeats 8000000 in
theorem c_min (r : Int) (f : Nat) (hf : (r = 0 ∧ f = 78) ∨ (r = 1 ∧ f = 79) ∨ (r = 2 ∧ f = 80) ∨ (r = 3 ∧ f = 81)) (B : List (Int × Int)) (D : Option Addr) (c : Nat) (w : World) (hD : Ds w w.heap.size D B) (h0 : 0 < B.length) (hl : B.length ≤ 1000000) (hs : smallB B) :
    Calls Try.prog 89 #[.slice D B.length c, .func (.func f) #[] #[]] w fun e w' => e = .returned (.agg #[.int .i64 (minC r B (B.length - 1)).1, .int .i64 (minC r B (B.length - 1)).2]) ∧ Below w.heap.size w w' := by
  have HP := Lib.hid (show ∀ (x y : Int) (b : Int × Int) (w : World), smallC (x, y) → smallC b → Calls Try.prog f #[.agg #[.int .i64 x, .int .i64 y], .agg #[.int .i64 b.1, .int .i64 b.2]] w fun e w' => e = .returned (.int .i64 (prefV r (x, y) b)) ∧ Below w.heap.size w w' from by
    intro x y b w
    rcases hf with ⟨rfl, rfl⟩ | ⟨rfl, rfl⟩ | ⟨rfl, rfl⟩ | ⟨rfl, rfl⟩
    · exact c_pref0 (x, y) b w
    · exact c_pref1 (x, y) b w
    · exact c_pref2 (x, y) b w
    · exact c_pref3 (x, y) b w)
  have HM := Lib.hid (@minC_small r B hs)
  have HS := Lib.hid hs
  obtain ⟨g, rfl, hgl, hc⟩ := hD h0
  have c1 := (hc 0 h0).1
  have c2 := (hc 0 h0).2
  rw [Nat.zero_mul] at c1 c2
  have HC := Lib.hid hc
  have h0' : (0 : Int) < (B.length : Int) := by omega
  clear hc hs
  have bm : D1 ((w.alloc (.cells #[.int .i64 0, .int .i64 0] 92)).alloc (.cells #[.int .i64 (X B 0), .int .i64 (Y B 0)] 92)) (w.heap.size + 1) (minC r B 0) := D1.new (heap_new2' _ _ _)
  have br : D1 ((w.alloc (.cells #[.int .i64 0, .int .i64 0] 92)).alloc (.cells #[.int .i64 (X B 0), .int .i64 (Y B 0)] 92)) w.heap.size (0, 0) := (D1.new (heap_alloc_new _ _)).below (by (repeat (first | exact rfl | exact Below.refl _ _ | (with_reducible refine Below.drew ?_) | (with_reducible refine Below.drewN ?_ _) | (with_reducible refine Below.alloc ?_ ?_ _) | (with_reducible refine Below.setCell ?_ ?_ _) | (show _ ≤ _; focus (first | omega | (simp; done) | (simp; omega))))))
  have hb0 : Below w.heap.size w ((w.alloc (.cells #[.int .i64 0, .int .i64 0] 92)).alloc (.cells #[.int .i64 (X B 0), .int .i64 (Y B 0)] 92)) := by (repeat (first | exact rfl | exact Below.refl _ _ | (with_reducible refine Below.drew ?_) | (with_reducible refine Below.drewN ?_ _) | (with_reducible refine Below.alloc ?_ ?_ _) | (with_reducible refine Below.setCell ?_ ?_ _) | (show _ ≤ _; focus (first | omega | (simp; done) | (simp; omega)))))
  rcases hf with ⟨-, rfl⟩ | ⟨-, rfl⟩ | ⟨-, rfl⟩ | ⟨-, rfl⟩
  all_goals
    go_enter Try.func89, Try.ntmps89
    go_wp2_with fail
    go_loopw [6] (fun i wr => ∃ k : Nat, 1 ≤ k ∧ k ≤ B.length ∧ i = .int .i64 k ∧ D1 wr (w.heap.size + 1) (minC r B (k - 1)) ∧ D1 wr w.heap.size (0, 0) ∧ Below w.heap.size w wr) (fun i _ => B.length - (intOf i).toNat)
    case atStart => exact ⟨1, by omega, by omega, rfl, bm, br, hb0⟩
    case round =>
      obtain ⟨k, hk1, hk, rfl, dm, dr, hb⟩ := hrel
      have hsz := hb.size
      obtain ⟨m0, m1, m2, mf⟩ := dm.cells
      by_cases hlt : k < B.length
      · have a1 := (hb.cell (p := ⟨g, k * 2, none⟩) hgl).trans (HC.out k hlt).1
        have a2 := (hb.cell (p := ⟨g, k * 2 + 1, none⟩) hgl).trans (HC.out k hlt).2
        have e1 := WB.cell (B := wr.heap.size) (show g < wr.heap.size by omega) a1
        have e2 := WB.cell (B := wr.heap.size) (show g < wr.heap.size by omega) a2
        have e3 := WB.cell (B := wr.heap.size) m0 m1
        have e4 := WB.cell (B := wr.heap.size) m0 m2
        have p1 : (0 : Int) ≤ (k : Int) := by omega
        have p2 : (k : Int) < (B.length : Int) := by omega
        have HK := Lib.hid (fun W => HP.out (X B k) (Y B k) (minC r B (k - 1)) W (HS.out k hlt) (HM.out (k - 1) (by omega)))
        have hkk : k - 1 + 1 = k := by omega
        have HE := Lib.hid (show minC r B (k - 1 + 1) = if prefV r (X B (k - 1 + 1), Y B (k - 1 + 1)) (minC r B (k - 1)) < 0 then (X B (k - 1 + 1), Y B (k - 1 + 1)) else minC r B (k - 1) from rfl)
        rw [hkk] at HE
        generalize minC r B (k - 1) = m at *
        by_cases hv : prefV r (X B k, Y B k) m < 0
        · have dv : decide (prefV r (X B k, Y B k) m < 0) = true := decide_eq_true hv
          have HN := Lib.hid (HE.out.trans (if_pos hv))
          have DM := Lib.hid dm
          have DR := Lib.hid dr
          clear hv HE dm dr
          go_wp2_with fail
          refine wp_region_wb wr.heap.size (by kernel_rfl) (by kernel_rfl) ?_
          repeat (go_big_quiet_step (first | (go_at_call 78; exact Calls.inB (Nat.le_refl _) (HK.out _)) | (go_at_call 79; exact Calls.inB (Nat.le_refl _) (HK.out _)) | (go_at_call 80; exact Calls.inB (Nat.le_refl _) (HK.out _)) | (go_at_call 81; exact Calls.inB (Nat.le_refl _) (HK.out _))))
          refine wpQuiet_nil ?_
          rintro w5 ⟨⟨_, hb5⟩, rfl⟩
          have dm5 := DM.out.below hb5
          have dr5 := DR.out.below hb5
          obtain ⟨n0, n1, n2, nf⟩ := dm5.cells
          have a3 := (hb5.cell (p := ⟨g, k * 2, none⟩) (show g < wr.heap.size by omega)).trans a1
          have a4 := (hb5.cell (p := ⟨g, k * 2 + 1, none⟩) (show g < wr.heap.size by omega)).trans a2
          have hb6 := hb.trans (hb5.mono hsz)
          clear hb5 e1 e2 e3 e4 a1 a2 dv DM DR HK
          go_wp2_with fail
          go_roundw
          case rel =>
            refine ⟨k + 1, by omega, by omega, by go_num, ?_, ?_, ?_⟩
            · rw [show k + 1 - 1 = k by omega, HN.out]; exact dm5.store _ _
            · exact (dr5.other (by omega) _ _).other (by omega) _ _
            · exact (hb6.setCell (p := ⟨w.heap.size + 1, 0, none⟩) (by simp) _).setCell (p := ⟨w.heap.size + 1, 1, none⟩) (by simp) _
          case measure => simp [intOf]; omega
        · have dv : decide (prefV r (X B k, Y B k) m < 0) = false := decide_eq_false hv
          have HN := Lib.hid (HE.out.trans (if_neg hv))
          have DM := Lib.hid dm
          have DR := Lib.hid dr
          clear hv HE dm dr
          go_wp2_with fail
          refine wp_region_wb wr.heap.size (by kernel_rfl) (by kernel_rfl) ?_
          repeat (go_big_quiet_step (first | (go_at_call 78; exact Calls.inB (Nat.le_refl _) (HK.out _)) | (go_at_call 79; exact Calls.inB (Nat.le_refl _) (HK.out _)) | (go_at_call 80; exact Calls.inB (Nat.le_refl _) (HK.out _)) | (go_at_call 81; exact Calls.inB (Nat.le_refl _) (HK.out _))))
          refine wpQuiet_nil ?_
          rintro w5 ⟨⟨_, hb5⟩, rfl⟩
          have dm5 := DM.out.below hb5
          have dr5 := DR.out.below hb5
          have hb6 := hb.trans (hb5.mono hsz)
          clear hb5 e1 e2 e3 e4 a1 a2 dv DM DR HK
          go_wp2_with fail
          go_roundw
          case rel => exact ⟨k + 1, by omega, by omega, by go_num, by rw [show k + 1 - 1 = k by omega, HN.out]; exact dm5, dr5, hb6⟩
          case measure => simp [intOf]; omega
      · have hlf : ¬ ((k : Int) < (B.length : Int)) := by omega
        obtain rfl : k = B.length := by omega
        obtain ⟨r0, r1, r2, rf⟩ := dr.cells
        have ds := dr.store (minC r B (B.length - 1)).1 (minC r B (B.length - 1)).2
        obtain ⟨-, s1, s2, -⟩ := ds.cells
        go_wp2_with fail
        refine bodyPost_ret (v := .agg #[.int .i64 (minC r B (B.length - 1)).1, .int .i64 (minC r B (B.length - 1)).2]) (by simp [results, Try.f89, go_sem, s1, s2]) rfl ?_
        exact ⟨rfl, (hb.setCell (p := ⟨w.heap.size, 0, none⟩) (by simp) _).setCell (p := ⟨w.heap.size, 1, none⟩) (by simp) _⟩


end Go.Proofs.Ytmimcgjobgfgfaa

