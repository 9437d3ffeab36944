/- Chapter 11's functions of the program, first part: a lead, AheadBy (the widest difference of a lead) -/
import Derived.Test.YtecoefjkobpbgaaK27
import Derived.Test.YtecoefjkobpbgaaU2
namespace Go.Proofs.Ytecoefjkobpbgaa
set_option linter.unusedVariables false
open Go.RowKit
attribute [local go_sem ↓] Go.wp_at_zero Go.wp_at_succ

/-! the greatest difference of two leads is that of the greatest and the least one -/
def gtP (p : Nat → Int) : Nat → Int
  | 0 => 0
  | k + 1 => max (gtP p k) (p (k + 1))
def lsP (p : Nat → Int) : Nat → Int
  | 0 => 0
  | k + 1 => min (lsP p k) (p (k + 1))
theorem gtP_is {p : Nat → Int} (h0 : p 0 = 0) : ∀ k, (∃ i, i ≤ k ∧ gtP p k = p i) ∧ ∀ i, i ≤ k → p i ≤ gtP p k := by
  intro k
  induction k with
  | zero => exact ⟨⟨0, Nat.le_refl _, by simp [gtP, h0]⟩, fun i hi => by rw [show i = 0 by omega]; simp [gtP, h0]⟩
  | succ k ih =>
    obtain ⟨⟨i, hi, e⟩, hall⟩ := ih
    refine ⟨?_, fun j hj => ?_⟩
    · by_cases h : gtP p k ≤ p (k + 1)
      · exact ⟨k + 1, Nat.le_refl _, by simp only [gtP]; omega⟩
      · exact ⟨i, by omega, by simp only [gtP]; omega⟩
    · simp only [gtP]
      by_cases h : j = k + 1
      · subst h; omega
      · have := hall j (by omega); omega
theorem lsP_is {p : Nat → Int} (h0 : p 0 = 0) : ∀ k, (∃ i, i ≤ k ∧ lsP p k = p i) ∧ ∀ i, i ≤ k → lsP p k ≤ p i := by
  intro k
  induction k with
  | zero => exact ⟨⟨0, Nat.le_refl _, by simp [lsP, h0]⟩, fun i hi => by rw [show i = 0 by omega]; simp [lsP, h0]⟩
  | succ k ih =>
    obtain ⟨⟨i, hi, e⟩, hall⟩ := ih
    refine ⟨?_, fun j hj => ?_⟩
    · by_cases h : p (k + 1) ≤ lsP p k
      · exact ⟨k + 1, Nat.le_refl _, by simp only [lsP]; omega⟩
      · exact ⟨i, by omega, by simp only [lsP]; omega⟩
    · simp only [lsP]
      by_cases h : j = k + 1
      · subst h; omega
      · have := hall j (by omega); omega
theorem innerB_ge (o : List Int) (a b : Int) (f : Nat) (best : Int) : ∀ d, best ≤ innerB o a b f best d ∧ ∀ e, e < d → diffU o a b f (e + 1) ≤ innerB o a b f best d ∧ - diffU o a b f (e + 1) ≤ innerB o a b f best d := by
  intro d
  induction d with
  | zero => exact ⟨Int.le_refl _, fun e he => by omega⟩
  | succ d ih =>
    simp only [innerB]
    refine ⟨by omega, fun e he => ?_⟩
    by_cases h : e = d
    · subst h; omega
    · have := ih.2 e (by omega); omega
theorem outerB_ge (o : List Int) (a b : Int) (lo hi : Nat) : ∀ i, 0 ≤ outerB o a b lo hi i ∧ ∀ j e, j < i → e < hi - (lo + j) → diffU o a b (lo + j) (e + 1) ≤ outerB o a b lo hi i ∧ - diffU o a b (lo + j) (e + 1) ≤ outerB o a b lo hi i := by
  intro i
  induction i with
  | zero => exact ⟨Int.le_refl _, fun j e hj => by omega⟩
  | succ i ih =>
    have g := innerB_ge o a b (lo + i) (outerB o a b lo hi i) (hi - (lo + i))
    simp only [outerB]
    refine ⟨by omega, fun j e hj he => ?_⟩
    by_cases h : j = i
    · subst h; exact g.2 e he
    · have := ih.2 j e (by omega) he; omega
theorem diffU_from (o : List Int) (a b : Int) (lo i d : Nat) : diffU o a b (lo + i) d = diffU o a b lo (i + d) - diffU o a b lo i := by
  rw [diffU_cnt, diffU_cnt, diffU_cnt, show lo + i + d = lo + (i + d) by omega]; omega
theorem widest_is (o : List Int) (a b : Int) (lo hi : Nat) : outerB o a b lo hi (hi - lo) = gtP (diffU o a b lo) (hi - lo) - lsP (diffU o a b lo) (hi - lo) := by
  obtain ⟨⟨i, hi1, ei⟩, gi⟩ := gtP_is (p := diffU o a b lo) rfl (hi - lo)
  obtain ⟨⟨j, hj1, ej⟩, gj⟩ := lsP_is (p := diffU o a b lo) rfl (hi - lo)
  have h0 := gi 0 (by omega)
  have h1 := gj 0 (by omega)
  refine Int.le_antisymm (outerB_bd (M := gtP (diffU o a b lo) (hi - lo) - lsP (diffU o a b lo) (hi - lo)) (by omega) _ fun f d h1 h2 h3 => ?_).2 ?_
  · obtain ⟨k, rfl⟩ : ∃ k, f = lo + k := ⟨f - lo, by omega⟩
    rw [diffU_from]
    have a1 := gi (k + (d + 1)) (by omega)
    have a2 := gj (k + (d + 1)) (by omega)
    have a3 := gi k (by omega)
    have a4 := gj k (by omega)
    omega
  · have g := outerB_ge o a b lo hi (hi - lo)
    rcases Nat.lt_trichotomy i j with h | h | h
    · obtain ⟨e, rfl⟩ : ∃ e, j = i + (e + 1) := ⟨j - i - 1, by omega⟩
      have x := g.2 i e (by omega) (by omega)
      rw [diffU_from] at x
      omega
    · subst h; omega
    · obtain ⟨e, rfl⟩ : ∃ e, i = j + (e + 1) := ⟨i - j - 1, by omega⟩
      have x := g.2 j e (by omega) (by omega)
      rw [diffU_from] at x
      omega
theorem diffU_small (o : List Int) (a b : Int) (f : Nat) : ∀ d : Nat, -(d : Int) ≤ diffU o a b f d ∧ diffU o a b f d ≤ d := by
  intro d
  induction d with
  | zero => simp [diffU]
  | succ d ih => simp only [diffU]; split <;> split <;> omega

theorem heap_set3 {w : World} {B : Nat} {a b c : Value} {t : TypeId} {fr : Nat × Nat} (h : w.heap[B]? = some (.cells #[a, b, c] t fr)) (a' b' c' : Value) : (((w.setCell ⟨B, 0, none⟩ a').setCell ⟨B, 1, none⟩ b').setCell ⟨B, 2, none⟩ c').heap[B]? = some (.cells #[a', b', c'] t fr) := by
  simp only [World.setCell]
  rw [Array.getElem?_modify, if_pos rfl, Array.getElem?_modify, if_pos rfl, Array.getElem?_modify, if_pos rfl, h]
  rfl

theorem run_min2 (a b : Int) (t : Array TypeId) (ty : TypeId) (w : World) : (Builtin.min_ t ty #[.int .i64 a, .int .i64 b]).run Try.prog w = .ok (.int .i64 (min a b)) w := by
  by_cases h : b < a
  · rw [show min a b = b by omega]; simp [Builtin.min_, Builtin.min2, h]
  · rw [show min a b = a by omega]; simp [Builtin.min_, Builtin.min2, h]
theorem run_max2 (a b : Int) (t : Array TypeId) (ty : TypeId) (w : World) : (Builtin.max_ t ty #[.int .i64 a, .int .i64 b]).run Try.prog w = .ok (.int .i64 (max a b)) w := by
  by_cases h : b > a
  · rw [show max a b = b by omega]; simp [Builtin.max_, Builtin.max2, h]
  · rw [show max a b = a by omega]; simp [Builtin.max_, Builtin.max2, h]

set_option maxHeartbeats 1000000 in
theorem c_widest (n l g : Int) (w : World) (hl : -1000 ≤ l ∧ l ≤ 1000) (hg : -1000 ≤ g ∧ g ≤ 1000) :
    Calls Try.prog 48 #[.agg #[.int .i64 n, .int .i64 l, .int .i64 g]] w fun e w' => e = .returned (.int .i64 (g - l)) ∧ Below w.heap.size w w' := by
  have q1 : IntKind.i64.wrap (g - l) = g - l := IntWalk.i64_in _ (by omega)
  go_enter Try.func48, Try.ntmps48
  go_wp2
  go_ret
  exact ⟨rfl, by (repeat (first | exact rfl | exact Below.refl _ _ | (with_reducible refine Below.drew ?_) | (with_reducible refine Below.drewN ?_ _) | (with_reducible refine Below.alloc ?_ ?_ _) | (with_reducible refine Below.setCell ?_ ?_ _) | (show _ ≤ _; focus (first | omega | (simp; done) | (simp; omega)))))⟩

attribute [local go_sem ↓] run_min2 run_max2

/-- the lead after a unit in which s is served -/
def nowV (n s a b : Int) : Int := n + (if s = a then 1 else 0) - (if s = b then 1 else 0)

set_option maxHeartbeats 2000000 in
theorem c_after (n l g s a b : Int) (w : World) (hn : -1000 ≤ n ∧ n ≤ 1000) :
    Calls Try.prog 47 #[.agg #[.int .i64 n, .int .i64 l, .int .i64 g], .int .i64 s, .int .i64 a, .int .i64 b] w fun e w' => e = .returned (.agg #[.int .i64 (nowV n s a b), .int .i64 (min l (nowV n s a b)), .int .i64 (max g (nowV n s a b))]) ∧ Below w.heap.size w w' := by
  have q1 : IntKind.i64.wrap (n + 1) = n + 1 := IntWalk.i64_in _ (by omega)
  have q2 : IntKind.i64.wrap (n - 1) = n - 1 := IntWalk.i64_in _ (by omega)
  have q3 : IntKind.i64.wrap n = n := IntWalk.i64_in _ (by omega)
  obtain ⟨R, hR⟩ : ∃ R, w.heap.size = R := ⟨_, rfl⟩
  obtain ⟨w2, hw2⟩ : ∃ w2, (w.alloc (.cells #[.int .i64 n, .int .i64 l, .int .i64 g] 61)).alloc (.cells #[.int .i64 0, .int .i64 0, .int .i64 0] 61) = w2 := ⟨_, rfl⟩
  have hr2 : w2.heap[R + 1]? = some (.cells #[.int .i64 0, .int .i64 0, .int .i64 0] 61 (0, 0)) := by rw [← hw2, ← hR]; exact heap_new2' _ _ _
  have hl2 : w2.heap[R]? = some (.cells #[.int .i64 n, .int .i64 l, .int .i64 g] 61 (0, 0)) := by rw [← hw2, ← hR]; exact (Below.heap_alloc _ _ _ (by simp)).trans (heap_alloc_new _ _)
  have hb2 : Below R w w2 := by rw [← hw2]; exact ((Below.refl _ w).alloc (by omega) _).alloc (by simp; omega) _
  have c0 := cell_of_row w2 R 0 _ _ _ hl2
  have f0 : w2.frozen? ⟨R, 0, none⟩ = false := by simp only [World.frozen?, hl2]; rfl
  -- what stands behind the two tests, and what follows
  have fin : ∀ (w3 : World) (m : Int), w3.heap[R]? = some (.cells #[.int .i64 m, .int .i64 l, .int .i64 g] 61 (0, 0)) → w3.heap[R + 1]? = some (.cells #[.int .i64 0, .int .i64 0, .int .i64 0] 61 (0, 0)) → Below R w w3 →
      ∃ w5 w6 w7, w3.setCell ⟨R, 1, none⟩ (.int .i64 (min l m)) = w5 ∧ w5.setCell ⟨R, 2, none⟩ (.int .i64 (max g m)) = w6 ∧
        ((w6.setCell ⟨R + 1, 0, none⟩ (.int .i64 m)).setCell ⟨R + 1, 1, none⟩ (.int .i64 (min l m))).setCell ⟨R + 1, 2, none⟩ (.int .i64 (max g m)) = w7 ∧
        (w3.cell? ⟨R, 0, none⟩ = some (.int .i64 m) ∧ w3.cell? ⟨R, 1, none⟩ = some (.int .i64 l) ∧ w3.frozen? ⟨R, 1, none⟩ = false) ∧
        (w5.cell? ⟨R, 0, none⟩ = some (.int .i64 m) ∧ w5.cell? ⟨R, 2, none⟩ = some (.int .i64 g) ∧ w5.frozen? ⟨R, 2, none⟩ = false) ∧
        (w6.cell? ⟨R, 0, none⟩ = some (.int .i64 m) ∧ w6.cell? ⟨R, 1, none⟩ = some (.int .i64 (min l m)) ∧ w6.cell? ⟨R, 2, none⟩ = some (.int .i64 (max g m))) ∧
        (w6.cell? ⟨R + 1, 0, none⟩ = some (.int .i64 0) ∧ w6.cell? ⟨R + 1, 1, none⟩ = some (.int .i64 0) ∧ w6.cell? ⟨R + 1, 2, none⟩ = some (.int .i64 0)) ∧
        (w6.frozen? ⟨R + 1, 0, none⟩ = false ∧ w6.frozen? ⟨R + 1, 1, none⟩ = false ∧ w6.frozen? ⟨R + 1, 2, none⟩ = false) ∧
        (w7.cell? ⟨R + 1, 0, none⟩ = some (.int .i64 m) ∧ w7.cell? ⟨R + 1, 1, none⟩ = some (.int .i64 (min l m)) ∧ w7.cell? ⟨R + 1, 2, none⟩ = some (.int .i64 (max g m))) ∧ Below R w w7 := by
    intro w3 m h3 r3 b3
    have h5 : (w3.setCell ⟨R, 1, none⟩ (.int .i64 (min l m))).heap[R]? = some (.cells #[.int .i64 m, .int .i64 (min l m), .int .i64 g] 61 (0, 0)) := by
      simp only [World.setCell]; rw [Array.getElem?_modify, if_pos rfl, h3]; rfl
    have r5 : (w3.setCell ⟨R, 1, none⟩ (.int .i64 (min l m))).heap[R + 1]? = some (.cells #[.int .i64 0, .int .i64 0, .int .i64 0] 61 (0, 0)) := (Below.heap_setCell _ _ _ _ (show R + 1 ≠ R by omega)).trans r3
    have b5 : Below R w (w3.setCell ⟨R, 1, none⟩ (.int .i64 (min l m))) := b3.setCell (p := ⟨R, 1, none⟩) (Nat.le_refl _) _
    obtain ⟨w5, hw5⟩ : ∃ w5, w3.setCell ⟨R, 1, none⟩ (.int .i64 (min l m)) = w5 := ⟨_, rfl⟩
    rw [hw5] at h5 r5 b5
    have h6 : (w5.setCell ⟨R, 2, none⟩ (.int .i64 (max g m))).heap[R]? = some (.cells #[.int .i64 m, .int .i64 (min l m), .int .i64 (max g m)] 61 (0, 0)) := by
      simp only [World.setCell]; rw [Array.getElem?_modify, if_pos rfl, h5]; rfl
    have r6 : (w5.setCell ⟨R, 2, none⟩ (.int .i64 (max g m))).heap[R + 1]? = some (.cells #[.int .i64 0, .int .i64 0, .int .i64 0] 61 (0, 0)) := (Below.heap_setCell _ _ _ _ (show R + 1 ≠ R by omega)).trans r5
    have b6 : Below R w (w5.setCell ⟨R, 2, none⟩ (.int .i64 (max g m))) := b5.setCell (p := ⟨R, 2, none⟩) (Nat.le_refl _) _
    obtain ⟨w6, hw6⟩ : ∃ w6, w5.setCell ⟨R, 2, none⟩ (.int .i64 (max g m)) = w6 := ⟨_, rfl⟩
    rw [hw6] at h6 r6 b6
    have h7 := heap_set3 r6 (.int .i64 m) (.int .i64 (min l m)) (.int .i64 (max g m))
    have b7 : Below R w (((w6.setCell ⟨R + 1, 0, none⟩ (.int .i64 m)).setCell ⟨R + 1, 1, none⟩ (.int .i64 (min l m))).setCell ⟨R + 1, 2, none⟩ (.int .i64 (max g m))) :=
      ((b6.setCell (p := ⟨R + 1, 0, none⟩) (by show R ≤ R + 1; omega) _).setCell (p := ⟨R + 1, 1, none⟩) (by show R ≤ R + 1; omega) _).setCell (p := ⟨R + 1, 2, none⟩) (by show R ≤ R + 1; omega) _
    refine ⟨w5, w6, _, hw5, hw6, rfl, ⟨cell_of_row _ _ 0 _ _ _ h3, cell_of_row _ _ 1 _ _ _ h3, by simp only [World.frozen?, h3]; rfl⟩, ⟨cell_of_row _ _ 0 _ _ _ h5, cell_of_row _ _ 2 _ _ _ h5, by simp only [World.frozen?, h5]; rfl⟩,
      ⟨cell_of_row _ _ 0 _ _ _ h6, cell_of_row _ _ 1 _ _ _ h6, cell_of_row _ _ 2 _ _ _ h6⟩, ⟨cell_of_row _ _ 0 _ _ _ r6, cell_of_row _ _ 1 _ _ _ r6, cell_of_row _ _ 2 _ _ _ r6⟩, ⟨by simp only [World.frozen?, r6]; rfl, by simp only [World.frozen?, r6]; rfl, by simp only [World.frozen?, r6]; rfl⟩,
      ⟨cell_of_row _ _ 0 _ _ _ h7, cell_of_row _ _ 1 _ _ _ h7, cell_of_row _ _ 2 _ _ _ h7⟩, b7⟩
  have set0 : ∀ (w3 : World) (m k : Int), w3.heap[R]? = some (.cells #[.int .i64 m, .int .i64 l, .int .i64 g] 61 (0, 0)) → w3.heap[R + 1]? = some (.cells #[.int .i64 0, .int .i64 0, .int .i64 0] 61 (0, 0)) → Below R w w3 →
      ∃ w4, w3.setCell ⟨R, 0, none⟩ (.int .i64 k) = w4 ∧ w4.heap[R]? = some (.cells #[.int .i64 k, .int .i64 l, .int .i64 g] 61 (0, 0)) ∧ w4.heap[R + 1]? = some (.cells #[.int .i64 0, .int .i64 0, .int .i64 0] 61 (0, 0)) ∧ Below R w w4 := by
    intro w3 m k h3 r3 b3
    refine ⟨_, rfl, ?_, (Below.heap_setCell _ _ _ _ (show R + 1 ≠ R by omega)).trans r3, b3.setCell (p := ⟨R, 0, none⟩) (Nat.le_refl _) _⟩
    simp only [World.setCell]; rw [Array.getElem?_modify, if_pos rfl, h3]; rfl
  have hv : ∀ m, m = nowV n s a b → (.agg #[.int .i64 m, .int .i64 (min l m), .int .i64 (max g m)] : Value) = .agg #[.int .i64 (nowV n s a b), .int .i64 (min l (nowV n s a b)), .int .i64 (max g (nowV n s a b))] := fun m e => by rw [e]
  have FIN := Lib.hid fin
  have SET := Lib.hid set0
  have HV := Lib.hid hv
  clear fin set0 hv
  by_cases h1 : s = a
  · have e1 : (s == a) = true := beq_iff_eq.2 h1
    by_cases h2 : s = b
    · have e2 : (s == b) = true := beq_iff_eq.2 h2
      have HQ := Lib.hid (HV.out n (by rw [nowV, if_pos h1, if_pos h2]; omega))
      obtain ⟨w3, hw3, l3, r3, b3⟩ := SET.out w2 n (n + 1) hl2 hr2 hb2
      have c30 := cell_of_row w3 R 0 _ _ _ l3
      have f30 : w3.frozen? ⟨R, 0, none⟩ = false := by simp only [World.frozen?, l3]; rfl
      obtain ⟨w4, hw4, l4, r4, b4⟩ := SET.out w3 (n + 1) n l3 r3 b3
      obtain ⟨w5, w6, w7, hw5, hw6, hw7, ⟨x0, x1, x2⟩, ⟨y0, y1, y2⟩, ⟨z0, z1, z2⟩, ⟨u0, u1, u2⟩, ⟨v0, v1, v2⟩, ⟨t0, t1, t2⟩, b7⟩ := FIN.out w4 n l4 r4 b4
      have HB7 := Lib.hid b7
      clear l3 r3 b3 l4 r4 b4 hl2 hr2 hb2 h1 h2 b7
      go_enter Try.func47, Try.ntmps47
      go_wp2_with fail
      refine bodyPost_ret (v := .agg #[.int .i64 n, .int .i64 (min l n), .int .i64 (max g n)]) (by simp [results, Try.results47, go_sem, t0, t1, t2]) rfl ?_
      exact ⟨by rw [HQ.out], by rw [hR]; exact HB7.out⟩
    · have e2 : (s == b) = false := beq_eq_false_iff_ne.2 h2
      have HQ := Lib.hid (HV.out (n + 1) (by rw [nowV, if_pos h1, if_neg h2]; omega))
      obtain ⟨w3, hw3, l3, r3, b3⟩ := SET.out w2 n (n + 1) hl2 hr2 hb2
      obtain ⟨w5, w6, w7, hw5, hw6, hw7, ⟨x0, x1, x2⟩, ⟨y0, y1, y2⟩, ⟨z0, z1, z2⟩, ⟨u0, u1, u2⟩, ⟨v0, v1, v2⟩, ⟨t0, t1, t2⟩, b7⟩ := FIN.out w3 (n + 1) l3 r3 b3
      have HB7 := Lib.hid b7
      clear l3 r3 b3 hl2 hr2 hb2 h1 h2 b7
      go_enter Try.func47, Try.ntmps47
      go_wp2_with fail
      refine bodyPost_ret (v := .agg #[.int .i64 (n + 1), .int .i64 (min l (n + 1)), .int .i64 (max g (n + 1))]) (by simp [results, Try.results47, go_sem, t0, t1, t2]) rfl ?_
      exact ⟨by rw [HQ.out], by rw [hR]; exact HB7.out⟩
  · have e1 : (s == a) = false := beq_eq_false_iff_ne.2 h1
    by_cases h2 : s = b
    · have e2 : (s == b) = true := beq_iff_eq.2 h2
      have HQ := Lib.hid (HV.out (n - 1) (by rw [nowV, if_neg h1, if_pos h2]; omega))
      obtain ⟨w3, hw3, l3, r3, b3⟩ := SET.out w2 n (n - 1) hl2 hr2 hb2
      obtain ⟨w5, w6, w7, hw5, hw6, hw7, ⟨x0, x1, x2⟩, ⟨y0, y1, y2⟩, ⟨z0, z1, z2⟩, ⟨u0, u1, u2⟩, ⟨v0, v1, v2⟩, ⟨t0, t1, t2⟩, b7⟩ := FIN.out w3 (n - 1) l3 r3 b3
      have HB7 := Lib.hid b7
      clear l3 r3 b3 hl2 hr2 hb2 h1 h2 b7
      go_enter Try.func47, Try.ntmps47
      go_wp2_with fail
      refine bodyPost_ret (v := .agg #[.int .i64 (n - 1), .int .i64 (min l (n - 1)), .int .i64 (max g (n - 1))]) (by simp [results, Try.results47, go_sem, t0, t1, t2]) rfl ?_
      exact ⟨by rw [HQ.out], by rw [hR]; exact HB7.out⟩
    · have e2 : (s == b) = false := beq_eq_false_iff_ne.2 h2
      have HQ := Lib.hid (HV.out n (by rw [nowV, if_neg h1, if_neg h2]; omega))
      obtain ⟨w5, w6, w7, hw5, hw6, hw7, ⟨x0, x1, x2⟩, ⟨y0, y1, y2⟩, ⟨z0, z1, z2⟩, ⟨u0, u1, u2⟩, ⟨v0, v1, v2⟩, ⟨t0, t1, t2⟩, b7⟩ := FIN.out w2 n hl2 hr2 hb2
      have HB7 := Lib.hid b7
      clear  hl2 hr2 hb2 h1 h2 b7
      go_enter Try.func47, Try.ntmps47
      go_wp2_with fail
      refine bodyPost_ret (v := .agg #[.int .i64 n, .int .i64 (min l n), .int .i64 (max g n)]) (by simp [results, Try.results47, go_sem, t0, t1, t2]) rfl ?_
      exact ⟨by rw [HQ.out], by rw [hR]; exact HB7.out⟩

/-- what a lead is, as a value -/
def leadV (n l g : Int) : Value := .agg #[.int .i64 n, .int .i64 l, .int .i64 g]

set_option maxHeartbeats 2000000 in
theorem c_leadStep (n l g s a b : Int) (Ba Bb : Nat) (w : World) (hn : -1000 ≤ n ∧ n ≤ 1000) (hBa : Ba < w.heap.size) (hBb : Bb < w.heap.size) (ha : w.cell? ⟨Ba, 0, none⟩ = some (.int .i64 a)) (hb : w.cell? ⟨Bb, 0, none⟩ = some (.int .i64 b)) :
    Calls Try.prog 46 #[.agg #[.int .i64 n, .int .i64 l, .int .i64 g], .int .i64 s, .pointer (some ⟨Ba, 0, none⟩), .pointer (some ⟨Bb, 0, none⟩)] w fun e w' => e = .returned (.agg #[.int .i64 (nowV n s a b), .int .i64 (min l (nowV n s a b)), .int .i64 (max g (nowV n s a b))]) ∧ Below w.heap.size w w' := by
  have HC := Lib.hid (fun W => c_after n l g s a b W hn)
  obtain ⟨R, hR⟩ : ∃ R, w.heap.size = R := ⟨_, rfl⟩
  obtain ⟨w2, hw2⟩ : ∃ w2, (w.alloc (.cells #[.int .i64 n, .int .i64 l, .int .i64 g] 61)).alloc (.cells #[.int .i64 0, .int .i64 0, .int .i64 0] 61) = w2 := ⟨_, rfl⟩
  have hz2 : w2.heap.size = R + 2 := by rw [← hw2]; simp; omega
  have hr2 : w2.heap[R + 1]? = some (.cells #[.int .i64 0, .int .i64 0, .int .i64 0] 61 (0, 0)) := by rw [← hw2, ← hR]; exact heap_new2' _ _ _
  have hl2 : w2.heap[R]? = some (.cells #[.int .i64 n, .int .i64 l, .int .i64 g] 61 (0, 0)) := by rw [← hw2, ← hR]; exact (Below.heap_alloc _ _ _ (by simp)).trans (heap_alloc_new _ _)
  have hb2 : Below R w w2 := by rw [← hw2]; exact ((Below.refl _ w).alloc (by omega) _).alloc (by simp; omega) _
  have c0 := cell_of_row w2 R 0 _ _ _ hl2
  have c1 := cell_of_row w2 R 1 _ _ _ hl2
  have c2 := cell_of_row w2 R 2 _ _ _ hl2
  have ca := (hb2.cell (p := ⟨Ba, 0, none⟩) (show Ba < R by omega)).trans ha
  have cb := (hb2.cell (p := ⟨Bb, 0, none⟩) (show Bb < R by omega)).trans hb
  have HB2 := Lib.hid hb2
  clear hb2 hl2 ha hb
  go_enter Try.func46, Try.ntmps46
  go_wp2_with fail
  refine (HC.out _).mono ?_
  rintro e w5 ⟨rfl, hb5⟩
  have hr5 := (hb5.block (R + 1) (by omega)).trans hr2
  have d0 := cell_of_row w5 (R + 1) 0 _ _ _ hr5
  have d1 := cell_of_row w5 (R + 1) 1 _ _ _ hr5
  have d2 := cell_of_row w5 (R + 1) 2 _ _ _ hr5
  have f0 : w5.frozen? ⟨R + 1, 0, none⟩ = false := by simp only [World.frozen?, hr5]; rfl
  have f1 : w5.frozen? ⟨R + 1, 1, none⟩ = false := by simp only [World.frozen?, hr5]; rfl
  have f2 : w5.frozen? ⟨R + 1, 2, none⟩ = false := by simp only [World.frozen?, hr5]; rfl
  have hr7 := heap_set3 hr5 (.int .i64 (nowV n s a b)) (.int .i64 (min l (nowV n s a b))) (.int .i64 (max g (nowV n s a b)))
  obtain ⟨w7, hw7⟩ : ∃ w7, ((w5.setCell ⟨R + 1, 0, none⟩ (.int .i64 (nowV n s a b))).setCell ⟨R + 1, 1, none⟩ (.int .i64 (min l (nowV n s a b)))).setCell ⟨R + 1, 2, none⟩ (.int .i64 (max g (nowV n s a b))) = w7 := ⟨_, rfl⟩
  have HB7 : Hid (Below R w w7) := by
    rw [← hw7]
    exact (((HB2.out.trans (hb5.mono (by omega))).setCell (p := ⟨R + 1, 0, none⟩) (by show R ≤ R + 1; omega) _).setCell (p := ⟨R + 1, 1, none⟩) (by show R ≤ R + 1; omega) _).setCell (p := ⟨R + 1, 2, none⟩) (by show R ≤ R + 1; omega) _
  rw [hw7] at hr7
  have t0 := cell_of_row w7 (R + 1) 0 _ _ _ hr7
  have t1 := cell_of_row w7 (R + 1) 1 _ _ _ hr7
  have t2 := cell_of_row w7 (R + 1) 2 _ _ _ hr7
  clear hr2 hr5 hr7 hb5 c0 c1 c2 ca cb
  go_wp2_with fail
  refine bodyPost_ret (v := .agg #[.int .i64 (nowV n s a b), .int .i64 (min l (nowV n s a b)), .int .i64 (max g (nowV n s a b))]) (by simp [results, Try.results46, go_sem, t0, t1, t2]) rfl ?_
  exact ⟨rfl, by rw [hR]; exact HB7.out⟩

set_option maxRecDepth 4000 in
set_option maxHeartbeats 4000000 in
theorem c_foldLead (E : List Int) (A : Option Addr) (c : Nat) (a b : Int) (p : Nat → Int) (Ba Bb : Nat) (w : World) (hE : Is w w.heap.size A E) (hn : E.length ≤ 200) (h0 : p 0 = 0) (hp : ∀ k, k < E.length → p (k + 1) = nowV (p k) (Z E k) a b) (hs : ∀ k, k ≤ E.length → -1000 ≤ p k ∧ p k ≤ 1000)
    (hBa : Ba < w.heap.size) (hBb : Bb < w.heap.size) (ha : w.cell? ⟨Ba, 0, none⟩ = some (.int .i64 a)) (hb : w.cell? ⟨Bb, 0, none⟩ = some (.int .i64 b)) :
    Calls Try.prog 45 #[.slice A E.length c, .agg #[.int .i64 0, .int .i64 0, .int .i64 0], .func (.func 46) #[] #[.pointer (some ⟨Ba, 0, none⟩), .pointer (some ⟨Bb, 0, none⟩)]] w fun e w' => e = .returned (.agg #[.int .i64 (p E.length), .int .i64 (lsP p E.length), .int .i64 (gtP p E.length)]) ∧ Below w.heap.size w w' := by
  have HP := Lib.hid hp
  have HS := Lib.hid hs
  have H0 := Lib.hid h0
  clear hp hs h0
  obtain ⟨R, hR⟩ : ∃ R, w.heap.size = R := ⟨_, rfl⟩
  obtain ⟨w1, hw1⟩ : ∃ w1, (w.alloc (.cells #[.int .i64 0, .int .i64 0, .int .i64 0] 61)).alloc (.cells #[.int .i64 0, .int .i64 0, .int .i64 0] 61) = w1 := ⟨_, rfl⟩
  have hz1 : w1.heap.size = R + 2 := by rw [← hw1]; simp; omega
  have hr1 : w1.heap[R + 1]? = some (.cells #[.int .i64 0, .int .i64 0, .int .i64 0] 61 (0, 0)) := by rw [← hw1, ← hR]; exact heap_new2' _ _ _
  have hl1 : w1.heap[R]? = some (.cells #[.int .i64 0, .int .i64 0, .int .i64 0] 61 (0, 0)) := by rw [← hw1, ← hR]; exact (Below.heap_alloc _ _ _ (by simp)).trans (heap_alloc_new _ _)
  have hb1 : Below R w w1 := by rw [← hw1]; exact ((Below.refl _ w).alloc (by omega) _).alloc (by simp; omega) _
  have c0 := cell_of_row w1 R 0 _ _ _ hl1
  have c1 := cell_of_row w1 R 1 _ _ _ hl1
  have c2 := cell_of_row w1 R 2 _ _ _ hl1
  have HW : Hid (∃ w2, w1.alloc (.cells #[.int .i64 0, .int .i64 0, .int .i64 0] 61) = w2 ∧ w2.heap[R + 2]? = some (.cells #[.int .i64 (p 0), .int .i64 (lsP p 0), .int .i64 (gtP p 0)] 61 (0, 0)) ∧ w2.heap[R + 1]? = some (.cells #[.int .i64 0, .int .i64 0, .int .i64 0] 61 (0, 0)) ∧ Below R w w2 ∧ w2.heap.size = R + 3) :=
    ⟨_, rfl, by rw [H0.out, ← hz1]; exact heap_alloc_new _ _, (Below.heap_alloc _ _ _ (by omega)).trans hr1, hb1.alloc (by omega) _, by simp; omega⟩
  have HR := Lib.hid hR
  clear hb1 hl1 hr1
  go_enter Try.func45, Try.ntmps45
  go_wp2_with fail
  obtain ⟨w2, hw2, ha2, hr2, hb2, hz2⟩ := HW.out
  rw [hw2]
  clear c0 c1 c2 hw1 hw2 hz1 HW
  go_loopw [13] (fun i wr => ∃ k : Nat, k ≤ E.length ∧ i = .int .i64 k ∧ wr.heap[R + 2]? = some (.cells #[.int .i64 (p k), .int .i64 (lsP p k), .int .i64 (gtP p k)] 61 (0, 0)) ∧ wr.heap[R + 1]? = some (.cells #[.int .i64 0, .int .i64 0, .int .i64 0] 61 (0, 0)) ∧ Below R w wr ∧ R + 3 ≤ wr.heap.size) (fun i _ => E.length - (intOf i).toNat)
  case atStart => exact ⟨0, Nat.zero_le _, rfl, ha2, hr2, hb2, by omega⟩
  case round =>
    obtain ⟨k, hk, rfl, hac, hre, hbk, hzr⟩ := hrel
    clear ha2 hr2 hb2 hz2
    have c0 := cell_of_row wr (R + 2) 0 _ _ _ hac
    have c1 := cell_of_row wr (R + 2) 1 _ _ _ hac
    have c2 := cell_of_row wr (R + 2) 2 _ _ _ hac
    by_cases hlt : k < E.length
    · obtain ⟨eb, eo, rfl, hlb, hc⟩ := hE (by omega)
      have ce := (hbk.cell (p := ⟨eb, eo + k, none⟩) (show eb < R by have := HR.out; omega)).trans (hc k hlt)
      have ck := (hbk.cell (p := ⟨Ba, 0, none⟩) (show Ba < R by have := HR.out; omega)).trans ha
      have cl := (hbk.cell (p := ⟨Bb, 0, none⟩) (show Bb < R by have := HR.out; omega)).trans hb
      have hsk := HS.out k hk
      have HC := Lib.hid (c_leadStep (p k) (lsP p k) (gtP p k) (Z E k) a b Ba Bb wr hsk (by have := HR.out; omega) (by have := HR.out; omega) ck cl)
      have HX := Lib.hid (HP.out k hlt)
      clear hc hsk ck cl hlb
      go_wp2_with fail
      refine HC.out.mono ?_
      rintro e w5 ⟨rfl, hb5⟩
      rw [← HX.out, show min (lsP p k) (p (k + 1)) = lsP p (k + 1) from rfl, show max (gtP p k) (p (k + 1)) = gtP p (k + 1) from rfl]
      have hac5 := (hb5.block (R + 2) (by omega)).trans hac
      have hre5 := (hb5.block (R + 1) (by omega)).trans hre
      have d0 := cell_of_row w5 (R + 2) 0 _ _ _ hac5
      have d1 := cell_of_row w5 (R + 2) 1 _ _ _ hac5
      have d2 := cell_of_row w5 (R + 2) 2 _ _ _ hac5
      have f0 : w5.frozen? ⟨R + 2, 0, none⟩ = false := by simp only [World.frozen?, hac5]; rfl
      have f1 : w5.frozen? ⟨R + 2, 1, none⟩ = false := by simp only [World.frozen?, hac5]; rfl
      have f2 : w5.frozen? ⟨R + 2, 2, none⟩ = false := by simp only [World.frozen?, hac5]; rfl
      have hac7 := heap_set3 hac5 (.int .i64 (p (k + 1))) (.int .i64 (lsP p (k + 1))) (.int .i64 (gtP p (k + 1)))
      obtain ⟨w7, hw7⟩ : ∃ w7, ((w5.setCell ⟨R + 2, 0, none⟩ (.int .i64 (p (k + 1)))).setCell ⟨R + 2, 1, none⟩ (.int .i64 (lsP p (k + 1)))).setCell ⟨R + 2, 2, none⟩ (.int .i64 (gtP p (k + 1))) = w7 := ⟨_, rfl⟩
      have hg7 : w5.grownBy w7 (some (R + 2)) := by rw [← hw7]; exact ((grown_set w5 (R + 2) 0 _).trans (grown_set _ (R + 2) 1 _)).trans (grown_set _ (R + 2) 2 _)
      rw [hw7] at hac7
      have hre7 := (hg7.block (R + 1) (by have := hb5.size; omega) (by simp)).trans hre5
      have hb7 : Below R w w7 := (hbk.trans (hb5.mono (by omega))).grown hg7 (by have := hb5.size; omega) (fun k e => by cases e; omega)
      have hz7 : R + 3 ≤ w7.heap.size := by have := hg7.size; have := hb5.size; omega
      have HF := Lib.hid (And.intro hac7 (And.intro hre7 (And.intro hb7 hz7)))
      clear hac hre hbk c0 c1 c2 ce hac5 hre5 hb5 hac7 hre7 hb7 hz7 hg7 hzr
      go_wp2_with fail
      go_roundw
      case rel => exact ⟨k + 1, by omega, by go_num, HF.out.1, HF.out.2.1, HF.out.2.2.1, HF.out.2.2.2⟩
      case measure => simp [intOf]; omega
    · obtain rfl : k = E.length := by omega
      have d0 := cell_of_row wr (R + 1) 0 _ _ _ hre
      have d1 := cell_of_row wr (R + 1) 1 _ _ _ hre
      have d2 := cell_of_row wr (R + 1) 2 _ _ _ hre
      have f0 : wr.frozen? ⟨R + 1, 0, none⟩ = false := by simp only [World.frozen?, hre]; rfl
      have f1 : wr.frozen? ⟨R + 1, 1, none⟩ = false := by simp only [World.frozen?, hre]; rfl
      have f2 : wr.frozen? ⟨R + 1, 2, none⟩ = false := by simp only [World.frozen?, hre]; rfl
      have hre7 := heap_set3 hre (.int .i64 (p E.length)) (.int .i64 (lsP p E.length)) (.int .i64 (gtP p E.length))
      obtain ⟨w7, hw7⟩ : ∃ w7, ((wr.setCell ⟨R + 1, 0, none⟩ (.int .i64 (p E.length))).setCell ⟨R + 1, 1, none⟩ (.int .i64 (lsP p E.length))).setCell ⟨R + 1, 2, none⟩ (.int .i64 (gtP p E.length)) = w7 := ⟨_, rfl⟩
      have HB : Hid (Below R w w7) := by
        rw [← hw7]
        exact ((hbk.setCell (p := ⟨R + 1, 0, none⟩) (by show R ≤ R + 1; omega) _).setCell (p := ⟨R + 1, 1, none⟩) (by show R ≤ R + 1; omega) _).setCell (p := ⟨R + 1, 2, none⟩) (by show R ≤ R + 1; omega) _
      rw [hw7] at hre7
      have t0 := cell_of_row w7 (R + 1) 0 _ _ _ hre7
      have t1 := cell_of_row w7 (R + 1) 1 _ _ _ hre7
      have t2 := cell_of_row w7 (R + 1) 2 _ _ _ hre7
      clear hac hre hbk hre7
      go_wp2_with fail
      refine bodyPost_ret (v := .agg #[.int .i64 (p E.length), .int .i64 (lsP p E.length), .int .i64 (gtP p E.length)]) (by simp [results, Try.results45, go_sem, t0, t1, t2]) rfl ?_
      exact ⟨rfl, by rw [HR.out]; exact HB.out⟩

theorem Is.mid {w : World} {B b off : Nat} {xs : List Int} (h : Is w B (some ⟨b, off, none⟩) xs) (k m : Nat) (hm : k + m ≤ xs.length) : Is w B (some ⟨b, off + k, none⟩) ((xs.drop k).take m) := by
  intro h2
  have hl : ((xs.drop k).take m).length = m := by rw [List.length_take, List.length_drop]; omega
  obtain ⟨b', o', e, hB, hc⟩ := h (by omega)
  cases e
  refine ⟨_, _, rfl, hB, fun j hj => ?_⟩
  have := hc (k + j) (by omega)
  rw [show off + k + j = off + (k + j) by omega, this]
  simp only [Z]
  rw [List.getD_eq_getElem?_getD, List.getD_eq_getElem?_getD, List.getElem?_take, if_pos (by omega), List.getElem?_drop]
theorem mid_Z (xs : List Int) (k m j : Nat) (h : j < m) : Z ((xs.drop k).take m) j = Z xs (k + j) := by
  simp only [Z]
  rw [List.getD_eq_getElem?_getD, List.getD_eq_getElem?_getD, List.getElem?_take, if_pos h, List.getElem?_drop]

set_option maxRecDepth 4000 in
set_option maxHeartbeats 4000000 in
theorem c_iAheadBy (L : List (Int × Int)) (o : List Int) (A O : Option Addr) (c d : Nat) (a b : Int) (w : World) (hA : Cs w w.heap.size A L) (hO : Is w w.heap.size O o) (hcap : L.length ≤ c) (hcap2 : o.length ≤ d) (hn : L.length ≤ 1000000000000) (ho : o.length ≤ 140737488351232) :
    Calls Try.prog 17 #[.slice A L.length c, .slice O o.length d, .int .i64 a, .int .i64 b] w fun e w' => e = .returned (.int .i64 (aheadV L o a b)) ∧ Below w.heap.size w w' := by
  obtain ⟨w1, hw1⟩ : ∃ w1, (w.alloc (.cells #[.int .i64 a] 3)).alloc (.cells #[.int .i64 b] 3) = w1 := ⟨_, rfl⟩
  obtain ⟨R, hR⟩ : ∃ R, w.heap.size = R := ⟨_, rfl⟩
  have hz1 : w1.heap.size = R + 2 := by rw [← hw1]; simp; omega
  have ha1 : w1.heap[R]? = some (.cells #[.int .i64 a] 3 (0, 0)) := by rw [← hw1, ← hR]; exact (Below.heap_alloc _ _ _ (by simp)).trans (heap_alloc_new _ _)
  have hb1 : w1.heap[R + 1]? = some (.cells #[.int .i64 b] 3 (0, 0)) := by rw [← hw1, ← hR]; exact heap_new2' _ _ _
  have hx1 : Below R w w1 := by rw [← hw1]; exact ((Below.refl _ w).alloc (by omega) _).alloc (by simp; omega) _
  rw [hR] at hA hO ⊢
  have HK := Lib.hid (c_iOrderOk L o A O c d w1 ((hA.below hx1).more (by omega)) ((hO.below hx1).more (by omega)) (by omega) ho)
  have HP := Lib.hid (fun x W => c_placeIs L A c x W (by omega))
  by_cases hok : ordOk L o = true
  · have H := Lib.hid hok
    by_cases h1 : 0 ≤ a ∧ a ≤ (L.length : Int) - 1
    · have H1 := Lib.hid (decide_eq_true h1)
      by_cases h2 : 0 ≤ b ∧ b ≤ (L.length : Int) - 1
      · have H2 := Lib.hid (decide_eq_true h2)
        have HE := Lib.hid (fun (W : World) (hb : Below R w1 W) => c_iEndsOf L o A O c d W (((hA.below hx1).below hb).more (by have := hb.size; omega)) (((hO.below hx1).below hb).more (by have := hb.size; omega)) (by omega) ho)
        have HY := Lib.hid (ends_yes hok)
        have HZ := Lib.hid (fun k (hk : k < L.length) => endsL_Z (L := L) (o := o) hk)
        have hV := aheadV_yes (show aheadOk L o a b = true by simp only [aheadOk, hok, H1.out, H2.out, Bool.and_self])
        obtain ⟨an, rfl⟩ : ∃ an : Nat, a = (an : Int) := ⟨a.toNat, by omega⟩
        obtain ⟨bn, rfl⟩ : ∃ bn : Nat, b = (bn : Int) := ⟨b.toNat, by omega⟩
        have han : an < L.length := by omega
        have hbn : bn < L.length := by omega
        have ea := endTo_le o an o.length
        have eb := endTo_le o bn o.length
        have xa := (cOk_bd (ordOk_parts hok).1 han)
        have xb := (cOk_bd (ordOk_parts hok).1 hbn)
        have hol : 1 ≤ o.length := by
          have c1 := cntU_all hok han
          have c2 := cntU_bd o an o.length
          omega
        have hl2 := (ordOk_parts hok).2.1
        have hlo : ((loA L (an : Int) (bn : Int) : Nat) : Int) = max (X L an) (X L bn) := by simp only [loA, Int.toNat_natCast]; omega
        have hhi : ((hiA o (an : Int) (bn : Int) : Nat) : Int) = min (endTo o an o.length) (endTo o bn o.length) := by simp only [hiA, Int.toNat_natCast]; omega
        have hld0 : loA L (an : Int) (bn : Int) < o.length := by
          have e1 := ends_need hok han
          have e2 := ends_need hok hbn
          omega
        rw [widest_is] at hV
        generalize loA L (an : Int) (bn : Int) = lo at *
        generalize hiA o (an : Int) (bn : Int) = hi at *
        have HEA := Lib.hid (HZ.out an han)
        have HEB := Lib.hid (HZ.out bn hbn)
        generalize endTo o an o.length = EA at *
        generalize endTo o bn o.length = EB at *
        have HV := Lib.hid hV
        have HLen := Lib.hid (show (endsL L o L.length).length = L.length by simp [endsL])
        obtain ⟨ab, ao, rfl, hlb, hc⟩ := hA (by omega)
        obtain ⟨ob, oo, rfl, hob, hoc⟩ := hO (by omega)
        have HOm := Lib.hid (show Is w R (some ⟨ob, oo, none⟩) o from hO)
        have xa1 := (hx1.cell (p := ⟨ab, ao + an * 2, none⟩) hlb).trans (hc an han).1
        have xb1 := (hx1.cell (p := ⟨ab, ao + bn * 2, none⟩) hlb).trans (hc bn hbn).1
        have p1 : (0 : Int) ≤ (an : Int) := by omega
        have p2 : (an : Int) < (L.length : Int) := by omega
        have p3 : (0 : Int) ≤ (bn : Int) := by omega
        have p4 : (bn : Int) < (L.length : Int) := by omega
        have HQ := Lib.hid (And.intro ea (And.intro eb (And.intro xa (And.intro xb (And.intro hol hl2)))))
        have HLH := Lib.hid (And.intro hlo hhi)
        have hHi : hi ≤ o.length := by omega
        have HHi := Lib.hid (And.intro hHi hld0)
        clear hld0 hA hO hc hoc hok h1 h2 hV ea eb xa xb hol hl2 hHi hlo hhi
        go_enter Try.func17, Try.ntmps17
        go_wp2_with fail
        refine HK.out.mono ?_
        rintro e w2 ⟨rfl, hb2⟩
        rw [H.out]
        have ha2 := (hb2.block R (by omega)).trans ha1
        have hc2 := (hb2.block (R + 1) (by omega)).trans hb1
        have ca2 := cell_of_row w2 R 0 _ _ _ ha2
        have cb2 := cell_of_row w2 (R + 1) 0 _ _ _ hc2
        go_wp2_with fail
        refine (HP.out _ _).mono ?_
        rintro e w3 ⟨rfl, rfl⟩
        rw [H1.out]
        go_wp2_with fail
        refine (HP.out _ _).mono ?_
        rintro e w3 ⟨rfl, rfl⟩
        rw [H2.out]
        go_wp2_with fail
        refine (HE.out w2 (hb2.mono (by omega))).mono ?_
        rw [HY.out]
        rintro e w3 ⟨v, rfl, hown, hb3⟩
        have hz2 := hb2.size
        obtain ⟨G, g, rfl, hg1, hG⟩ := hown.formG
        rw [HLen.out] at hg1 hG ⊢
        obtain ⟨gb, rfl, -, hgb, hgc⟩ := hG (by omega)
        have ga := hgc an han
        have gb2 := hgc bn hbn
        rw [HEA.out] at ga
        rw [HEB.out] at gb2
        have ha3 := (hb3.block R (by omega)).trans ha2
        have hc3 := (hb3.block (R + 1) (by omega)).trans hc2
        have ca3 := cell_of_row w3 R 0 _ _ _ ha3
        have cb3 := cell_of_row w3 (R + 1) 0 _ _ _ hc3
        have xa3 := (hb3.cell (p := ⟨ab, ao + an * 2, none⟩) (by show ab < _; omega)).trans ((hb2.cell (p := ⟨ab, ao + an * 2, none⟩) (by show ab < _; omega)).trans xa1)
        have xb3 := (hb3.cell (p := ⟨ab, ao + bn * 2, none⟩) (by show ab < _; omega)).trans ((hb2.cell (p := ⟨ab, ao + bn * 2, none⟩) (by show ab < _; omega)).trans xb1)
        have hx3 : Below R w w3 := (hx1.trans (hb2.mono (by omega))).trans (hb3.mono (by omega))
        have HX3 := Lib.hid hx3
        have hz3 := hb3.size
        clear ha1 hb1 ha2 hc2 ca2 cb2 xa1 xb1 hx3 hb2 hb3 hgc hG hown
        go_wp2_with fail
        go_quiet (fail)
        rw [← HLH.out.1, ← HLH.out.2]
        have HX4 := Lib.hid (HX3.out.trans (Below.drewN (Below.refl R w3) nq))
        have ha4 : (w3.drewN nq).heap[R]? = some (.cells #[.int .i64 (an : Int)] 3 (0, 0)) := ha3
        have hc4 : (w3.drewN nq).heap[R + 1]? = some (.cells #[.int .i64 (bn : Int)] 3 (0, 0)) := hc3
        have hz4 : (w3.drewN nq).heap.size = w3.heap.size := rfl
        generalize w3.drewN nq = w4 at *
        clear ga gb2 xa3 xb3 ca3 cb3 ha3 hc3
        by_cases hgt : hi < lo
        · have q1 : (hi : Int) < (lo : Int) := by omega
          have HV0 := Lib.hid (show aheadV L o (an : Int) (bn : Int) = 0 by rw [HV.out, show hi - lo = 0 by omega]; rfl)
          go_wp2_with fail
          go_ret
          exact ⟨by rw [HV0.out]; rfl, HX4.out⟩
        · have q1 : ¬ (hi : Int) < (lo : Int) := by omega
          have q2 : (0 : Int) ≤ (lo : Int) := by omega
          have q3 : (lo : Int) ≤ (hi : Int) := by omega
          have hHi := HHi.out
          have q4 : (hi : Int) ≤ (d : Int) := by omega
          have hld : lo < d := by omega
          have hlen : ((o.drop lo).take (hi - lo)).length = hi - lo := by rw [List.length_take, List.length_drop]; omega
          have K := c_foldLead ((o.drop lo).take (hi - lo)) (some ⟨ob, oo + lo, none⟩) (d - lo) (an : Int) (bn : Int) (diffU o (an : Int) (bn : Int) lo) R (R + 1) w4
            (((HOm.out.below HX4.out).more (by omega)).mid lo (hi - lo) (by omega)) (by have := HQ.out; omega) rfl
            (fun k hk => by rw [mid_Z _ _ _ _ (by omega)]; rfl) (fun k hk => by have := diffU_small o (an : Int) (bn : Int) lo k; have := HQ.out; omega) (by omega) (by omega) (cell_of_row w4 R 0 _ _ _ ha4) (cell_of_row w4 (R + 1) 0 _ _ _ hc4)
          rw [hlen] at K
          have HC := Lib.hid K
          have b1 := (gtP_is (p := diffU o (an : Int) (bn : Int) lo) rfl (hi - lo))
          have b2 := (lsP_is (p := diffU o (an : Int) (bn : Int) lo) rfl (hi - lo))
          have hgb : -1000 ≤ gtP (diffU o (an : Int) (bn : Int) lo) (hi - lo) ∧ gtP (diffU o (an : Int) (bn : Int) lo) (hi - lo) ≤ 1000 := by
            obtain ⟨⟨i, hi1, ei⟩, -⟩ := b1
            have := diffU_small o (an : Int) (bn : Int) lo i
            have := HQ.out
            omega
          have hlb : -1000 ≤ lsP (diffU o (an : Int) (bn : Int) lo) (hi - lo) ∧ lsP (diffU o (an : Int) (bn : Int) lo) (hi - lo) ≤ 1000 := by
            obtain ⟨⟨i, hi1, ei⟩, -⟩ := b2
            have := diffU_small o (an : Int) (bn : Int) lo i
            have := HQ.out
            omega
          have HWd := Lib.hid (fun W => c_widest (diffU o (an : Int) (bn : Int) lo (hi - lo)) _ _ W hlb hgb)
          clear K hgb hlb b1 b2 hHi hlen
          go_wp2_with fail
          refine HC.out.mono ?_
          rintro e w5 ⟨rfl, hb5⟩
          go_wp2_with fail
          refine (HWd.out _).mono ?_
          rintro e w6 ⟨rfl, hb6⟩
          go_wp2_with fail
          go_ret
          exact ⟨by rw [HV.out]; rfl, (HX4.out.trans (hb5.mono (by omega))).trans (hb6.mono (by have := hb5.size; omega))⟩
      · have H2 := Lib.hid (decide_eq_false h2)
        have HV := Lib.hid (aheadV_no (show aheadOk L o a b = false by simp only [aheadOk, hok, H1.out, H2.out, Bool.and_false]))
        have HX1 := Lib.hid hx1
        clear hA hO hok h1 h2
        go_enter Try.func17, Try.ntmps17
        go_wp2_with fail
        refine HK.out.mono ?_
        rintro e w2 ⟨rfl, hb2⟩
        rw [H.out]
        have ca2 := cell_of_row w2 R 0 _ _ _ ((hb2.block R (by omega)).trans ha1)
        have cb2 := cell_of_row w2 (R + 1) 0 _ _ _ ((hb2.block (R + 1) (by omega)).trans hb1)
        go_wp2_with fail
        refine (HP.out _ _).mono ?_
        rintro e w3 ⟨rfl, rfl⟩
        rw [H1.out]
        go_wp2_with fail
        refine (HP.out _ _).mono ?_
        rintro e w3 ⟨rfl, rfl⟩
        rw [H2.out]
        go_wp2_with fail
        go_ret
        exact ⟨by rw [HV.out]; rfl, HX1.out.trans (hb2.mono (by omega))⟩
    · have H1 := Lib.hid (decide_eq_false h1)
      have HV := Lib.hid (aheadV_no (show aheadOk L o a b = false by simp only [aheadOk, H1.out, Bool.and_false, Bool.false_and]))
      have HX1 := Lib.hid hx1
      clear hA hO hok h1
      go_enter Try.func17, Try.ntmps17
      go_wp2_with fail
      refine HK.out.mono ?_
      rintro e w2 ⟨rfl, hb2⟩
      rw [H.out]
      have ca2 := cell_of_row w2 R 0 _ _ _ ((hb2.block R (by omega)).trans ha1)
      go_wp2_with fail
      refine (HP.out _ _).mono ?_
      rintro e w3 ⟨rfl, rfl⟩
      rw [H1.out]
      go_wp2_with fail
      go_ret
      exact ⟨by rw [HV.out]; rfl, HX1.out.trans (hb2.mono (by omega))⟩
  · have hno : ordOk L o = false := by simpa using hok
    have H := Lib.hid hno
    have HV := Lib.hid (aheadV_no (show aheadOk L o a b = false by simp only [aheadOk, hno, Bool.false_and]))
    have HX1 := Lib.hid hx1
    clear hA hO hok hno
    go_enter Try.func17, Try.ntmps17
    go_wp2_with fail
    refine HK.out.mono ?_
    rintro e w2 ⟨rfl, hb2⟩
    rw [H.out]
    go_wp2_with fail
    go_ret
    exact ⟨by rw [HV.out]; rfl, HX1.out.trans (hb2.mono (by omega))⟩

end Go.Proofs.Ytecoefjkobpbgaa

