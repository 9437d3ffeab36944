/- Chapter 12's functions of the program: forms of deeds, what a deed changes, DeskDo, DeskRun. -/
import Derived.Test.YtpbmehodcllncaaU26
namespace Go.Proofs.Ytpbmehodcllncaa
set_option linter.unusedVariables false
open Go.RowKit
attribute [local go_sem ↓] Go.wp_at_zero Go.wp_at_succ

/-- how a kind of deed is written -/
def formVal (k : Int) : Value :=
  if k = 0 then .agg #[.string ⟨#[99, 111, 109, 101]⟩, .int .i64 2] else if k = 1 then .agg #[.string ⟨#[103, 111]⟩, .int .i64 0] else if k = 2 then .agg #[.string ⟨#[110, 101, 101, 100]⟩, .int .i64 1]
  else if k = 3 then .agg #[.string ⟨#[108, 97, 116, 101, 114]⟩, .int .i64 1] else .agg #[.string ⟨#[98, 97, 99, 107]⟩, .int .i64 0]
def formOk (k a b : Int) : Bool := decide (k = 0) || (decide (k = 1) && decide (a = 0) && decide (b = 0)) || (decide (k = 2) && decide (b = 0)) || (decide (k = 3) && decide (b = 0)) || (decide (k = 4) && decide (a = 0) && decide (b = 0))

set_option maxHeartbeats 1000000 in
theorem c_deedForms (w : World) :
    Calls Try.prog 80 #[] w fun e w' => e = .returned (.agg #[.string ⟨#[99, 111, 109, 101]⟩, .int .i64 2, .string ⟨#[103, 111]⟩, .int .i64 0, .string ⟨#[110, 101, 101, 100]⟩, .int .i64 1, .string ⟨#[108, 97, 116, 101, 114]⟩, .int .i64 1, .string ⟨#[98, 97, 99, 107]⟩, .int .i64 0]) ∧ Below w.heap.size w w' := by
  go_enter Try.func80, Try.ntmps80
  go_wp2_with fail
  exact bodyPost_ret (v := .agg #[.string ⟨#[99, 111, 109, 101]⟩, .int .i64 2, .string ⟨#[103, 111]⟩, .int .i64 0, .string ⟨#[110, 101, 101, 100]⟩, .int .i64 1, .string ⟨#[108, 97, 116, 101, 114]⟩, .int .i64 1, .string ⟨#[98, 97, 99, 107]⟩, .int .i64 0]) (by simp [results, Try.f80, go_sem]) rfl ⟨rfl, by (repeat (first | exact rfl | exact Below.refl _ _ | (with_reducible refine Below.drew ?_) | (with_reducible refine Below.drewN ?_ _) | (with_reducible refine Below.alloc ?_ ?_ _) | (with_reducible refine Below.setCell ?_ ?_ _) | (show _ ≤ _; focus (first | omega | (simp; done) | (simp; omega)))))⟩
theorem forms_at {k : Nat} (hk : k ≤ 4) : ∃ W n, formVal (k : Int) = .agg #[.string W, .int .i64 n] ∧ (#[.string ⟨#[99, 111, 109, 101]⟩, .int .i64 2, .string ⟨#[103, 111]⟩, .int .i64 0, .string ⟨#[110, 101, 101, 100]⟩, .int .i64 1, .string ⟨#[108, 97, 116, 101, 114]⟩, .int .i64 1, .string ⟨#[98, 97, 99, 107]⟩, .int .i64 0] : Array Value)[k * 2]? = some (.string W) ∧ (#[.string ⟨#[99, 111, 109, 101]⟩, .int .i64 2, .string ⟨#[103, 111]⟩, .int .i64 0, .string ⟨#[110, 101, 101, 100]⟩, .int .i64 1, .string ⟨#[108, 97, 116, 101, 114]⟩, .int .i64 1, .string ⟨#[98, 97, 99, 107]⟩, .int .i64 0] : Array Value)[k * 2 + 1]? = some (.int .i64 n) := by
  have hk' : k = 0 ∨ k = 1 ∨ k = 2 ∨ k = 3 ∨ k = 4 := by omega
  rcases hk' with rfl | rfl | rfl | rfl | rfl <;> exact ⟨_, _, rfl, rfl, rfl⟩

set_option maxHeartbeats 1000000 in
theorem c_numbers (k a b : Int) (w : World) :
    Calls Try.prog 81 #[.agg #[.int .i64 k, .int .i64 a, .int .i64 b]] w fun e w' => ∃ g, e = .returned (.slice (some ⟨g, 0, none⟩) 2 2) ∧ w'.cell? ⟨g, 0, none⟩ = some (.int .i64 a) ∧ w'.cell? ⟨g, 1, none⟩ = some (.int .i64 b) ∧ g < w'.heap.size ∧ Below w.heap.size w w' := by
  go_enter Try.func81, Try.ntmps81
  go_wp2_with fail
  go_ret
  exact ⟨_, rfl, by simp [go_sem], by simp [go_sem], by simp, by (repeat (first | exact rfl | exact Below.refl _ _ | (with_reducible refine Below.drew ?_) | (with_reducible refine Below.drewN ?_ _) | (with_reducible refine Below.alloc ?_ ?_ _) | (with_reducible refine Below.setCell ?_ ?_ _) | (show _ ≤ _; focus (first | omega | (simp; done) | (simp; omega)))))⟩

theorem c_isNot0 (x : Int) (w : World) : Calls Try.prog 83 #[.int .i64 x] w fun e w' => e = .returned (.bool (!decide (x = 0))) ∧ w = w' := by
  go_enter Try.func83, Try.ntmps83
  by_cases h : x = 0
  · subst h
    go_wp2_with fail
    go_ret
    exact ⟨rfl, rfl⟩
  · have h2 : (x == 0) = false := beq_eq_false_iff_ne.2 h
    have h3 : (x != 0) = true := by simp [bne, h2]
    go_wp2_with fail
    go_ret
    exact ⟨by simp [h], rfl⟩

set_option maxHeartbeats 2000000 in
theorem c_indexNot0 (xs : List Int) (A : Option Addr) (B c : Nat) (w : World) (hA : Is w B A xs) (hn : xs.length ≤ 140737488351232) :
    Calls Try.prog 89 #[.slice A xs.length c, .func (.func 83) #[] #[]] w fun e w' => (∃ i : Int, e = .returned (.int .i64 i) ∧ decide (0 ≤ i) = !xs.all (fun x => decide (x = 0))) ∧ w = w' := by
  go_enter Try.func89, Try.ntmps89
  go_wp2_with fail
  go_loopw [8] (fun i wr => ∃ k : Nat, k ≤ xs.length ∧ i = .int .i64 k ∧ Hid (∀ j, j < k → Z xs j = 0) ∧ wr = w) (fun i _ => xs.length - (intOf i).toNat)
  case atStart => exact ⟨0, by omega, rfl, Lib.hid (fun j hj => by omega), rfl⟩
  case round =>
    obtain ⟨k, hk, rfl, HN, rfl⟩ := hrel
    by_cases hlt : k < xs.length
    · obtain ⟨gb, go, rfl, hgb, hgc⟩ := hA (by omega)
      have c0 := hgc k hlt
      have p1 : (0 : Int) ≤ (k : Int) := by omega
      have p2 : (k : Int) < (xs.length : Int) := by omega
      clear hgc
      by_cases hz : Z xs k = 0
      · have hd : decide (Z xs k = 0) = true := decide_eq_true hz
        have HB := Lib.hid (show ∀ j, j < k + 1 → Z xs j = 0 from fun j hj => by
          rcases Nat.lt_succ_iff_lt_or_eq.1 hj with h | rfl
          · exact HN.out j h
          · exact hz)
        clear hz
        go_wp2_with fail
        refine (c_isNot0 _ _).mono ?_
        rintro e w1 ⟨rfl, rfl⟩
        rw [hd]
        go_wp2_with fail
        go_roundw
        case rel => exact ⟨k + 1, by omega, by go_num, HB, trivial⟩
        case measure => simp [intOf]; omega
      · have hd : decide (Z xs k = 0) = false := decide_eq_false hz
        have HB := Lib.hid (show decide ((0 : Int) ≤ (k : Int)) = !xs.all (fun x => decide (x = 0)) by
          cases h : xs.all (fun x => decide (x = 0)) with
          | true =>
            have := List.all_eq_true.1 h _ (List.getElem_mem hlt)
            have e : Z xs k = xs[k] := by simp [Z, hlt]
            rw [e] at hz
            simp at this
            exact absurd this hz
          | false => simp)
        clear hz
        go_wp2_with fail
        refine (c_isNot0 _ _).mono ?_
        rintro e w1 ⟨rfl, rfl⟩
        rw [hd]
        go_wp2_with fail
        go_ret
        exact ⟨⟨_, rfl, HB.out⟩, rfl⟩
    · have hlf : ¬ ((k : Int) < (xs.length : Int)) := by omega
      obtain rfl : k = xs.length := by omega
      have HB := Lib.hid (show decide ((0 : Int) ≤ -1) = !xs.all (fun x => decide (x = 0)) by
        have : xs.all (fun x => decide (x = 0)) = true := List.all_eq_true.2 (fun x hx => by
          obtain ⟨k, hk, rfl⟩ := List.getElem_of_mem hx
          have := HN.out k hk
          simpa [Z, hk] using this)
        rw [this]; rfl)
      go_wp2_with fail
      go_ret
      exact ⟨⟨_, rfl, HB.out⟩, rfl⟩

theorem c_anyNot0 (xs : List Int) (A : Option Addr) (B c : Nat) (w : World) (hA : Is w B A xs) (hn : xs.length ≤ 140737488351232) :
    Calls Try.prog 82 #[.slice A xs.length c, .func (.func 83) #[] #[]] w fun e w' => e = .returned (.bool (!xs.all (fun x => decide (x = 0)))) ∧ w = w' := by
  go_enter Try.func82, Try.ntmps82
  go_wp2_with fail
  refine (c_indexNot0 xs A B c w hA hn).mono ?_
  rintro e w1 ⟨⟨i, rfl, hi⟩, rfl⟩
  go_wp2_with fail
  go_ret
  rw [← hi]
  exact ⟨rfl, rfl⟩
theorem c_any0 (A : Option Addr) (c : Nat) (w : World) : Calls Try.prog 82 #[.slice A 0 c, .func (.func 83) #[] #[]] w fun e w' => e = .returned (.bool false) ∧ w = w' :=
  c_anyNot0 [] A 0 c w (fun h => by simp at h) (by simp)
theorem c_any1 (x : Int) (g off c : Nat) (w : World) (h : w.cell? ⟨g, off, none⟩ = some (.int .i64 x)) :
    Calls Try.prog 82 #[.slice (some ⟨g, off, none⟩) 1 c, .func (.func 83) #[] #[]] w fun e w' => e = .returned (.bool (!decide (x = 0))) ∧ w = w' :=
  (c_anyNot0 [x] (some ⟨g, off, none⟩) (g + 1) c w (fun _ => ⟨g, off, rfl, by omega, fun k hk => by
    have hk0 : k = 0 := by simpa using hk
    subst hk0
    exact h⟩) (by simp)).mono fun e w' he => ⟨by rw [he.1]; simp, he.2⟩
theorem c_any2 (x y : Int) (g off c : Nat) (w : World) (h : w.cell? ⟨g, off, none⟩ = some (.int .i64 x)) (h2 : w.cell? ⟨g, off + 1, none⟩ = some (.int .i64 y)) :
    Calls Try.prog 82 #[.slice (some ⟨g, off, none⟩) 2 c, .func (.func 83) #[] #[]] w fun e w' => e = .returned (.bool (!(decide (x = 0) && decide (y = 0)))) ∧ w = w' :=
  (c_anyNot0 [x, y] (some ⟨g, off, none⟩) (g + 1) c w (fun _ => ⟨g, off, rfl, by omega, fun k hk => by
    have hk2 : k = 0 ∨ k = 1 := by simp at hk; omega
    rcases hk2 with rfl | rfl
    · exact h
    · exact h2⟩) (by simp)).mono fun e w' he => ⟨by rw [he.1]; simp, he.2⟩

theorem formOk_no {k a b : Int} (h : ¬ (0 ≤ k ∧ k ≤ 4)) : formOk k a b = false := by
  have : k ≠ 0 ∧ k ≠ 1 ∧ k ≠ 2 ∧ k ≠ 3 ∧ k ≠ 4 := by omega
  simp [formOk, this]

set_option maxRecDepth 8000 in
set_option maxHeartbeats 4000000 in
theorem c_form0 (k : Nat) (W : ByteArray) (a b : Int) (hk : k ≤ 4) (hA : (#[.string ⟨#[99, 111, 109, 101]⟩, .int .i64 2, .string ⟨#[103, 111]⟩, .int .i64 0, .string ⟨#[110, 101, 101, 100]⟩, .int .i64 1, .string ⟨#[108, 97, 116, 101, 114]⟩, .int .i64 1, .string ⟨#[98, 97, 99, 107]⟩, .int .i64 0] : Array Value)[k * 2]? = some (.string W) ∧ (#[.string ⟨#[99, 111, 109, 101]⟩, .int .i64 2, .string ⟨#[103, 111]⟩, .int .i64 0, .string ⟨#[110, 101, 101, 100]⟩, .int .i64 1, .string ⟨#[108, 97, 116, 101, 114]⟩, .int .i64 1, .string ⟨#[98, 97, 99, 107]⟩, .int .i64 0] : Array Value)[k * 2 + 1]? = some (.int .i64 0)) (w : World) :
    Calls Try.prog 73 #[.agg #[.int .i64 (k : Int), .int .i64 a, .int .i64 b]] w fun e w' => e = .returned (.tuple #[.agg #[.string W, .int .i64 0], .bool (decide (a = 0) && decide (b = 0))]) ∧ Below w.heap.size w w' := by
  have hd : decide ((0 : Int) ≤ (k : Int) ∧ (k : Int) ≤ 4) = true := decide_eq_true (by omega)
  have HD := Lib.hid hd
  obtain ⟨w0, hw0⟩ : ∃ w0, (w.alloc (.cells #[.int .i64 (k : Int), .int .i64 a, .int .i64 b] 40)).alloc (.cells #[.string ⟨#[]⟩, .int .i64 0] 102) = w0 := ⟨_, rfl⟩
  have hz0 : w0.heap.size = w.heap.size + 2 := by rw [← hw0]; simp
  have hb0 : Below w.heap.size w w0 := by rw [← hw0]; exact ((Below.refl _ w).alloc (Nat.le_refl _) _).alloc (by simp) _
  have bD : w0.heap[w.heap.size]? = some (.cells #[.int .i64 (k : Int), .int .i64 a, .int .i64 b] 40 (0, 0)) := by rw [← hw0]; exact (Below.heap_alloc _ _ _ (by simp)).trans (heap_alloc_new _ _)
  have bR : w0.heap[w.heap.size + 1]? = some (.cells #[.string ⟨#[]⟩, .int .i64 0] 102 (0, 0)) := by
    rw [← hw0]
    have h := heap_alloc_new (w.alloc (.cells #[.int .i64 (k : Int), .int .i64 a, .int .i64 b] 40)) (.cells #[.string ⟨#[]⟩, .int .i64 0] 102)
    rwa [show (w.alloc (.cells #[.int .i64 (k : Int), .int .i64 a, .int .i64 b] 40)).heap.size = w.heap.size + 1 by simp] at h
  have HS := Lib.hid (fun (W' : World) (hb : Below (w.heap.size + 1) w0 W') => show W'.cell? ⟨w.heap.size, 0, none⟩ = some (.int .i64 (k : Int)) ∧ W'.cell? ⟨w.heap.size, 1, none⟩ = some (.int .i64 a) ∧ W'.cell? ⟨w.heap.size, 2, none⟩ = some (.int .i64 b) from by
    have b := (hb.block w.heap.size (by omega)).trans bD
    exact ⟨cell_of_row _ w.heap.size 0 _ _ _ b, cell_of_row _ w.heap.size 1 _ _ _ b, cell_of_row _ w.heap.size 2 _ _ _ b⟩)
  have p1 : (0 : Int) ≤ (k : Int) := by omega
  have p2 : (k : Int) < 5 := by omega
  clear bD hk hd
  go_enter Try.func73, Try.ntmps73
  go_wp2_with fail
  refine (c_deedForms _).mono ?_
  rintro e w1 ⟨rfl, hb1⟩
  have hz1 := hb1.size
  have c0 := (HS.out (w1.alloc (.cells #[.string ⟨#[99, 111, 109, 101]⟩, .int .i64 2, .string ⟨#[103, 111]⟩, .int .i64 0, .string ⟨#[110, 101, 101, 100]⟩, .int .i64 1, .string ⟨#[108, 97, 116, 101, 114]⟩, .int .i64 1, .string ⟨#[98, 97, 99, 107]⟩, .int .i64 0] 110)) ((hb1.alloc hz1 _).mono (by omega))).1
  go_wp2_with fail
  refine (c_within _ _ _ _).mono ?_
  rintro e w' ⟨rfl, rfl⟩
  rw [HD.out]
  clear c0
  obtain ⟨w2, hw2⟩ : ∃ w2, w1.alloc (.cells #[.string ⟨#[99, 111, 109, 101]⟩, .int .i64 2, .string ⟨#[103, 111]⟩, .int .i64 0, .string ⟨#[110, 101, 101, 100]⟩, .int .i64 1, .string ⟨#[108, 97, 116, 101, 114]⟩, .int .i64 1, .string ⟨#[98, 97, 99, 107]⟩, .int .i64 0] 110) = w2 := ⟨_, rfl⟩
  have hb2 : Below w1.heap.size w1 w2 := by rw [← hw2]; exact (Below.refl _ w1).alloc (Nat.le_refl _) _
  have hz2 : w2.heap.size = w1.heap.size + 1 := by rw [← hw2]; simp
  have bF : w2.heap[w1.heap.size]? = some (.cells #[.string ⟨#[99, 111, 109, 101]⟩, .int .i64 2, .string ⟨#[103, 111]⟩, .int .i64 0, .string ⟨#[110, 101, 101, 100]⟩, .int .i64 1, .string ⟨#[108, 97, 116, 101, 114]⟩, .int .i64 1, .string ⟨#[98, 97, 99, 107]⟩, .int .i64 0] 110 (0, 0)) := by rw [← hw2]; exact heap_alloc_new _ _
  have x0 := (cell_of_row _ w1.heap.size (k * 2) _ _ _ bF).trans hA.1
  have x1 := (cell_of_row _ w1.heap.size (k * 2 + 1) _ _ _ bF).trans hA.2
  have hx2 := hb1.trans (hb2.mono hz1)
  obtain ⟨c0, c1, c2⟩ := HS.out _ (hx2.mono (by omega))
  rw [hw2]
  clear bF hA hw2
  have hlt2 : w1.heap.size < w2.heap.size := by omega
  clear hz2
  go_wp2_with fail
  obtain ⟨w3, hw3⟩ : ∃ w3, w2.alloc (.cells #[.string W, .int .i64 0] 102) = w3 := ⟨_, rfl⟩
  have hb3 : Below w2.heap.size w2 w3 := by rw [← hw3]; exact (Below.refl _ w2).alloc (Nat.le_refl _) _
  have hz3 : w2.heap.size < w3.heap.size := by rw [← hw3]; simp
  have bG : w3.heap[w2.heap.size]? = some (.cells #[.string W, .int .i64 0] 102 (0, 0)) := by rw [← hw3]; exact heap_alloc_new _ _
  rw [hw3]
  have hx3 := hx2.trans (hb3.mono (by omega))
  have HG := Lib.hid (fun (W' : World) (hb : Below w3.heap.size w3 W') => show W'.cell? ⟨w.heap.size, 0, none⟩ = some (.int .i64 (k : Int)) ∧ W'.cell? ⟨w.heap.size, 1, none⟩ = some (.int .i64 a) ∧ W'.cell? ⟨w.heap.size, 2, none⟩ = some (.int .i64 b) ∧ W'.cell? ⟨w2.heap.size, 0, none⟩ = some (.string W) ∧ W'.cell? ⟨w2.heap.size, 1, none⟩ = some (.int .i64 0) from by
    have b := (hb.block w2.heap.size (by omega)).trans bG
    obtain ⟨s0, s1, s2⟩ := HS.out W' ((hx3.trans (hb.mono (by omega))).mono (by omega))
    exact ⟨s0, s1, s2, cell_of_row _ w2.heap.size 0 _ _ _ b, cell_of_row _ w2.heap.size 1 _ _ _ b⟩)
  obtain ⟨g0, g1, g2, g3, g4⟩ := HG.out _ (Below.refl _ w3)
  have hd3 : Below w3.heap.size w3 w3.drew := (Below.refl _ w3).drew
  clear bG hb2 hb3 hw0 hw3 c0 c1 c2 x0 x1
  go_region_held3 (fun W' => W'.cell? ⟨w.heap.size, 0, none⟩ = some (.int .i64 (k : Int)) ∧ W'.cell? ⟨w.heap.size, 1, none⟩ = some (.int .i64 a) ∧ W'.cell? ⟨w.heap.size, 2, none⟩ = some (.int .i64 b) ∧ W'.cell? ⟨w2.heap.size, 0, none⟩ = some (.string W) ∧ W'.cell? ⟨w2.heap.size, 1, none⟩ = some (.int .i64 0))
    (first
      | go_keep
      | exact HG.out _ hx6)
    (first
      | (go_at_call 81; refine (c_numbers _ _ _ _).mono ?_; rintro e w6 ⟨g, rfl, e0, e1, hg, hb6⟩; have hx6 : Below w3.heap.size w3 w6 := hd3.trans hb6))
  obtain ⟨y0, y1, y2, y3, y4⟩ := HG.out _ hx6
  have hy6 := hx3.trans (hx6.mono (by omega))
  have b6 := (hy6.block (w.heap.size + 1) (by omega)).trans bR
  have r0 := cell_of_row _ (w.heap.size + 1) 0 _ _ _ b6
  have r1 := cell_of_row _ (w.heap.size + 1) 1 _ _ _ b6
  have f0 : w6.frozen? ⟨w.heap.size + 1, 0, none⟩ = false := unfrozen_of b6
  have f1 : w6.frozen? ⟨w.heap.size + 1, 1, none⟩ = false := unfrozen_of b6
  have hlR : w.heap.size + 1 < w2.heap.size := by omega
  have HK := Lib.hid (fun (p q : Value) => show ((w6.setCell ⟨w.heap.size + 1, 0, none⟩ p).setCell ⟨w.heap.size + 1, 1, none⟩ q).drew.cell? ⟨w2.heap.size, 0, none⟩ = some (.string W) ∧ ((w6.setCell ⟨w.heap.size + 1, 0, none⟩ p).setCell ⟨w.heap.size + 1, 1, none⟩ q).drew.cell? ⟨w2.heap.size, 1, none⟩ = some (.int .i64 0) from
    ⟨(World.cell?_of_block (W2_heap w6 (w.heap.size + 1) p q w2.heap.size (by omega))).trans y3, (World.cell?_of_block (W2_heap w6 (w.heap.size + 1) p q w2.heap.size (by omega))).trans y4⟩)
  have E0 := Lib.hid e0
  have E1 := Lib.hid e1
  have HB := Lib.hid b6
  have HY := Lib.hid (show Below w.heap.size w w6 from hb0.trans (hy6.mono (by omega)))
  clear g0 g1 g2 g3 g4 y0 y1 y2 hx6 hy6 hb6 hd3 e0 e1 b6 hx2 hx3
  go_wp2_with fail
  go_region_held3 (fun W' => W'.cell? ⟨w2.heap.size, 0, none⟩ = some (.string W) ∧ W'.cell? ⟨w2.heap.size, 1, none⟩ = some (.int .i64 0))
    (first
      | exact HK.out _ _
      | go_keep)
    (first
      | (go_at_call 82; refine (c_any2 a b g 0 2 _ (by exact E0.out) (by exact E1.out)).mono ?_; rintro e w' ⟨rfl, rfl⟩))
  go_wp2_with fail
  obtain ⟨k0, k1⟩ := put2 (.string W) (.int .i64 0) HB.out
  refine bodyPost_ret (v := .tuple #[.agg #[.string W, .int .i64 0], .bool (decide (a = 0) && decide (b = 0))]) (by simp [results, Try.f73, go_sem, k0, k1]) rfl ?_
  exact ⟨rfl, (HY.out.drew.setCell (p := ⟨w.heap.size + 1, 0, none⟩) (by simp) _).setCell (p := ⟨w.heap.size + 1, 1, none⟩) (by simp) _⟩

set_option maxRecDepth 8000 in
set_option maxHeartbeats 4000000 in
theorem c_form1 (k : Nat) (W : ByteArray) (a b : Int) (hk : k ≤ 4) (hA : (#[.string ⟨#[99, 111, 109, 101]⟩, .int .i64 2, .string ⟨#[103, 111]⟩, .int .i64 0, .string ⟨#[110, 101, 101, 100]⟩, .int .i64 1, .string ⟨#[108, 97, 116, 101, 114]⟩, .int .i64 1, .string ⟨#[98, 97, 99, 107]⟩, .int .i64 0] : Array Value)[k * 2]? = some (.string W) ∧ (#[.string ⟨#[99, 111, 109, 101]⟩, .int .i64 2, .string ⟨#[103, 111]⟩, .int .i64 0, .string ⟨#[110, 101, 101, 100]⟩, .int .i64 1, .string ⟨#[108, 97, 116, 101, 114]⟩, .int .i64 1, .string ⟨#[98, 97, 99, 107]⟩, .int .i64 0] : Array Value)[k * 2 + 1]? = some (.int .i64 1)) (w : World) :
    Calls Try.prog 73 #[.agg #[.int .i64 (k : Int), .int .i64 a, .int .i64 b]] w fun e w' => e = .returned (.tuple #[.agg #[.string W, .int .i64 1], .bool (decide (b = 0))]) ∧ Below w.heap.size w w' := by
  have hd : decide ((0 : Int) ≤ (k : Int) ∧ (k : Int) ≤ 4) = true := decide_eq_true (by omega)
  have HD := Lib.hid hd
  obtain ⟨w0, hw0⟩ : ∃ w0, (w.alloc (.cells #[.int .i64 (k : Int), .int .i64 a, .int .i64 b] 40)).alloc (.cells #[.string ⟨#[]⟩, .int .i64 0] 102) = w0 := ⟨_, rfl⟩
  have hz0 : w0.heap.size = w.heap.size + 2 := by rw [← hw0]; simp
  have hb0 : Below w.heap.size w w0 := by rw [← hw0]; exact ((Below.refl _ w).alloc (Nat.le_refl _) _).alloc (by simp) _
  have bD : w0.heap[w.heap.size]? = some (.cells #[.int .i64 (k : Int), .int .i64 a, .int .i64 b] 40 (0, 0)) := by rw [← hw0]; exact (Below.heap_alloc _ _ _ (by simp)).trans (heap_alloc_new _ _)
  have bR : w0.heap[w.heap.size + 1]? = some (.cells #[.string ⟨#[]⟩, .int .i64 0] 102 (0, 0)) := by
    rw [← hw0]
    have h := heap_alloc_new (w.alloc (.cells #[.int .i64 (k : Int), .int .i64 a, .int .i64 b] 40)) (.cells #[.string ⟨#[]⟩, .int .i64 0] 102)
    rwa [show (w.alloc (.cells #[.int .i64 (k : Int), .int .i64 a, .int .i64 b] 40)).heap.size = w.heap.size + 1 by simp] at h
  have HS := Lib.hid (fun (W' : World) (hb : Below (w.heap.size + 1) w0 W') => show W'.cell? ⟨w.heap.size, 0, none⟩ = some (.int .i64 (k : Int)) ∧ W'.cell? ⟨w.heap.size, 1, none⟩ = some (.int .i64 a) ∧ W'.cell? ⟨w.heap.size, 2, none⟩ = some (.int .i64 b) from by
    have b := (hb.block w.heap.size (by omega)).trans bD
    exact ⟨cell_of_row _ w.heap.size 0 _ _ _ b, cell_of_row _ w.heap.size 1 _ _ _ b, cell_of_row _ w.heap.size 2 _ _ _ b⟩)
  have p1 : (0 : Int) ≤ (k : Int) := by omega
  have p2 : (k : Int) < 5 := by omega
  clear bD hk hd
  go_enter Try.func73, Try.ntmps73
  go_wp2_with fail
  refine (c_deedForms _).mono ?_
  rintro e w1 ⟨rfl, hb1⟩
  have hz1 := hb1.size
  have c0 := (HS.out (w1.alloc (.cells #[.string ⟨#[99, 111, 109, 101]⟩, .int .i64 2, .string ⟨#[103, 111]⟩, .int .i64 0, .string ⟨#[110, 101, 101, 100]⟩, .int .i64 1, .string ⟨#[108, 97, 116, 101, 114]⟩, .int .i64 1, .string ⟨#[98, 97, 99, 107]⟩, .int .i64 0] 110)) ((hb1.alloc hz1 _).mono (by omega))).1
  go_wp2_with fail
  refine (c_within _ _ _ _).mono ?_
  rintro e w' ⟨rfl, rfl⟩
  rw [HD.out]
  clear c0
  obtain ⟨w2, hw2⟩ : ∃ w2, w1.alloc (.cells #[.string ⟨#[99, 111, 109, 101]⟩, .int .i64 2, .string ⟨#[103, 111]⟩, .int .i64 0, .string ⟨#[110, 101, 101, 100]⟩, .int .i64 1, .string ⟨#[108, 97, 116, 101, 114]⟩, .int .i64 1, .string ⟨#[98, 97, 99, 107]⟩, .int .i64 0] 110) = w2 := ⟨_, rfl⟩
  have hb2 : Below w1.heap.size w1 w2 := by rw [← hw2]; exact (Below.refl _ w1).alloc (Nat.le_refl _) _
  have hz2 : w2.heap.size = w1.heap.size + 1 := by rw [← hw2]; simp
  have bF : w2.heap[w1.heap.size]? = some (.cells #[.string ⟨#[99, 111, 109, 101]⟩, .int .i64 2, .string ⟨#[103, 111]⟩, .int .i64 0, .string ⟨#[110, 101, 101, 100]⟩, .int .i64 1, .string ⟨#[108, 97, 116, 101, 114]⟩, .int .i64 1, .string ⟨#[98, 97, 99, 107]⟩, .int .i64 0] 110 (0, 0)) := by rw [← hw2]; exact heap_alloc_new _ _
  have x0 := (cell_of_row _ w1.heap.size (k * 2) _ _ _ bF).trans hA.1
  have x1 := (cell_of_row _ w1.heap.size (k * 2 + 1) _ _ _ bF).trans hA.2
  have hx2 := hb1.trans (hb2.mono hz1)
  obtain ⟨c0, c1, c2⟩ := HS.out _ (hx2.mono (by omega))
  rw [hw2]
  clear bF hA hw2
  have hlt2 : w1.heap.size < w2.heap.size := by omega
  clear hz2
  go_wp2_with fail
  obtain ⟨w3, hw3⟩ : ∃ w3, w2.alloc (.cells #[.string W, .int .i64 1] 102) = w3 := ⟨_, rfl⟩
  have hb3 : Below w2.heap.size w2 w3 := by rw [← hw3]; exact (Below.refl _ w2).alloc (Nat.le_refl _) _
  have hz3 : w2.heap.size < w3.heap.size := by rw [← hw3]; simp
  have bG : w3.heap[w2.heap.size]? = some (.cells #[.string W, .int .i64 1] 102 (0, 0)) := by rw [← hw3]; exact heap_alloc_new _ _
  rw [hw3]
  have hx3 := hx2.trans (hb3.mono (by omega))
  have HG := Lib.hid (fun (W' : World) (hb : Below w3.heap.size w3 W') => show W'.cell? ⟨w.heap.size, 0, none⟩ = some (.int .i64 (k : Int)) ∧ W'.cell? ⟨w.heap.size, 1, none⟩ = some (.int .i64 a) ∧ W'.cell? ⟨w.heap.size, 2, none⟩ = some (.int .i64 b) ∧ W'.cell? ⟨w2.heap.size, 0, none⟩ = some (.string W) ∧ W'.cell? ⟨w2.heap.size, 1, none⟩ = some (.int .i64 1) from by
    have b := (hb.block w2.heap.size (by omega)).trans bG
    obtain ⟨s0, s1, s2⟩ := HS.out W' ((hx3.trans (hb.mono (by omega))).mono (by omega))
    exact ⟨s0, s1, s2, cell_of_row _ w2.heap.size 0 _ _ _ b, cell_of_row _ w2.heap.size 1 _ _ _ b⟩)
  obtain ⟨g0, g1, g2, g3, g4⟩ := HG.out _ (Below.refl _ w3)
  have hd3 : Below w3.heap.size w3 w3.drew := (Below.refl _ w3).drew
  clear bG hb2 hb3 hw0 hw3 c0 c1 c2 x0 x1
  go_region_held3 (fun W' => W'.cell? ⟨w.heap.size, 0, none⟩ = some (.int .i64 (k : Int)) ∧ W'.cell? ⟨w.heap.size, 1, none⟩ = some (.int .i64 a) ∧ W'.cell? ⟨w.heap.size, 2, none⟩ = some (.int .i64 b) ∧ W'.cell? ⟨w2.heap.size, 0, none⟩ = some (.string W) ∧ W'.cell? ⟨w2.heap.size, 1, none⟩ = some (.int .i64 1))
    (first
      | go_keep
      | exact HG.out _ hx6)
    (first
      | (go_at_call 81; refine (c_numbers _ _ _ _).mono ?_; rintro e w6 ⟨g, rfl, e0, e1, hg, hb6⟩; have hx6 : Below w3.heap.size w3 w6 := hd3.trans hb6))
  obtain ⟨y0, y1, y2, y3, y4⟩ := HG.out _ hx6
  have hy6 := hx3.trans (hx6.mono (by omega))
  have b6 := (hy6.block (w.heap.size + 1) (by omega)).trans bR
  have r0 := cell_of_row _ (w.heap.size + 1) 0 _ _ _ b6
  have r1 := cell_of_row _ (w.heap.size + 1) 1 _ _ _ b6
  have f0 : w6.frozen? ⟨w.heap.size + 1, 0, none⟩ = false := unfrozen_of b6
  have f1 : w6.frozen? ⟨w.heap.size + 1, 1, none⟩ = false := unfrozen_of b6
  have hlR : w.heap.size + 1 < w2.heap.size := by omega
  have HK := Lib.hid (fun (p q : Value) => show ((w6.setCell ⟨w.heap.size + 1, 0, none⟩ p).setCell ⟨w.heap.size + 1, 1, none⟩ q).drew.cell? ⟨w2.heap.size, 0, none⟩ = some (.string W) ∧ ((w6.setCell ⟨w.heap.size + 1, 0, none⟩ p).setCell ⟨w.heap.size + 1, 1, none⟩ q).drew.cell? ⟨w2.heap.size, 1, none⟩ = some (.int .i64 1) from
    ⟨(World.cell?_of_block (W2_heap w6 (w.heap.size + 1) p q w2.heap.size (by omega))).trans y3, (World.cell?_of_block (W2_heap w6 (w.heap.size + 1) p q w2.heap.size (by omega))).trans y4⟩)
  have E0 := Lib.hid e0
  have E1 := Lib.hid e1
  have HB := Lib.hid b6
  have HY := Lib.hid (show Below w.heap.size w w6 from hb0.trans (hy6.mono (by omega)))
  clear g0 g1 g2 g3 g4 y0 y1 y2 hx6 hy6 hb6 hd3 e0 e1 b6 hx2 hx3
  go_wp2_with fail
  go_region_held3 (fun W' => W'.cell? ⟨w2.heap.size, 0, none⟩ = some (.string W) ∧ W'.cell? ⟨w2.heap.size, 1, none⟩ = some (.int .i64 1))
    (first
      | exact HK.out _ _
      | go_keep)
    (first
      | (go_at_call 82; refine (c_any1 b g 1 1 _ (by exact E1.out)).mono ?_; rintro e w' ⟨rfl, rfl⟩))
  go_wp2_with fail
  obtain ⟨k0, k1⟩ := put2 (.string W) (.int .i64 1) HB.out
  refine bodyPost_ret (v := .tuple #[.agg #[.string W, .int .i64 1], .bool (decide (b = 0))]) (by simp [results, Try.f73, go_sem, k0, k1]) rfl ?_
  exact ⟨rfl, (HY.out.drew.setCell (p := ⟨w.heap.size + 1, 0, none⟩) (by simp) _).setCell (p := ⟨w.heap.size + 1, 1, none⟩) (by simp) _⟩

set_option maxRecDepth 8000 in
set_option maxHeartbeats 4000000 in
theorem c_form2 (k : Nat) (W : ByteArray) (a b : Int) (hk : k ≤ 4) (hA : (#[.string ⟨#[99, 111, 109, 101]⟩, .int .i64 2, .string ⟨#[103, 111]⟩, .int .i64 0, .string ⟨#[110, 101, 101, 100]⟩, .int .i64 1, .string ⟨#[108, 97, 116, 101, 114]⟩, .int .i64 1, .string ⟨#[98, 97, 99, 107]⟩, .int .i64 0] : Array Value)[k * 2]? = some (.string W) ∧ (#[.string ⟨#[99, 111, 109, 101]⟩, .int .i64 2, .string ⟨#[103, 111]⟩, .int .i64 0, .string ⟨#[110, 101, 101, 100]⟩, .int .i64 1, .string ⟨#[108, 97, 116, 101, 114]⟩, .int .i64 1, .string ⟨#[98, 97, 99, 107]⟩, .int .i64 0] : Array Value)[k * 2 + 1]? = some (.int .i64 2)) (w : World) :
    Calls Try.prog 73 #[.agg #[.int .i64 (k : Int), .int .i64 a, .int .i64 b]] w fun e w' => e = .returned (.tuple #[.agg #[.string W, .int .i64 2], .bool (true)]) ∧ Below w.heap.size w w' := by
  have hd : decide ((0 : Int) ≤ (k : Int) ∧ (k : Int) ≤ 4) = true := decide_eq_true (by omega)
  have HD := Lib.hid hd
  obtain ⟨w0, hw0⟩ : ∃ w0, (w.alloc (.cells #[.int .i64 (k : Int), .int .i64 a, .int .i64 b] 40)).alloc (.cells #[.string ⟨#[]⟩, .int .i64 0] 102) = w0 := ⟨_, rfl⟩
  have hz0 : w0.heap.size = w.heap.size + 2 := by rw [← hw0]; simp
  have hb0 : Below w.heap.size w w0 := by rw [← hw0]; exact ((Below.refl _ w).alloc (Nat.le_refl _) _).alloc (by simp) _
  have bD : w0.heap[w.heap.size]? = some (.cells #[.int .i64 (k : Int), .int .i64 a, .int .i64 b] 40 (0, 0)) := by rw [← hw0]; exact (Below.heap_alloc _ _ _ (by simp)).trans (heap_alloc_new _ _)
  have bR : w0.heap[w.heap.size + 1]? = some (.cells #[.string ⟨#[]⟩, .int .i64 0] 102 (0, 0)) := by
    rw [← hw0]
    have h := heap_alloc_new (w.alloc (.cells #[.int .i64 (k : Int), .int .i64 a, .int .i64 b] 40)) (.cells #[.string ⟨#[]⟩, .int .i64 0] 102)
    rwa [show (w.alloc (.cells #[.int .i64 (k : Int), .int .i64 a, .int .i64 b] 40)).heap.size = w.heap.size + 1 by simp] at h
  have HS := Lib.hid (fun (W' : World) (hb : Below (w.heap.size + 1) w0 W') => show W'.cell? ⟨w.heap.size, 0, none⟩ = some (.int .i64 (k : Int)) ∧ W'.cell? ⟨w.heap.size, 1, none⟩ = some (.int .i64 a) ∧ W'.cell? ⟨w.heap.size, 2, none⟩ = some (.int .i64 b) from by
    have b := (hb.block w.heap.size (by omega)).trans bD
    exact ⟨cell_of_row _ w.heap.size 0 _ _ _ b, cell_of_row _ w.heap.size 1 _ _ _ b, cell_of_row _ w.heap.size 2 _ _ _ b⟩)
  have p1 : (0 : Int) ≤ (k : Int) := by omega
  have p2 : (k : Int) < 5 := by omega
  clear bD hk hd
  go_enter Try.func73, Try.ntmps73
  go_wp2_with fail
  refine (c_deedForms _).mono ?_
  rintro e w1 ⟨rfl, hb1⟩
  have hz1 := hb1.size
  have c0 := (HS.out (w1.alloc (.cells #[.string ⟨#[99, 111, 109, 101]⟩, .int .i64 2, .string ⟨#[103, 111]⟩, .int .i64 0, .string ⟨#[110, 101, 101, 100]⟩, .int .i64 1, .string ⟨#[108, 97, 116, 101, 114]⟩, .int .i64 1, .string ⟨#[98, 97, 99, 107]⟩, .int .i64 0] 110)) ((hb1.alloc hz1 _).mono (by omega))).1
  go_wp2_with fail
  refine (c_within _ _ _ _).mono ?_
  rintro e w' ⟨rfl, rfl⟩
  rw [HD.out]
  clear c0
  obtain ⟨w2, hw2⟩ : ∃ w2, w1.alloc (.cells #[.string ⟨#[99, 111, 109, 101]⟩, .int .i64 2, .string ⟨#[103, 111]⟩, .int .i64 0, .string ⟨#[110, 101, 101, 100]⟩, .int .i64 1, .string ⟨#[108, 97, 116, 101, 114]⟩, .int .i64 1, .string ⟨#[98, 97, 99, 107]⟩, .int .i64 0] 110) = w2 := ⟨_, rfl⟩
  have hb2 : Below w1.heap.size w1 w2 := by rw [← hw2]; exact (Below.refl _ w1).alloc (Nat.le_refl _) _
  have hz2 : w2.heap.size = w1.heap.size + 1 := by rw [← hw2]; simp
  have bF : w2.heap[w1.heap.size]? = some (.cells #[.string ⟨#[99, 111, 109, 101]⟩, .int .i64 2, .string ⟨#[103, 111]⟩, .int .i64 0, .string ⟨#[110, 101, 101, 100]⟩, .int .i64 1, .string ⟨#[108, 97, 116, 101, 114]⟩, .int .i64 1, .string ⟨#[98, 97, 99, 107]⟩, .int .i64 0] 110 (0, 0)) := by rw [← hw2]; exact heap_alloc_new _ _
  have x0 := (cell_of_row _ w1.heap.size (k * 2) _ _ _ bF).trans hA.1
  have x1 := (cell_of_row _ w1.heap.size (k * 2 + 1) _ _ _ bF).trans hA.2
  have hx2 := hb1.trans (hb2.mono hz1)
  obtain ⟨c0, c1, c2⟩ := HS.out _ (hx2.mono (by omega))
  rw [hw2]
  clear bF hA hw2
  have hlt2 : w1.heap.size < w2.heap.size := by omega
  clear hz2
  go_wp2_with fail
  obtain ⟨w3, hw3⟩ : ∃ w3, w2.alloc (.cells #[.string W, .int .i64 2] 102) = w3 := ⟨_, rfl⟩
  have hb3 : Below w2.heap.size w2 w3 := by rw [← hw3]; exact (Below.refl _ w2).alloc (Nat.le_refl _) _
  have hz3 : w2.heap.size < w3.heap.size := by rw [← hw3]; simp
  have bG : w3.heap[w2.heap.size]? = some (.cells #[.string W, .int .i64 2] 102 (0, 0)) := by rw [← hw3]; exact heap_alloc_new _ _
  rw [hw3]
  have hx3 := hx2.trans (hb3.mono (by omega))
  have HG := Lib.hid (fun (W' : World) (hb : Below w3.heap.size w3 W') => show W'.cell? ⟨w.heap.size, 0, none⟩ = some (.int .i64 (k : Int)) ∧ W'.cell? ⟨w.heap.size, 1, none⟩ = some (.int .i64 a) ∧ W'.cell? ⟨w.heap.size, 2, none⟩ = some (.int .i64 b) ∧ W'.cell? ⟨w2.heap.size, 0, none⟩ = some (.string W) ∧ W'.cell? ⟨w2.heap.size, 1, none⟩ = some (.int .i64 2) from by
    have b := (hb.block w2.heap.size (by omega)).trans bG
    obtain ⟨s0, s1, s2⟩ := HS.out W' ((hx3.trans (hb.mono (by omega))).mono (by omega))
    exact ⟨s0, s1, s2, cell_of_row _ w2.heap.size 0 _ _ _ b, cell_of_row _ w2.heap.size 1 _ _ _ b⟩)
  obtain ⟨g0, g1, g2, g3, g4⟩ := HG.out _ (Below.refl _ w3)
  have hd3 : Below w3.heap.size w3 w3.drew := (Below.refl _ w3).drew
  clear bG hb2 hb3 hw0 hw3 c0 c1 c2 x0 x1
  go_region_held3 (fun W' => W'.cell? ⟨w.heap.size, 0, none⟩ = some (.int .i64 (k : Int)) ∧ W'.cell? ⟨w.heap.size, 1, none⟩ = some (.int .i64 a) ∧ W'.cell? ⟨w.heap.size, 2, none⟩ = some (.int .i64 b) ∧ W'.cell? ⟨w2.heap.size, 0, none⟩ = some (.string W) ∧ W'.cell? ⟨w2.heap.size, 1, none⟩ = some (.int .i64 2))
    (first
      | go_keep
      | exact HG.out _ hx6)
    (first
      | (go_at_call 81; refine (c_numbers _ _ _ _).mono ?_; rintro e w6 ⟨g, rfl, e0, e1, hg, hb6⟩; have hx6 : Below w3.heap.size w3 w6 := hd3.trans hb6))
  obtain ⟨y0, y1, y2, y3, y4⟩ := HG.out _ hx6
  have hy6 := hx3.trans (hx6.mono (by omega))
  have b6 := (hy6.block (w.heap.size + 1) (by omega)).trans bR
  have r0 := cell_of_row _ (w.heap.size + 1) 0 _ _ _ b6
  have r1 := cell_of_row _ (w.heap.size + 1) 1 _ _ _ b6
  have f0 : w6.frozen? ⟨w.heap.size + 1, 0, none⟩ = false := unfrozen_of b6
  have f1 : w6.frozen? ⟨w.heap.size + 1, 1, none⟩ = false := unfrozen_of b6
  have hlR : w.heap.size + 1 < w2.heap.size := by omega
  have HK := Lib.hid (fun (p q : Value) => show ((w6.setCell ⟨w.heap.size + 1, 0, none⟩ p).setCell ⟨w.heap.size + 1, 1, none⟩ q).drew.cell? ⟨w2.heap.size, 0, none⟩ = some (.string W) ∧ ((w6.setCell ⟨w.heap.size + 1, 0, none⟩ p).setCell ⟨w.heap.size + 1, 1, none⟩ q).drew.cell? ⟨w2.heap.size, 1, none⟩ = some (.int .i64 2) from
    ⟨(World.cell?_of_block (W2_heap w6 (w.heap.size + 1) p q w2.heap.size (by omega))).trans y3, (World.cell?_of_block (W2_heap w6 (w.heap.size + 1) p q w2.heap.size (by omega))).trans y4⟩)
  have E0 := Lib.hid e0
  have E1 := Lib.hid e1
  have HB := Lib.hid b6
  have HY := Lib.hid (show Below w.heap.size w w6 from hb0.trans (hy6.mono (by omega)))
  clear g0 g1 g2 g3 g4 y0 y1 y2 hx6 hy6 hb6 hd3 e0 e1 b6 hx2 hx3
  go_wp2_with fail
  go_region_held3 (fun W' => W'.cell? ⟨w2.heap.size, 0, none⟩ = some (.string W) ∧ W'.cell? ⟨w2.heap.size, 1, none⟩ = some (.int .i64 2))
    (first
      | exact HK.out _ _
      | go_keep)
    (first
      | (go_at_call 82; refine (c_any0 _ _ _).mono ?_; rintro e w' ⟨rfl, rfl⟩))
  go_wp2_with fail
  obtain ⟨k0, k1⟩ := put2 (.string W) (.int .i64 2) HB.out
  refine bodyPost_ret (v := .tuple #[.agg #[.string W, .int .i64 2], .bool (true)]) (by simp [results, Try.f73, go_sem, k0, k1]) rfl ?_
  exact ⟨rfl, (HY.out.drew.setCell (p := ⟨w.heap.size + 1, 0, none⟩) (by simp) _).setCell (p := ⟨w.heap.size + 1, 1, none⟩) (by simp) _⟩

set_option maxRecDepth 8000 in
set_option maxHeartbeats 4000000 in
theorem c_formNo (k a b : Int) (hk : ¬ (0 ≤ k ∧ k ≤ 4)) (w : World) :
    Calls Try.prog 73 #[.agg #[.int .i64 k, .int .i64 a, .int .i64 b]] w fun e w' => (∃ f, e = .returned (.tuple #[f, .bool (formOk k a b)]) ∧ (0 ≤ k ∧ k ≤ 4 → f = formVal k) ∧ ∃ W n, f = .agg #[.string W, .int .i64 n]) ∧ Below w.heap.size w w' := by
  have HD := Lib.hid (show decide ((0 : Int) ≤ k ∧ k ≤ 4) = false from decide_eq_false hk)
  have HV := Lib.hid (formOk_no (a := a) (b := b) hk)
  have HK := Lib.hid hk
  obtain ⟨w0, hw0⟩ : ∃ w0, (w.alloc (.cells #[.int .i64 k, .int .i64 a, .int .i64 b] 40)).alloc (.cells #[.string ⟨#[]⟩, .int .i64 0] 102) = w0 := ⟨_, rfl⟩
  have hz0 : w0.heap.size = w.heap.size + 2 := by rw [← hw0]; simp
  have hb0 : Below w.heap.size w w0 := by rw [← hw0]; exact ((Below.refl _ w).alloc (Nat.le_refl _) _).alloc (by simp) _
  have bD : w0.heap[w.heap.size]? = some (.cells #[.int .i64 k, .int .i64 a, .int .i64 b] 40 (0, 0)) := by rw [← hw0]; exact (Below.heap_alloc _ _ _ (by simp)).trans (heap_alloc_new _ _)
  have bR : w0.heap[w.heap.size + 1]? = some (.cells #[.string ⟨#[]⟩, .int .i64 0] 102 (0, 0)) := by
    rw [← hw0]
    have h := heap_alloc_new (w.alloc (.cells #[.int .i64 k, .int .i64 a, .int .i64 b] 40)) (.cells #[.string ⟨#[]⟩, .int .i64 0] 102)
    rwa [show (w.alloc (.cells #[.int .i64 k, .int .i64 a, .int .i64 b] 40)).heap.size = w.heap.size + 1 by simp] at h
  clear hk
  go_enter Try.func73, Try.ntmps73
  go_wp2_with fail
  refine (c_deedForms _).mono ?_
  rintro e w1 ⟨rfl, hb1⟩
  have hz1 := hb1.size
  have hx := hb1.alloc hz1 (.cells #[.string ⟨#[99, 111, 109, 101]⟩, .int .i64 2, .string ⟨#[103, 111]⟩, .int .i64 0, .string ⟨#[110, 101, 101, 100]⟩, .int .i64 1, .string ⟨#[108, 97, 116, 101, 114]⟩, .int .i64 1, .string ⟨#[98, 97, 99, 107]⟩, .int .i64 0] 110)
  have c0 := cell_of_row _ w.heap.size 0 _ _ _ ((hx.block w.heap.size (by omega)).trans bD)
  go_wp2_with fail
  refine (c_within _ _ _ _).mono ?_
  rintro e w' ⟨rfl, rfl⟩
  rw [HD.out]
  obtain ⟨w2, hw2⟩ : ∃ w2, w1.alloc (.cells #[.string ⟨#[99, 111, 109, 101]⟩, .int .i64 2, .string ⟨#[103, 111]⟩, .int .i64 0, .string ⟨#[110, 101, 101, 100]⟩, .int .i64 1, .string ⟨#[108, 97, 116, 101, 114]⟩, .int .i64 1, .string ⟨#[98, 97, 99, 107]⟩, .int .i64 0] 110) = w2 := ⟨_, rfl⟩
  rw [hw2]
  rw [hw2] at hx
  clear hw2 c0
  have b6 := (hx.block (w.heap.size + 1) (by omega)).trans bR
  have r0 := cell_of_row _ (w.heap.size + 1) 0 _ _ _ b6
  have r1 := cell_of_row _ (w.heap.size + 1) 1 _ _ _ b6
  have f0 : w2.frozen? ⟨w.heap.size + 1, 0, none⟩ = false := unfrozen_of b6
  have f1 : w2.frozen? ⟨w.heap.size + 1, 1, none⟩ = false := unfrozen_of b6
  go_wp2_with fail
  obtain ⟨k0, k1⟩ := put2 (.string ⟨#[]⟩) (.int .i64 0) b6
  refine bodyPost_ret (v := .tuple #[.agg #[.string ⟨#[]⟩, .int .i64 0], .bool false]) (by simp [results, Try.f73, go_sem, k0, k1]) rfl ?_
  exact ⟨⟨_, by rw [HV.out], fun h => absurd h HK.out, _, _, rfl⟩, ((hb0.trans (hx.mono (by omega))).setCell (p := ⟨w.heap.size + 1, 0, none⟩) (by simp) _).setCell (p := ⟨w.heap.size + 1, 1, none⟩) (by simp) _⟩

theorem c_form (k a b : Int) (w : World) :
    Calls Try.prog 73 #[.agg #[.int .i64 k, .int .i64 a, .int .i64 b]] w fun e w' => (∃ f, e = .returned (.tuple #[f, .bool (formOk k a b)]) ∧ (0 ≤ k ∧ k ≤ 4 → f = formVal k) ∧ ∃ W n, f = .agg #[.string W, .int .i64 n]) ∧ Below w.heap.size w w' := by
  by_cases hk : 0 ≤ k ∧ k ≤ 4
  · have hkk : k = 0 ∨ k = 1 ∨ k = 2 ∨ k = 3 ∨ k = 4 := by omega
    rcases hkk with rfl | rfl | rfl | rfl | rfl
    · exact (c_form2 0 _ a b (by omega) ⟨rfl, rfl⟩ w).mono fun e w' h => ⟨⟨formVal 0, by rw [h.1]; simp [formOk]; rfl, fun _ => rfl, _, _, rfl⟩, h.2⟩
    · exact (c_form0 1 _ a b (by omega) ⟨rfl, rfl⟩ w).mono fun e w' h => ⟨⟨formVal 1, by rw [h.1]; simp [formOk]; rfl, fun _ => rfl, _, _, rfl⟩, h.2⟩
    · exact (c_form1 2 _ a b (by omega) ⟨rfl, rfl⟩ w).mono fun e w' h => ⟨⟨formVal 2, by rw [h.1]; simp [formOk]; rfl, fun _ => rfl, _, _, rfl⟩, h.2⟩
    · exact (c_form1 3 _ a b (by omega) ⟨rfl, rfl⟩ w).mono fun e w' h => ⟨⟨formVal 3, by rw [h.1]; simp [formOk]; rfl, fun _ => rfl, _, _, rfl⟩, h.2⟩
    · exact (c_form0 4 _ a b (by omega) ⟨rfl, rfl⟩ w).mono fun e w' h => ⟨⟨formVal 4, by rw [h.1]; simp [formOk]; rfl, fun _ => rfl, _, _, rfl⟩, h.2⟩
  · exact c_formNo k a b hk w

end Go.Proofs.Ytpbmehodcllncaa

