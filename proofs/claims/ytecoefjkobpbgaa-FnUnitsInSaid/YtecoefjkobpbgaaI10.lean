/- draws of chapter 11 (ahead) -/
import Derived.Test.YtecoefjkobpbgaaI4
import Derived.Test.YtecoefjkobpbgaaK25
import Derived.Test.YtecoefjkobpbgaaKI
namespace Go.Proofs.Ytecoefjkobpbgaa
set_option linter.unusedVariables false
open Go.RowKit
attribute [local go_sem ↓] Go.wp_at_zero Go.wp_at_succ


set_option maxHeartbeats 1000000 in
theorem c_DrawRoundOrder (A : Option Addr) (n c : Nat) (w : World) (h : Bs w w.heap.size A n) (hn : n ≤ 1048576) (hc : n ≤ c) :
    Calls Try.prog 11 #[.slice A n c] w fun e w' => ∃ L v, e = .returned v ∧ CO w' w.heap.size v L ∧ L.length ≤ 9 ∧ bdL L ∧ Below w.heap.size w w' := by
  go_enter Try.func11, Try.ntmps11
  go_wp2_with fail
  refine (c_l20Open A n c _ h hn hc).mono ?_
  rintro e w1 ⟨r, rfl, hr, hb1⟩
  have hs1 := hb1.size
  have hrb := hr.1
  go_wp2_with fail
  refine (c_l20Customers w.heap.size r 0 9 _ hr (by omega) (by omega) (by omega)).mono ?_
  rintro e w2 ⟨L, v, rfl, hv, hl, hbd, hg, -⟩
  go_wp2_with fail
  go_ret
  exact ⟨L, v, rfl, hv.mono hs1, hl, hbd, hb1.trans (below_grown hg hrb hs1)⟩



theorem flatC_set0 (B : List (Int × Int)) : ∀ (k : Nat) (x : Int), k < B.length → flatC (B.set k (x, Y B k)) = (flatC B).set (k * 2) (.int .i64 x) := by
  induction B with
  | nil => intro k c hk; simp at hk
  | cons d B ih =>
    intro k x hk
    cases k with
    | zero => rfl
    | succ k =>
      have := ih k x (by simpa using hk)
      have e1 : (k + 1) * 2 = k * 2 + 1 + 1 := by omega
      have e2 : Y (d :: B) (k + 1) = Y B k := rfl
      rw [e2]
      simp only [flatC, List.set_cons_succ, List.flatMap_cons, e1, List.cons_append, List.nil_append] at this ⊢
      rw [this]
theorem CO.store0 {w : World} {base g n c : Nat} {M : List (Int × Int)} (h : CO w base (.slice (some ⟨g, 0, none⟩) n c) M) (k : Nat) (hk : k < M.length) (x : Int) :
    CO (w.setCell ⟨g, k * 2, none⟩ (.int .i64 x)) base (.slice (some ⟨g, 0, none⟩) n c) (M.set k (x, Y M k)) := by
  have hn := h.cells.1
  subst hn
  have h1 := (World.ownsRow.stored (g := g) (cap := c) h (k * 2) (.int .i64 x)).1
  unfold CO
  rw [List.length_set, flatC_set0 M k x hk]
  exact h1
theorem CO.formB {w : World} {base : Nat} {v : Value} {L : List (Int × Int)} (h : CO w base v L) : ∃ A c, v = .slice A L.length c ∧ (0 < L.length → ∃ b, A = some ⟨b, 0, none⟩ ∧ base ≤ b ∧ b < w.heap.size) := by
  have hl := owns_lt h
  rcases h.2 with ⟨rfl, h0⟩ | ⟨g, cap, cur, rfl, hg, hh, h1, h2, h3, h4⟩
  · exact ⟨none, 0, by rw [h0], fun hp => by omega⟩
  · exact ⟨_, cap, rfl, fun _ => ⟨g, rfl, hg, hl g (by simp [Value.ownBlock])⟩⟩

set_option maxHeartbeats 4000000 in
theorem c_DrawRoundEnds (A : Option Addr) (n c : Nat) (w : World) (h : Bs w w.heap.size A n) (hn : n ≤ 1048576) (hc : n ≤ c) :
    Calls Try.prog 24 #[.slice A n c] w fun e w' => ∃ L v, e = .returned v ∧ CO w' w.heap.size v L ∧ L.length ≤ 9 ∧ Below w.heap.size w w' := by
  go_enter Try.func24, Try.ntmps24
  go_wp2_with fail
  refine (c_l20Open A n c _ h hn hc).mono ?_
  rintro e w1 ⟨r, rfl, hr, hb1⟩
  have hs1 := hb1.size
  have hrb := hr.1
  have hrw := hr.2.1
  go_wp2_with fail
  refine (c_l20Customers w.heap.size r 0 9 _ hr (by omega) (by omega) (by omega)).mono ?_
  rintro e w2 ⟨L, v, rfl, hv, hl, hbd, hg, p', hp', hr2⟩
  clear hr h
  go_wp2_with fail
  ((with_reducible refine (c_pickI w.heap.size r _ _ _ hr2 (by omega) (by omega) (by omega)).mono ?_))
  rintro e w3 ⟨x3, hx3, rfl, hg3, hr3⟩
  have g3 := hg.trans hg3
  have o3 := (hv.grown hg3 hrw).mono hs1
  have hb3 := hb1.trans (below_grown g3 hrb hs1)
  have hs3 := hb3.size
  clear hg hg3 hr2 hr3 hv g3 hb1 hs1 hbd hrb hrw hp'
  by_cases hx0 : x3 = 0
  · have hxb : ((x3 : Int) == 0) = true := beq_iff_eq.2 (by omega)
    have HC := Lib.hid (fun (A : Option Addr) (d : Nat) (W : World) (hA : Cs W W.heap.size A L) => c_sCustomersOk L A d W hA (by omega))
    obtain ⟨B, d, rfl, hB⟩ := o3.formB
    have hB3 : Cs w3 w3.heap.size B L := o3.isOf.2
    clear hx0
    by_cases hok : cOk L = true
    · rw [hok] at HC
      go_wp2_with fail
      refine (HC.out _ _ _ hB3).mono ?_
      rintro e w4 ⟨rfl, hb4⟩
      have o4 := o3.below hb4 (Nat.le_refl _)
      have k4 := hb3.trans (hb4.mono hs3)
      have hs4 := k4.size
      clear o3 hB3 hb4 hb3 hB HC
      have ho9 : ∃ M : List (Int × Int), M.length = L.length ∧ CO w4 w.heap.size (.slice B L.length d) M := ⟨L, rfl, o4⟩
      clear o4
      go_wp2_with fail
      go_loopw [5] (fun i wr => ∃ k : Nat, k ≤ L.length ∧ i = .int .i64 (k : Int) ∧ (∃ M : List (Int × Int), M.length = L.length ∧ CO wr w.heap.size (.slice B L.length d) M) ∧ Below w.heap.size w wr) (fun i _ => L.length - (intOf i).toNat)
      case atStart => exact ⟨0, by omega, rfl, ho9, k4⟩
      case round =>
        clear k4 ho9
        obtain ⟨k, hk, rfl, ⟨M, hM, oM⟩, hb⟩ := hrel
        by_cases hlt : k < L.length
        · obtain ⟨B', d', e, hB⟩ := oM.formB
          injection e with e1 e2 e3
          subst e1 e3
          obtain ⟨g, rfl, hg1, hg2⟩ := hB (by omega)
          have c1 := (oM.cells.2.1 k (by omega)).1
          have f1 := oM.cells.2.2 (k * 2)
          have oN := oM.store0 k (by omega) 0
          have hbN : Below w.heap.size w (wr.setCell ⟨g, k * 2, none⟩ (.int .i64 0)) := by (repeat (first | exact hb | exact Below.refl _ _ | (with_reducible refine Below.drew ?_) | (with_reducible refine Below.drewN ?_ _) | (with_reducible refine Below.alloc ?_ ?_ _) | (with_reducible refine Below.setCell ?_ ?_ _) | (show _ ≤ _; focus (first | omega | (simp; done) | (simp; omega)))))
          have HW := Lib.hid (And.intro oN hbN)
          have HM := Lib.hid hM
          have p0 : (0 : Int) ≤ (k : Int) := by omega
          have p1 : (k : Int) < (L.length : Int) := by omega
          clear oN hbN hB e2 hM oM
          go_wp2_with fail
          go_roundw
          case rel => exact ⟨k + 1, by omega, by go_num, ⟨_, by rw [List.length_set]; exact HM.out, HW.out.1⟩, HW.out.2⟩
          case measure => simp [intOf]; omega
        · have hlf : ¬ ((k : Int) < (L.length : Int)) := by omega
          go_wp2_with fail
          go_ret
          exact ⟨M, _, rfl, oM, by omega, hb⟩
    · have hno : cOk L = false := by simpa using hok
      rw [hno] at HC
      go_wp2_with fail
      refine (HC.out _ _ _ hB3).mono ?_
      rintro e w4 ⟨rfl, hb4⟩
      have o4 := o3.below hb4 (Nat.le_refl _)
      have k4 := hb3.trans (hb4.mono hs3)
      go_wp2_with fail
      go_ret
      exact ⟨L, _, rfl, o4, hl, k4⟩
  · have hxb : ((x3 : Int) == 0) = false := beq_eq_false_iff_ne.2 (by omega)
    clear hx0
    go_wp2_with fail
    go_ret
    exact ⟨L, v, rfl, o3, hl, hb3⟩

set_option maxHeartbeats 4000000 in
theorem c_DrawUnitsIn (A : Option Addr) (n c : Nat) (w : World) (h : Bs w w.heap.size A n) (hn : n ≤ 1048576) (hc : n ≤ c) :
    Calls Try.prog 19 #[.slice A n c] w fun e w' => ∃ (L : List (Int × Int)) (v : Value) (O : List Int) (B : Option Addr) (d : Nat) (a f t : Int), e = .returned (.tuple #[v, .slice B O.length d, .int .i64 a, .int .i64 f, .int .i64 t]) ∧ CO w' w.heap.size v L ∧ L.length ≤ 9 ∧ Is w' w'.heap.size B O ∧ O.length ≤ 200 ∧ O.length ≤ d ∧ (-10000 ≤ a ∧ a ≤ 10000) ∧ (-10000 ≤ f ∧ f ≤ 10000) ∧ (-10000 ≤ t ∧ t ≤ 10000) ∧ Below w.heap.size w w' := by
  go_enter Try.func19, Try.ntmps19
  go_wp2_with fail
  refine (c_l20Open A n c _ h hn hc).mono ?_
  rintro e w1 ⟨r, rfl, hr, hb1⟩
  have hs1 := hb1.size
  have hbr := hr.1
  have hrw := hr.2.1
  go_wp2_with fail
  refine (c_l20Served w.heap.size r 0 12 _ hr (by omega) (by omega) (by omega)).mono ?_
  rintro e w2 ⟨L, v, O, B, d, rfl, hv, hl, hbd, hO, ho, hd, hg2, p', hp', hr2⟩
  obtain ⟨C, dd, rfl, -⟩ := hv.formB
  have g2 := hg2
  have o2 := hv
  have i2 := hO
  clear hr hg2 hv hO h hbd
  go_wp2_with fail
  ((with_reducible refine (c_pickI w.heap.size r _ _ _ hr2 (by omega) (by omega) (by omega)).mono ?_))
  rintro e w3 ⟨x3, hx3, rfl, hg3, hr3⟩
  have g3 := g2.trans hg3
  have o3 := o2.grown hg3 hrw
  have i3 := i2.grown hg3
  clear hr2 o2 i2 g2 hg3
  go_wp2_with fail
  ((with_reducible refine (c_pickI w.heap.size r _ _ _ hr3 (by omega) (by omega) (by omega)).mono ?_))
  rintro e w4 ⟨x4, hx4, rfl, hg4, hr4⟩
  have g4 := g3.trans hg4
  have o4 := o3.grown hg4 hrw
  have i4 := i3.grown hg4
  clear hr3 o3 i3 g3 hg4
  go_wp2_with fail
  ((with_reducible refine (c_pickI w.heap.size r _ _ _ hr4 (by omega) (by omega) (by omega)).mono ?_))
  rintro e w5 ⟨x5, hx5, rfl, hg5, hr5⟩
  have g5 := g4.trans hg5
  have o5 := o4.grown hg5 hrw
  have i5 := i4.grown hg5
  clear hr4 o4 i4 g4 hg5
  go_wp2_with fail
  ((with_reducible refine (c_pickI w.heap.size r _ _ _ hr5 (by omega) (by omega) (by omega)).mono ?_))
  rintro e w6 ⟨x6, hx6, rfl, hg6, hr6⟩
  have g6 := g5.trans hg6
  have o6 := o5.grown hg6 hrw
  have i6 := i5.grown hg6
  clear hr5 o5 i5 g5 hg6
  go_wp2_with fail
  ((with_reducible refine (c_pickI w.heap.size r _ _ _ hr6 (by omega) (by omega) (by omega)).mono ?_))
  rintro e w7 ⟨x7, hx7, rfl, hg7, hr7⟩
  have g7 := g6.trans hg7
  have o7 := o6.grown hg7 hrw
  have i7 := i6.grown hg7
  clear hr6 o6 i6 g6 hg7
  go_wp2_with fail
  refine bodyPost_ret (v := .tuple #[.slice C L.length dd, .slice B O.length d, _, _, _]) (by simp [results, Try.results19, go_sem]; exact ⟨rfl, rfl, rfl⟩) rfl ?_
  exact ⟨L, _, O, B, d, _, _, _, rfl, o7.mono hs1, hl, i7.is, ho, hd, by omega, by omega, by omega, hb1.trans (below_grown g7 hbr hs1)⟩

set_option maxHeartbeats 4000000 in
theorem c_DrawAheadBy (A : Option Addr) (n c : Nat) (w : World) (h : Bs w w.heap.size A n) (hn : n ≤ 1048576) (hc : n ≤ c) :
    Calls Try.prog 22 #[.slice A n c] w fun e w' => ∃ (L : List (Int × Int)) (v : Value) (O : List Int) (B : Option Addr) (d : Nat) (a b : Int), e = .returned (.tuple #[v, .slice B O.length d, .int .i64 a, .int .i64 b]) ∧ CO w' w.heap.size v L ∧ L.length ≤ 9 ∧ Is w' w'.heap.size B O ∧ O.length ≤ 200 ∧ O.length ≤ d ∧ (-10000 ≤ a ∧ a ≤ 10000) ∧ (-10000 ≤ b ∧ b ≤ 10000) ∧ Below w.heap.size w w' := by
  go_enter Try.func22, Try.ntmps22
  go_wp2_with fail
  refine (c_l20Open A n c _ h hn hc).mono ?_
  rintro e w1 ⟨r, rfl, hr, hb1⟩
  have hs1 := hb1.size
  have hbr := hr.1
  have hrw := hr.2.1
  go_wp2_with fail
  refine (c_l20Served w.heap.size r 0 12 _ hr (by omega) (by omega) (by omega)).mono ?_
  rintro e w2 ⟨L, v, O, B, d, rfl, hv, hl, hbd, hO, ho, hd, hg2, p', hp', hr2⟩
  obtain ⟨C, dd, rfl, -⟩ := hv.formB
  have g2 := hg2
  have o2 := hv
  have i2 := hO
  clear hr hg2 hv hO h hbd
  go_wp2_with fail
  ((with_reducible refine (c_pickI w.heap.size r _ _ _ hr2 (by omega) (by omega) (by omega)).mono ?_))
  rintro e w3 ⟨x3, hx3, rfl, hg3, hr3⟩
  have g3 := g2.trans hg3
  have o3 := o2.grown hg3 hrw
  have i3 := i2.grown hg3
  clear hr2 o2 i2 g2 hg3
  by_cases hx0 : x3 = 0
  · have hxb : ((x3 : Int) == 0) = true := beq_iff_eq.2 (by omega)
    clear hx0 i3
    go_wp2_with fail
    refine (c_sRoundOrder L C dd _ o3.isOf.2 (by omega)).mono ?_
    rintro e w9 ⟨v9, rfl, o9, hb9⟩
    obtain ⟨B9, e9, rfl, he9, -, -⟩ := o9.form
    have i3 := o9.isN (r := r) (by have := g3.size; omega)
    have hs3 := g3.size
    have hR9 := roundR_len L
    have hrN := hr3.keepB hb9 (by omega) (by omega)
    have gN := grown_thenB g3 (hb9.mono hs3)
    have oN := o3.below hb9 (Nat.le_refl _)
    clear hr3 g3 o3 hb9 o9
    have hr3 := hrN
    have g3 := gN
    have o3 := oN
    clear hrN gN oN
    go_wp2_with fail
    ((with_reducible refine (c_pickI w.heap.size r _ _ _ hr3 (by omega) (by omega) (by omega)).mono ?_))
    rintro e w4 ⟨x4, hx4, rfl, hg4, hr4⟩
    have g4 := g3.trans hg4
    have o4 := o3.grown hg4 hrw
    have i4 := i3.grown hg4
    clear hr3 o3 i3 g3 hg4
    by_cases hl0 : (L.length : Int) < 1
    · have hl0b : decide ((L.length : Int) < 1) = true := decide_eq_true hl0
      go_wp2_with fail
      ((with_reducible refine (c_pickI w.heap.size r _ _ _ hr4 (by omega) (by omega) (by omega)).mono ?_))
      rintro e w5 ⟨x5, hx5, rfl, hg5, hr5⟩
      have g5 := g4.trans hg5
      have o5 := o4.grown hg5 hrw
      have i5 := i4.grown hg5
      clear hr4 o4 i4 g4 hg5
      go_wp2_with fail
      refine bodyPost_ret (v := .tuple #[.slice C L.length dd, .slice B9 (roundR L).length e9, _, _]) (by simp [results, Try.results22, go_sem]; exact ⟨rfl, rfl⟩) rfl ?_
      exact ⟨L, _, roundR L, B9, e9, _, _, rfl, o5.mono hs1, hl, i5.is, hR9, he9, by omega, by omega, hb1.trans (below_grown g5 hbr hs1)⟩
    · have hl0b : decide ((L.length : Int) < 1) = false := decide_eq_false hl0
      go_wp2_with fail
      ((with_reducible refine (c_pickI w.heap.size r _ _ _ hr4 (by omega) (by omega) (by omega)).mono ?_))
      rintro e w5 ⟨x5, hx5, rfl, hg5, hr5⟩
      have g5 := g4.trans hg5
      have o5 := o4.grown hg5 hrw
      have i5 := i4.grown hg5
      clear hr4 o4 i4 g4 hg5
      go_wp2_with fail
      refine bodyPost_ret (v := .tuple #[.slice C L.length dd, .slice B9 (roundR L).length e9, _, _]) (by simp [results, Try.results22, go_sem]; exact ⟨rfl, rfl⟩) rfl ?_
      exact ⟨L, _, roundR L, B9, e9, _, _, rfl, o5.mono hs1, hl, i5.is, hR9, he9, by omega, by omega, hb1.trans (below_grown g5 hbr hs1)⟩
  · have hxb : ((x3 : Int) == 0) = false := beq_eq_false_iff_ne.2 (by omega)
    clear hx0
    go_wp2_with fail
    ((with_reducible refine (c_pickI w.heap.size r _ _ _ hr3 (by omega) (by omega) (by omega)).mono ?_))
    rintro e w4 ⟨x4, hx4, rfl, hg4, hr4⟩
    have g4 := g3.trans hg4
    have o4 := o3.grown hg4 hrw
    have i4 := i3.grown hg4
    clear hr3 o3 i3 g3 hg4
    by_cases hl0 : (L.length : Int) < 1
    · have hl0b : decide ((L.length : Int) < 1) = true := decide_eq_true hl0
      go_wp2_with fail
      ((with_reducible refine (c_pickI w.heap.size r _ _ _ hr4 (by omega) (by omega) (by omega)).mono ?_))
      rintro e w5 ⟨x5, hx5, rfl, hg5, hr5⟩
      have g5 := g4.trans hg5
      have o5 := o4.grown hg5 hrw
      have i5 := i4.grown hg5
      clear hr4 o4 i4 g4 hg5
      go_wp2_with fail
      refine bodyPost_ret (v := .tuple #[.slice C L.length dd, .slice B (O).length d, _, _]) (by simp [results, Try.results22, go_sem]; exact ⟨rfl, rfl⟩) rfl ?_
      exact ⟨L, _, O, B, d, _, _, rfl, o5.mono hs1, hl, i5.is, ho, hd, by omega, by omega, hb1.trans (below_grown g5 hbr hs1)⟩
    · have hl0b : decide ((L.length : Int) < 1) = false := decide_eq_false hl0
      go_wp2_with fail
      ((with_reducible refine (c_pickI w.heap.size r _ _ _ hr4 (by omega) (by omega) (by omega)).mono ?_))
      rintro e w5 ⟨x5, hx5, rfl, hg5, hr5⟩
      have g5 := g4.trans hg5
      have o5 := o4.grown hg5 hrw
      have i5 := i4.grown hg5
      clear hr4 o4 i4 g4 hg5
      go_wp2_with fail
      refine bodyPost_ret (v := .tuple #[.slice C L.length dd, .slice B (O).length d, _, _]) (by simp [results, Try.results22, go_sem]; exact ⟨rfl, rfl⟩) rfl ?_
      exact ⟨L, _, O, B, d, _, _, rfl, o5.mono hs1, hl, i5.is, ho, hd, by omega, by omega, hb1.trans (below_grown g5 hbr hs1)⟩

end Go.Proofs.Ytecoefjkobpbgaa

