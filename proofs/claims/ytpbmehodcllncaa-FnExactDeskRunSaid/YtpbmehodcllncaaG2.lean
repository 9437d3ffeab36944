/- odd, l20Open, l20Customers -/
import Derived.Test.YtpbmehodcllncaaG
namespace Go.Proofs.Ytpbmehodcllncaa
set_option linter.unusedVariables false
open Go.RowKit

theorem Rd.keepB {w w' : World} {base r p B : Nat} (h : Rd w base r p) (hg : Below B w w') (hr : r < B) (hb : base ≤ B) : Rd w' base r p := by
  obtain ⟨h1, h2, A, n, c, hn, hh, hb'⟩ := h
  exact ⟨h1, Nat.lt_of_lt_of_le h2 hg.size, A, n, c, hn, (hg.block r hr).trans hh, hb'.keep fun k hk => hg.block k (by omega)⟩
theorem grown_thenB {w w1 w2 : World} {r : Nat} (h : w.grownBy w1 (some r)) (hb : Below w.heap.size w1 w2) : w.grownBy w2 (some r) :=
  ⟨hb.os.trans h.os, hb.tape.trans h.tape, hb.output.trans h.output, Nat.le_trans h.size hb.size, fun k hk hne => (hb.block k hk).trans (h.block k hk hne)⟩
theorem CO.grown {w w' : World} {base r : Nat} {v : Value} {L : List (Int × Int)} (h : CO w base v L) (hg : w.grownBy w' (some r)) (hr : r < base) : CO w' base v L := by
  refine ⟨h.1, ?_⟩
  have hl := owns_lt h
  rcases h.2 with h2 | ⟨g, cap, cur, rfl, hgb, hh, rest⟩
  · exact .inl h2
  · have := hl g (by simp [Value.ownBlock])
    exact .inr ⟨g, cap, cur, rfl, hgb, by rw [hg.block g (by omega) (by simp; omega)]; exact hh, rest⟩
theorem CO.lit {w : World} {base : Nat} (cs : Array Value) (L : List (Int × Int)) (n : Nat) (hb : base ≤ w.heap.size) (hm : n ≤ maxLen) (hl : L.length = n) (hs : cs.toList = flatC L) :
    CO (w.alloc (.cells cs 30)) base (.slice (some ⟨w.heap.size, 0, none⟩) n n) L := by
  subst hl
  have e : cs.size = L.length * 2 := by rw [← Array.length_toList, hs, flatC_len]
  refine ⟨flatC_len L, .inr ⟨w.heap.size, L.length, cs, rfl, hb, heap_alloc_new _ _, Nat.le_refl _, hm, e, ?_⟩⟩
  rw [hs, List.take_of_length_le (by rw [flatC_len]; omega)]
def bdL (L : List (Int × Int)) : Prop := ∀ c ∈ L, -1 ≤ c.1 ∧ c.1 ≤ 61 ∧ 0 ≤ c.2 ∧ c.2 ≤ 9
theorem bdL_snoc {L : List (Int × Int)} {c : Int × Int} (h : bdL L) (hc : -1 ≤ c.1 ∧ c.1 ≤ 61 ∧ 0 ≤ c.2 ∧ c.2 ≤ 9) : bdL (L ++ [c]) := by
  intro d hd
  rcases List.mem_append.1 hd with h1 | h1
  · exact h d h1
  · simp at h1; subst h1; exact hc

theorem c_pickI (base r p : Nat) (n : Int) (w : World) (h : Rd w base r p) (hp : p ≤ 1000000000) (hn1 : 1 ≤ n) (hn2 : n ≤ 1000) :
    Calls Try.prog 69 #[.pointer (some ⟨r, 0, none⟩), .int .i64 n] w fun e w' => ∃ x : Nat, (x : Int) < n ∧ e = .returned (.int .i64 x) ∧ w.grownBy w' (some r) ∧ Rd w' base r (p + 1) := by
  obtain ⟨m, rfl⟩ := Int.eq_ofNat_of_zero_le (show 0 ≤ n by omega)
  exact (c_pick base r p m w h hp (by omega) (by omega)).mono fun _ _ ⟨x, hx, he⟩ => ⟨x, by omega, he⟩

set_option maxHeartbeats 1000000 in
theorem c_odd (base r p n : Nat) (w : World) (h : Rd w base r p) (hp : p ≤ 1000000000) (hn1 : 1 ≤ n) (hn2 : n ≤ 1000) :
    Calls Try.prog 57 #[.pointer (some ⟨r, 0, none⟩), .int .i64 n] w fun e w' => ∃ b : Bool, e = .returned (.bool b) ∧ w.grownBy w' (some r) ∧ Rd w' base r (p + 1) := by
  have hn3 : (0 : Int) < (n : Int) := by omega
  go_enter Try.func57, Try.ntmps57
  go_wp2_with fail
  refine (c_pick base r p n _ h hp hn1 hn2).mono ?_
  rintro e w1 ⟨x, hx, rfl, hg, hr⟩
  by_cases hb : ((x : Int) == (n : Int) - 1) = true
  · go_wp2_with fail
    go_ret
    exact ⟨_, rfl, hg, hr⟩
  · have hb' : ((x : Int) == (n : Int) - 1) = false := by simpa using hb
    go_wp2_with fail
    go_ret
    exact ⟨_, rfl, hg, hr⟩

set_option maxHeartbeats 1000000 in
theorem c_l20Open (A : Option Addr) (n c : Nat) (w : World) (h : Bs w w.heap.size A n) (hn : n ≤ 1048576) (hc : n ≤ c) :
    Calls Try.prog 44 #[.slice A n c] w fun e w' => ∃ r, e = .returned (.pointer (some ⟨r, 0, none⟩)) ∧ Rd w' w.heap.size r 0 ∧ Below w.heap.size w w' := by
  by_cases h2 : n ≤ 2000
  · go_enter Try.func44, Try.ntmps44
    go_wp2
    go_ret
    refine ⟨w.heap.size, rfl, ⟨Nat.le_refl _, by simp, A, n, c, h2, heap_alloc_new _ _, h.keep fun k hk => Below.heap_alloc _ _ _ hk⟩, by (repeat (first | exact rfl | exact Below.refl _ _ | (with_reducible refine Below.drew ?_) | (with_reducible refine Below.drewN ?_ _) | (with_reducible refine Below.alloc ?_ ?_ _) | (with_reducible refine Below.setCell ?_ ?_ _) | (show _ ≤ _; focus (first | omega | (simp; done) | (simp; omega)))))⟩
  · go_enter Try.func44, Try.ntmps44
    go_wp2
    go_ret
    refine ⟨w.heap.size, rfl, ⟨Nat.le_refl _, by simp, A, 2000, c, by omega, heap_alloc_new _ _, fun _ => ?_⟩, by (repeat (first | exact rfl | exact Below.refl _ _ | (with_reducible refine Below.drew ?_) | (with_reducible refine Below.drewN ?_ _) | (with_reducible refine Below.alloc ?_ ?_ _) | (with_reducible refine Below.setCell ?_ ?_ _) | (show _ ≤ _; focus (first | omega | (simp; done) | (simp; omega)))))⟩
    obtain ⟨b, off, rfl, hlt, hcc⟩ := (h.keep (w' := w.alloc (.cells #[.slice A 2000 c, .int .i64 0] 97)) fun k hk => Below.heap_alloc _ _ _ hk) (by omega)
    exact ⟨b, off, rfl, hlt, fun k hk => hcc k (by omega)⟩

set_option maxHeartbeats 4000000 in
theorem c_l20Customers (base r p n : Nat) (w : World) (h : Rd w base r p) (hp : p ≤ 900000000) (hn1 : 1 ≤ n) (hn2 : n ≤ 1000) :
    Calls Try.prog 48 #[.pointer (some ⟨r, 0, none⟩), .int .i64 n] w fun e w' => ∃ L v, e = .returned v ∧ CO w' w.heap.size v L ∧ L.length ≤ 9 ∧ bdL L ∧ w.grownBy w' (some r) ∧ ∃ p', p' ≤ p + 40 ∧ Rd w' base r p' := by
  have hrw := h.2.1
  have hbr := h.1
  go_enter Try.func48, Try.ntmps48
  go_wp2_with fail
  have hb0 : Below w.heap.size w (w.alloc (.cells #[] 30)) := by (repeat (first | exact rfl | exact Below.refl _ _ | (with_reducible refine Below.drew ?_) | (with_reducible refine Below.drewN ?_ _) | (with_reducible refine Below.alloc ?_ ?_ _) | (with_reducible refine Below.setCell ?_ ?_ _) | (show _ ≤ _; focus (first | omega | (simp; done) | (simp; omega)))))
  have g0 : w.grownBy (w.alloc (.cells #[] 30)) (some r) := World.grownBy_alloc _ _ _
  have o0 : CO (w.alloc (.cells #[] 30)) w.heap.size (.slice (some ⟨w.heap.size, 0, none⟩) 0 0) [] := CO.empty _ (Nat.le_refl _)
  ((with_reducible refine (c_pickI base r p 3 _ (h.keepB hb0 hrw (by omega)) (by omega) (by omega) (by omega)).mono ?_))
  rintro e w1 ⟨x1, hx1, rfl, hg1, hr1⟩
  have g1 := g0.trans hg1
  have o1 := o0.grown hg1 hrw
  clear g0 o0 hg1 h hb0
  go_wp2_with fail
  ((with_reducible refine (c_pickI base r (p + 1) 5 _ hr1 (by omega) (by omega) (by omega)).mono ?_))
  rintro e w2 ⟨x2, hx2, rfl, hg2, hr2⟩
  have g2 := g1.trans hg2
  have o2 := o1.grown hg2 hrw
  clear g1 o1 hg2 hr1
  go_wp2_with fail
  have hs2 := g2.size
  have hb2 : Below w2.heap.size w2 (w2.alloc (.cells #[.int .i64 3, .int .i64 9] 3)) := by (repeat (first | exact rfl | exact Below.refl _ _ | (with_reducible refine Below.drew ?_) | (with_reducible refine Below.drewN ?_ _) | (with_reducible refine Below.alloc ?_ ?_ _) | (with_reducible refine Below.setCell ?_ ?_ _) | (show _ ≤ _; focus (first | omega | (simp; done) | (simp; omega)))))
  ((with_reducible refine (c_pickI base r (p + 2) 2 _ (hr2.keepB hb2 (by omega) (by omega)) (by omega) (by omega) (by omega)).mono ?_))
  rintro e w3 ⟨x3, hx3, rfl, hg3, hr3⟩
  have g3 := (grown_thenB g2 (hb2.mono hs2)).trans hg3
  have o3 := (o2.below hb2 (Nat.le_refl _)).grown hg3 hrw
  obtain ⟨hi, hi1, hi2, hcell⟩ : ∃ hi : Nat, 1 ≤ hi ∧ hi ≤ 9 ∧ w3.cell? ⟨w2.heap.size, x3, none⟩ = some (.int .i64 hi) := by
    have hz := heap_alloc_new w2 (.cells #[.int .i64 3, .int .i64 9] 3)
    have hq := fun o => cell_of_row _ w2.heap.size o _ _ _ hz
    rcases (show x3 = 0 ∨ x3 = 1 by omega) with rfl | rfl
    · exact ⟨3, by omega, by omega, hg3.cell (hq 0) (by simp; omega)⟩
    · exact ⟨9, by omega, by omega, hg3.cell (hq 1) (by simp; omega)⟩
  clear g2 o2 hg3 hr2 hb2
  go_wp2_with fail
  ((with_reducible refine (c_pickI base r (p + 3) 9 _ hr3 (by omega) (by omega) (by omega)).mono ?_))
  rintro e w4 ⟨x4, hx4, rfl, hg4, hr4⟩
  have g4 := g3.trans hg4
  have o4 := o3.grown hg4 hrw
  clear g3 o3 hg4 hr3 hcell
  go_wp2_with fail
  go_loopw [5, 6, 9] (fun lv tv kv wr => ∃ (L : List (Int × Int)) (t p' k : Nat), kv = .int .i64 k ∧ tv = .int .i64 t ∧ L.length + k ≤ 8 ∧ t ≤ 2 + 5 * L.length ∧ p' + 2 * k ≤ p + 20 ∧ CO wr w.heap.size lv L ∧ bdL L ∧ w.grownBy wr (some r) ∧ Rd wr base r p')
    (fun _ _ kv _ => (intOf kv).toNat)
  case atStart => exact ⟨[], x1, p + 4, x4, rfl, rfl, by simp; omega, by simp; omega, by omega, o4, by simp [bdL], g4, hr4⟩
  case round =>
    obtain ⟨L, t, p', k, rfl, rfl, hLk, ht, hp', hown, hbd, hgr, hrd⟩ := hrel
    by_cases hk : 0 < k
    · have hsr := hgr.size
      go_wp2_with fail
      ((with_reducible refine (c_pickI base r p' _ _ hrd (by omega) (by omega) (by omega)).mono ?_))
      rintro e w5 ⟨x5, hx5, rfl, hg5, hr5⟩
      have g5 := hgr.trans hg5
      have o5 := hown.grown hg5 hrw
      have hs5 := g5.size
      clear hgr hown hg5 hrd
      go_wp2_with (refine app_C (by rfl) (.tmp 27) (.tmp 34) (by rfl) w.heap.size u5 L (t : Int) (1 + (x5 : Int)) w5.heap.size (by rfl) (o5.alloc _) (by rfl) (heap_alloc_new _ _) (by omega) (by simp; omega) ?_; intro g cap w6 hown6 hgr6 hb6)
      have hb6' : Below w.heap.size w5 w6 := Below.trans (by (repeat (first | exact rfl | exact Below.refl _ _ | (with_reducible refine Below.drew ?_) | (with_reducible refine Below.drewN ?_ _) | (with_reducible refine Below.alloc ?_ ?_ _) | (with_reducible refine Below.setCell ?_ ?_ _) | (show _ ≤ _; focus (first | omega | (simp; done) | (simp; omega)))))) hb6
      have g6 := grown_thenB g5 hb6'
      have r6 := hr5.keepB hb6' hrw (by omega)
      have hs6 := g6.size
      clear g5 o5 hr5 hb6 hgr6 hb6'
      ((with_reducible refine (c_pickI base r (p' + 1) _ _ r6 (by omega) (by omega) (by omega)).mono ?_))
      rintro e w7 ⟨x7, hx7, rfl, hg7, hr7⟩
      have g7 := g6.trans hg7
      have o7 := hown6.grown hg7 hrw
      clear g6 hown6 hg7 r6
      go_wp2_with fail
      go_roundw
      case rel =>
        refine ⟨L ++ [((t : Int), 1 + (x5 : Int))], t + x7, p' + 1 + 1, k - 1, by go_num, by go_num, by simp; omega, by simp; omega, by omega, ?_, bdL_snoc hbd (by simp; omega), g7, hr7⟩
        exact o7
      case measure => simp [intOf]; omega
    · go_wp2_with fail
      ((with_reducible refine (c_odd base r p' n _ hrd (by omega) hn1 hn2).mono ?_))
      rintro e w5 ⟨bo, rfl, hg5, hr5⟩
      have g5 := hgr.trans hg5
      have o5 := hown.grown hg5 hrw
      have hs5 := g5.size
      clear hgr hown hg5 hrd o4 g4 hr4
      cases bo with
      | false =>
        go_wp2_with fail
        go_ret
        exact ⟨L, _, rfl, o5, by omega, hbd, g5, _, by omega, hr5⟩
      | true =>
        go_wp2_with fail
        ((with_reducible refine (c_pickI base r (p' + 1) _ _ hr5 (by omega) (by omega) (by omega)).mono ?_))
        rintro e w6 ⟨x6, hx6, rfl, hg6, hr6⟩
        have g6 := g5.trans hg6
        have o6 := o5.grown hg6 hrw
        have hs6 := g6.size
        clear g5 o5 hg6 hr5
        rcases (show x6 = 0 ∨ x6 = 1 ∨ x6 = 2 by omega) with rfl | rfl | rfl
        · go_wp2_with fail
          go_ret
          refine ⟨[(3, 1), (2, 1)], _, rfl, CO.lit _ _ 2 hs6 (by simp [maxLen]) rfl rfl, by simp, by simp [bdL], ?_, p' + 2, by omega, ?_⟩
          · exact grown_thenB g6 (by (repeat (first | exact rfl | exact Below.refl _ _ | (with_reducible refine Below.drew ?_) | (with_reducible refine Below.drewN ?_ _) | (with_reducible refine Below.alloc ?_ ?_ _) | (with_reducible refine Below.setCell ?_ ?_ _) | (show _ ≤ _; focus (first | omega | (simp; done) | (simp; omega))))))
          · exact hr6.keepB (B := w6.heap.size) (by (repeat (first | exact rfl | exact Below.refl _ _ | (with_reducible refine Below.drew ?_) | (with_reducible refine Below.drewN ?_ _) | (with_reducible refine Below.alloc ?_ ?_ _) | (with_reducible refine Below.setCell ?_ ?_ _) | (show _ ≤ _; focus (first | omega | (simp; done) | (simp; omega)))))) (by omega) (by omega)
        · go_wp2_with (refine app_C (by rfl) (.tmp 61) (.tmp 63) (by rfl) w.heap.size u5 L 60 0 w6.heap.size (by rfl) (o6.alloc _) (by rfl) (heap_alloc_new _ _) (by omega) (by simp; omega) ?_; intro g cap w7 hown7 hgr7 hb7)
          go_ret
          have hb7' : Below w.heap.size w6 w7 := Below.trans (by (repeat (first | exact rfl | exact Below.refl _ _ | (with_reducible refine Below.drew ?_) | (with_reducible refine Below.drewN ?_ _) | (with_reducible refine Below.alloc ?_ ?_ _) | (with_reducible refine Below.setCell ?_ ?_ _) | (show _ ≤ _; focus (first | omega | (simp; done) | (simp; omega)))))) hb7
          exact ⟨L ++ [(60, 0)], _, rfl, by simpa [CO] using hown7, by simp; omega, bdL_snoc hbd (by simp), grown_thenB g6 hb7', p' + 2, by omega, hr6.keepB hb7' hrw (by omega)⟩
        · go_wp2_with fail
          have hb7 : Below w6.heap.size w6 (w6.alloc (.cells #[.int .i64 (-1), .int .i64 61] 3)) := by (repeat (first | exact rfl | exact Below.refl _ _ | (with_reducible refine Below.drew ?_) | (with_reducible refine Below.drewN ?_ _) | (with_reducible refine Below.alloc ?_ ?_ _) | (with_reducible refine Below.setCell ?_ ?_ _) | (show _ ≤ _; focus (first | omega | (simp; done) | (simp; omega)))))
          ((with_reducible refine (c_pickI base r (p' + 1 + 1) _ _ (hr6.keepB hb7 (by omega) (by omega)) (by omega) (by omega) (by omega)).mono ?_))
          rintro e w8 ⟨x8, hx8, rfl, hg8, hr8⟩
          have g8 := (grown_thenB g6 (hb7.mono hs6)).trans hg8
          have hs8 := g8.size
          obtain ⟨y8, hy8, hcell⟩ : ∃ y : Int, (-1 ≤ y ∧ y ≤ 61) ∧ w8.cell? ⟨w6.heap.size, x8, none⟩ = some (.int .i64 y) := by
            have hz := heap_alloc_new w6 (.cells #[.int .i64 (-1), .int .i64 61] 3)
            have hq := fun o => cell_of_row _ w6.heap.size o _ _ _ hz
            rcases (show x8 = 0 ∨ x8 = 1 by omega) with rfl | rfl
            · exact ⟨-1, by omega, hg8.cell (hq 0) (by simp; omega)⟩
            · exact ⟨61, by omega, hg8.cell (hq 1) (by simp; omega)⟩
          clear g6 o6 hg8 hr6 hb7
          go_wp2_with fail
          go_ret
          refine ⟨[(y8, 1)], _, rfl, CO.lit _ _ 1 hs8 (by simp [maxLen]) rfl rfl, by simp, by simp [bdL]; omega, ?_, p' + 3, by omega, ?_⟩
          · exact grown_thenB g8 (by (repeat (first | exact rfl | exact Below.refl _ _ | (with_reducible refine Below.drew ?_) | (with_reducible refine Below.drewN ?_ _) | (with_reducible refine Below.alloc ?_ ?_ _) | (with_reducible refine Below.setCell ?_ ?_ _) | (show _ ≤ _; focus (first | omega | (simp; done) | (simp; omega))))))
          · exact hr8.keepB (B := w8.heap.size) (by (repeat (first | exact rfl | exact Below.refl _ _ | (with_reducible refine Below.drew ?_) | (with_reducible refine Below.drewN ?_ _) | (with_reducible refine Below.alloc ?_ ?_ _) | (with_reducible refine Below.setCell ?_ ?_ _) | (show _ ≤ _; focus (first | omega | (simp; done) | (simp; omega)))))) (by omega) (by omega)

end Go.Proofs.Ytpbmehodcllncaa

