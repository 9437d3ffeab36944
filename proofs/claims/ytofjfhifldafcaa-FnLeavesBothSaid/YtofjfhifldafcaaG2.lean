/- odd, l20Open, l20Customers -/
import Derived.Test.YtofjfhifldafcaaG
namespace Go.Proofs.Ytofjfhifldafcaa
set_option linter.unusedVariables false
open Go.RowKit

theorem Rd.keepB {w w' : World} {base r p B : Nat} (h : Rd w base r p) (hg : Below B w w') (hr : r < B) (hb : base ≤ B) : Rd w' base r p := by
  obtain ⟨h1, h2, A, n, c, hn, hh, hb'⟩ := h
  exact ⟨h1, Nat.lt_of_lt_of_le h2 hg.size, A, n, c, hn, (hg.block r hr).trans hh, hb'.keep fun k hk => hg.block k (by omega)⟩
theorem grown_thenB {w w1 w2 : World} {r : Nat} (h : w.grownBy w1 (some r)) (hb : Below w.heap.size w1 w2) : w.grownBy w2 (some r) :=
  ⟨hb.os.trans h.os, hb.tape.trans h.tape, hb.output.trans h.output, Nat.le_trans h.size hb.size, fun k hk hne => (hb.block k hk).trans (h.block k hk hne)⟩
theorem CO.grown {w w' : World} {base r : Nat} {v : Value} {L : List (Int × Int)} (h : CO w base v L) (hg : w.grownBy w' (some r)) (hr : r < base) : CO w' base v L := by
  refine ⟨h.1, ?_⟩
  have hl := owns_lt h
  rcases h.2 with h2 | ⟨g, cap, cur, rfl, hgb, hh, rest⟩
  · exact .inl h2
  · have := hl g (by simp [Value.ownBlock])
    exact .inr ⟨g, cap, cur, rfl, hgb, by rw [hg.block g (by omega) (by simp; omega)]; exact hh, rest⟩
theorem CO.lit {w : World} {base : Nat} (cs : Array Value) (L : List (Int × Int)) (n : Nat) (hb : base ≤ w.heap.size) (hm : n ≤ maxLen) (hl : L.length = n) (hs : cs.toList = flatC L) :
    CO (w.alloc (.cells cs 57)) base (.slice (some ⟨w.heap.size, 0, none⟩) n n) L := by
  subst hl
  have e : cs.size = L.length * 2 := by rw [← Array.length_toList, hs, flatC_len]
  refine ⟨flatC_len L, .inr ⟨w.heap.size, L.length, cs, rfl, hb, heap_alloc_new _ _, Nat.le_refl _, hm, e, ?_⟩⟩
  rw [hs, List.take_of_length_le (by rw [flatC_len]; omega)]
def bdL (L : List (Int × Int)) : Prop := ∀ c ∈ L, -1 ≤ c.1 ∧ c.1 ≤ 61 ∧ 0 ≤ c.2 ∧ c.2 ≤ 9
theorem bdL_snoc {L : List (Int × Int)} {c : Int × Int} (h : bdL L) (hc : -1 ≤ c.1 ∧ c.1 ≤ 61 ∧ 0 ≤ c.2 ∧ c.2 ≤ 9) : bdL (L ++ [c]) := by
  intro d hd
  rcases List.mem_append.1 hd with h1 | h1
  · exact h d h1
  · simp at h1; subst h1; exact hc

theorem c_pickI (base r p : Nat) (n : Int) (w : World) (h : Rd w base r p) (hp : p ≤ 1000000000) (hn1 : 1 ≤ n) (hn2 : n ≤ 1000) :
    Calls Try.prog 64 #[.pointer (some ⟨r, 0, none⟩), .int .i64 n] w fun e w' => ∃ x : Nat, (x : Int) < n ∧ e = .returned (.int .i64 x) ∧ w.grownBy w' (some r) ∧ Rd w' base r (p + 1) := by
  obtain ⟨m, rfl⟩ := Int.eq_ofNat_of_zero_le (show 0 ≤ n by omega)
  exact (c_pick base r p m w h hp (by omega) (by omega)).mono fun _ _ ⟨x, hx, he⟩ => ⟨x, by omega, he⟩

set_option maxHeartbeats 1000000 in
theorem c_odd (base r p n : Nat) (w : World) (h : Rd w base r p) (hp : p ≤ 1000000000) (hn1 : 1 ≤ n) (hn2 : n ≤ 1000) :
    Calls Try.prog 75 #[.pointer (some ⟨r, 0, none⟩), .int .i64 n] w fun e w' => ∃ b : Bool, e = .returned (.bool b) ∧ w.grownBy w' (some r) ∧ Rd w' base r (p + 1) := by
  have hn3 : (0 : Int) < (n : Int) := by omega
  go_enter Try.func75, Try.ntmps75
  go_wp2_with fail
  refine (c_pick base r p n _ h hp hn1 hn2).mono ?_
  rintro e w1 ⟨x, hx, rfl, hg, hr⟩
  by_cases hb : ((x : Int) == (n : Int) - 1) = true
  · go_wp2_with fail
    go_ret
    exact ⟨_, rfl, hg, hr⟩
  · have hb' : ((x : Int) == (n : Int) - 1) = false := by simpa using hb
    go_wp2_with fail
    go_ret
    exact ⟨_, rfl, hg, hr⟩

set_option maxHeartbeats 1000000 in
theorem c_l20Open (A : Option Addr) (n c : Nat) (w : World) (h : Bs w w.heap.size A n) (hn : n ≤ 1048576) (hc : n ≤ c) :
    Calls Try.prog 52 #[.slice A n c] w fun e w' => ∃ r, e = .returned (.pointer (some ⟨r, 0, none⟩)) ∧ Rd w' w.heap.size r 0 ∧ Below w.heap.size w w' := by
  by_cases h2 : n ≤ 2000
  · go_enter Try.func52, Try.ntmps52
    go_wp2
    go_ret
    refine ⟨w.heap.size, rfl, ⟨Nat.le_refl _, by simp, A, n, c, h2, heap_alloc_new _ _, h.keep fun k hk => Below.heap_alloc _ _ _ hk⟩, by (repeat (first | exact rfl | exact Below.refl _ _ | (with_reducible refine Below.drew ?_) | (with_reducible refine Below.drewN ?_ _) | (with_reducible refine Below.alloc ?_ ?_ _) | (with_reducible refine Below.setCell ?_ ?_ _) | (show _ ≤ _; focus (first | omega | (simp; done) | (simp; omega)))))⟩
  · go_enter Try.func52, Try.ntmps52
    go_wp2
    go_ret
    refine ⟨w.heap.size, rfl, ⟨Nat.le_refl _, by simp, A, 2000, c, by omega, heap_alloc_new _ _, fun _ => ?_⟩, by (repeat (first | exact rfl | exact Below.refl _ _ | (with_reducible refine Below.drew ?_) | (with_reducible refine Below.drewN ?_ _) | (with_reducible refine Below.alloc ?_ ?_ _) | (with_reducible refine Below.setCell ?_ ?_ _) | (show _ ≤ _; focus (first | omega | (simp; done) | (simp; omega)))))⟩
    obtain ⟨b, off, rfl, hlt, hcc⟩ := (h.keep (w' := w.alloc (.cells #[.slice A 2000 c, .int .i64 0] 83)) fun k hk => Below.heap_alloc _ _ _ hk) (by omega)
    exact ⟨b, off, rfl, hlt, fun k hk => hcc k (by omega)⟩

end Go.Proofs.Ytofjfhifldafcaa

