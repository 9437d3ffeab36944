/- The reader of codes: pick, odd, l20Customers -/
import Derived.Test.YtpbmehodcllncaaO
namespace Go.Proofs.Ytpbmehodcllncaa
set_option linter.unusedVariables false
open Go.RowKit

/-- a slice of bytes, below block B -/
def Bs (w : World) (B : Nat) (A : Option Addr) (n : Nat) : Prop :=
  0 < n → ∃ b off, A = some ⟨b, off, none⟩ ∧ b < B ∧ ∀ k, k < n → ∃ y : Int, w.cell? ⟨b, off + k, none⟩ = some (.int .u8 y) ∧ 0 ≤ y ∧ y ≤ 255
theorem Bs.keep {w w' : World} {B : Nat} {A : Option Addr} {n : Nat} (h : Bs w B A n) (hb : ∀ k, k < B → w'.heap[k]? = w.heap[k]?) : Bs w' B A n := by
  intro hn
  obtain ⟨b, off, rfl, hlt, hc⟩ := h hn
  refine ⟨b, off, rfl, hlt, fun k hk => ?_⟩
  obtain ⟨y, h1, h2⟩ := hc k hk
  exact ⟨y, (World.cell?_of_block (w := w) (hb b hlt)).trans h1, h2⟩
/-- block r is a reader at place p, over bytes below base -/
def Rd (w : World) (base r p : Nat) : Prop :=
  base ≤ r ∧ r < w.heap.size ∧ ∃ A n c, n ≤ 2000 ∧ w.heap[r]? = some (.cells #[.slice A n c, .int .i64 p] 97 (0, 0)) ∧ Bs w base A n
theorem grown_set (w : World) (r o : Nat) (u : Value) : w.grownBy (w.setCell ⟨r, o, none⟩ u) (some r) :=
  ⟨rfl, rfl, rfl, by simp [World.setCell], fun k _ hne => Below.heap_setCell _ _ _ _ (fun e => hne (by rw [e]))⟩
theorem grown_drewN {w w' : World} {row : Option Nat} (h : w.grownBy w' row) (n : Nat) : w.grownBy (w'.drewN n) row := ⟨h.os, h.tape, h.output, h.size, h.block⟩
theorem grown_below {w w' : World} {B : Nat} {row : Option Nat} (h : Below B w w') (hB : w.heap.size ≤ B) : w.grownBy w' row :=
  ⟨h.os, h.tape, h.output, h.size, fun k hk _ => h.block k (by omega)⟩
theorem below_grown {w w' : World} {base r : Nat} (h : w.grownBy w' (some r)) (hr : base ≤ r) (hw : base ≤ w.heap.size) : Below base w w' :=
  (Below.refl _ _).grown h hw (fun k e => by cases e; exact hr)
theorem Rd.grown {w w' : World} {base r p : Nat} (h : Rd w base r p) (hg : Below w.heap.size w w') : Rd w' base r p := by
  obtain ⟨h1, h2, A, n, c, hn, hh, hb⟩ := h
  exact ⟨h1, Nat.lt_of_lt_of_le h2 hg.size, A, n, c, hn, (hg.block r h2).trans hh, hb.keep fun k hk => hg.block k (by omega)⟩

theorem xor_i64 (a b : Nat) (ha : a < 4611686018427387904) (hb : b < 4611686018427387904) : bits .xor .i64 (a : Int) (b : Int) = ((a ^^^ b : Nat) : Int) := by
  have hx : a ^^^ b < 2 ^ 62 := Nat.xor_lt_two_pow (by omega) (by omega)
  show IntKind.i64.wrap ((BitVec.ofInt 64 (a : Int) ^^^ BitVec.ofInt 64 (b : Int)).toNat : Int) = _
  have e1 : (BitVec.ofInt 64 (a : Int)).toNat = a := by simp; omega
  have e2 : (BitVec.ofInt 64 (b : Int)).toNat = b := by simp; omega
  rw [BitVec.toNat_xor, e1, e2]
  exact IntWalk.i64_in _ (by omega)
theorem xor_nn (x y : Int) (h0 : 0 ≤ x) (h1 : x ≤ 1000000000000) (h2 : 0 ≤ y) (h3 : y ≤ 1000000000000) : ∃ a : Nat, bits .xor .i64 x y = a ∧ a < 4611686018427387904 := by
  obtain ⟨a, rfl⟩ := Int.eq_ofNat_of_zero_le h0
  obtain ⟨b, rfl⟩ := Int.eq_ofNat_of_zero_le h2
  have hx : a ^^^ b < 2 ^ 62 := Nat.xor_lt_two_pow (by omega) (by omega)
  exact ⟨a ^^^ b, xor_i64 a b (by omega) (by omega), by omega⟩
theorem Rd.set {w : World} {base r p : Nat} {A : Option Addr} {n c : Nat} (h1 : base ≤ r) (h2 : r < w.heap.size) (hn : n ≤ 2000) (hh : w.heap[r]? = some (.cells #[.slice A n c, .int .i64 p] 97 (0, 0)))
    (hb : Bs w base A n) (nq : Nat) : w.grownBy ((w.setCell ⟨r, 1, none⟩ (.int .i64 (p + 1))).drewN nq) (some r) ∧ Rd ((w.setCell ⟨r, 1, none⟩ (.int .i64 (p + 1))).drewN nq) base r (p + 1) := by
  refine ⟨grown_drewN (grown_set _ _ _ _) nq, h1, ?_, A, n, c, hn, ?_, hb.keep fun k hk => Below.heap_setCell _ _ _ _ (by simp; omega)⟩
  · show r < (w.setCell _ _).heap.size
    simp [World.setCell]; exact h2
  · show (w.setCell _ _).heap[r]? = _
    simp [World.setCell, Array.getElem?_modify, hh]

set_option maxHeartbeats 4000000 in
theorem c_pick (base r p n : Nat) (w : World) (h : Rd w base r p) (hp : p ≤ 1000000000) (hn1 : 1 ≤ n) (hn2 : n ≤ 1000) :
    Calls Try.prog 69 #[.pointer (some ⟨r, 0, none⟩), .int .i64 n] w fun e w' => ∃ x : Nat, x < n ∧ e = .returned (.int .i64 x) ∧ w.grownBy w' (some r) ∧ Rd w' base r (p + 1) := by
  obtain ⟨h1, h2, A, m, c, hm, hh, hb⟩ := h
  have c0 : w.cell? ⟨r, 0, none⟩ = some (.slice A m c) := by simp [cell_of_row w r 0 _ _ _ hh]
  have c1 : w.cell? ⟨r, 1, none⟩ = some (.int .i64 p) := by simp [cell_of_row w r 1 _ _ _ hh]
  have f1 : w.frozen? ⟨r, 1, none⟩ = false := by simp [World.frozen?, hh]
  have HS := Lib.hid (fun nq => Rd.set h1 h2 hm hh hb nq)
  clear hh
  have hnn : decide ((n : Int) < 1) = false := by simp; omega
  have hnb : decide (n < 1) = false := by simp; omega
  by_cases hm0 : m = 0
  · subst hm0
    have hmb : ((0 : Int) == 0) = true := rfl
    go_enter Try.func69, Try.ntmps69
    go_wp2
    go_ret
    exact ⟨0, by omega, rfl, HS.out 0⟩
  · obtain ⟨b, off, rfl, hlt, hc⟩ := hb (by omega)
    have hmb : ((m : Int) == 0) = false := by simp; omega
    have hbr : b ≠ r := by omega
    by_cases hk : p < m
    · obtain ⟨y, hy, hy1, hy2⟩ := hc p hk
      have hr1 : 0 ≤ y % (n : Int) := Int.emod_nonneg _ (by omega)
      have hr2 : y % (n : Int) < n := Int.emod_lt_of_pos _ (by omega)
      clear hc
      go_enter Try.func69, Try.ntmps69
      go_wp2
      go_ret
      refine ⟨(y % (n : Int)).toNat, by omega, ?_, HS.out 0⟩
      rw [Int.toNat_of_nonneg hr1]; rfl
    · obtain ⟨q1, hq1⟩ : ∃ q, q = p % m := ⟨_, rfl⟩
      obtain ⟨q2, hq2⟩ : ∃ q, q = (p * 7 + 3) % m := ⟨_, rfl⟩
      obtain ⟨d, hd⟩ : ∃ d, d = p / m := ⟨_, rfl⟩
      have hq1m : q1 < m := by rw [hq1]; exact Nat.mod_lt _ (by omega)
      have hq2m : q2 < m := by rw [hq2]; exact Nat.mod_lt _ (by omega)
      have hdp : d ≤ p := by rw [hd]; exact Nat.div_le_self _ _
      obtain ⟨y, hy, hy1, hy2⟩ := hc q1 hq1m
      obtain ⟨z, hz, hz1, hz2⟩ := hc q2 hq2m
      have t1 : Int.tmod (p : Int) (m : Int) = (q1 : Int) := by rw [hq1]; rfl
      have t2 : Int.tmod ((p : Int) * 7 + 3) (m : Int) = (q2 : Int) := by rw [hq2]; rfl
      have t3 : Int.tdiv (p : Int) (m : Int) = (d : Int) := by rw [hd]; rfl
      clear hq1 hq2 hd
      obtain ⟨a, ha, ha2⟩ := xor_nn (y * 131 + z * 1117 + (p : Int) * 29 + (d : Int) * 53) ((y * 131 + z * 1117 + (p : Int) * 29 + (d : Int) * 53) / 64) (by omega) (by omega) (by omega) (by omega)
      have T1 := Lib.hid t1; have T2 := Lib.hid t2; have T3 := Lib.hid t3; have HA := Lib.hid ha
      clear hc t1 t2 t3 ha
      go_enter Try.func69, Try.ntmps69
      go_wp2_with fail
      have hs0 : 0 ≤ y * 131 + z * 1117 + (p : Int) * 29 + (d : Int) * 53 := by omega
      have hs1 : y * 131 + z * 1117 + (p : Int) * 29 + (d : Int) * 53 ≤ 1000000000000 := by omega
      have e1 : IntKind.i64.wrap ((p : Int) * 7) = (p : Int) * 7 := IntWalk.i64_in _ (by omega)
      have e2 : IntKind.i64.wrap ((p : Int) * 7 + 3) = (p : Int) * 7 + 3 := IntWalk.i64_in _ (by omega)
      have e3 : IntKind.i64.wrap (y * 131) = y * 131 := IntWalk.i64_in _ (by omega)
      have e4 : IntKind.i64.wrap (z * 1117) = z * 1117 := IntWalk.i64_in _ (by omega)
      have e5 : IntKind.i64.wrap (y * 131 + z * 1117) = y * 131 + z * 1117 := IntWalk.i64_in _ (by omega)
      have e6 : IntKind.i64.wrap ((p : Int) * 29) = (p : Int) * 29 := IntWalk.i64_in _ (by omega)
      have e7 : IntKind.i64.wrap (y * 131 + z * 1117 + (p : Int) * 29) = y * 131 + z * 1117 + (p : Int) * 29 := IntWalk.i64_in _ (by omega)
      have e8 : IntKind.i64.wrap ((d : Int) * 53) = (d : Int) * 53 := IntWalk.i64_in _ (by omega)
      have e9 : IntKind.i64.wrap (y * 131 + z * 1117 + (p : Int) * 29 + (d : Int) * 53) = y * 131 + z * 1117 + (p : Int) * 29 + (d : Int) * 53 := IntWalk.i64_in _ (by omega)
      have t1 := T1.out; have t2 := T2.out; have t3 := T3.out
      go_quiet (fail)
      clear e1 e2 e3 e4 e5 e6 e7 e8 e9 t1 t2 t3
      have ha := HA.out
      go_wp2
      go_ret
      have hr1 : 0 ≤ (a : Int) % (n : Int) := Int.emod_nonneg _ (by omega)
      have hr2 : (a : Int) % (n : Int) < n := Int.emod_lt_of_pos _ (by omega)
      refine ⟨((a : Int) % (n : Int)).toNat, by omega, ?_, HS.out _⟩
      rw [Int.toNat_of_nonneg hr1]; rfl

end Go.Proofs.Ytpbmehodcllncaa

