/- Rows of rows of two numbers in the exact laws: equal, mark, held -/
import Derived.Test.YtjjncpimelpfiaaK2
import Derived.Test.YtjjncpimelpfiaaX
import Derived.Test.YtjjncpimelpfiaaH
namespace Go.Proofs.Ytjjncpimelpfiaa
set_option linter.unusedVariables false
open Go.RowKit
attribute [local go_sem ↓] Go.wp_at_zero Go.wp_at_succ

/-- rows of two numbers that read as P, below block B -/
def Rs (w : World) (B : Nat) (A : Option Addr) (P : List (Int × Int)) : Prop :=
  0 < P.length → ∃ g0, A = some ⟨g0, 0, none⟩ ∧ g0 < B ∧ ∀ k, k < P.length → ∃ ib ic, w.cell? ⟨g0, k, none⟩ = some (.slice (some ⟨ib, 0, none⟩) 2 ic) ∧ ib < B ∧ w.cell? ⟨ib, 0, none⟩ = some (.int .i64 (X P k)) ∧ w.cell? ⟨ib, 1, none⟩ = some (.int .i64 (Y P k))
theorem Rs.below {w w' : World} {B : Nat} {A : Option Addr} {P : List (Int × Int)} (h : Rs w B A P) (hb : Below B w w') : Rs w' B A P := by
  intro hp
  obtain ⟨g0, rfl, hg, hc⟩ := h hp
  refine ⟨g0, rfl, hg, fun k hk => ?_⟩
  obtain ⟨ib, ic, h1, h2, h3, h4⟩ := hc k hk
  exact ⟨ib, ic, (hb.cell (p := ⟨g0, k, none⟩) hg).trans h1, h2, (hb.cell (p := ⟨ib, 0, none⟩) h2).trans h3, (hb.cell (p := ⟨ib, 1, none⟩) h2).trans h4⟩
theorem Rs.more {w : World} {B B' : Nat} {A : Option Addr} {P : List (Int × Int)} (h : Rs w B A P) (hb : B ≤ B') : Rs w B' A P := by
  intro hp
  obtain ⟨g0, rfl, hg, hc⟩ := h hp
  refine ⟨g0, rfl, by omega, fun k hk => ?_⟩
  obtain ⟨ib, ic, h1, h2, h3⟩ := hc k hk
  exact ⟨ib, ic, h1, by omega, h3⟩
theorem isTwo {w : World} {B ib : Nat} {x y : Int} (h : ib < B) (h0 : w.cell? ⟨ib, 0, none⟩ = some (.int .i64 x)) (h1 : w.cell? ⟨ib, 1, none⟩ = some (.int .i64 y)) : Is w B (some ⟨ib, 0, none⟩) [x, y] := by
  intro _
  refine ⟨ib, 0, rfl, h, fun j hj => ?_⟩
  simp only [List.length_cons, List.length_nil] at hj
  by_cases e : j = 0
  · subst e; exact h0
  · obtain rfl : j = 1 := by omega
    exact h1
/-- a call's own rows of two numbers -/
def SO (w : World) (base : Nat) (v : Value) (P : List (Int × Int)) : Prop := ∃ vs, IOO w base v (rows P) vs
theorem IOO.rs {w : World} {base : Nat} {v : Value} {P : List (Int × Int)} {vs : List Value} (h : IOO w base v (rows P) vs) : ∃ A c, v = .slice A P.length c ∧ P.length ≤ c ∧ c ≤ maxLen ∧ Rs w w.heap.size A P := by
  obtain ⟨A, c, rfl, h1, h2, h3⟩ := h.form
  rw [rows_len] at h1 h3 ⊢
  refine ⟨A, c, rfl, h1, h2, fun hp => ?_⟩
  obtain ⟨g, rfl, _, hg, hcl, _⟩ := h3 hp
  refine ⟨g, rfl, hg, fun k hk => ?_⟩
  obtain ⟨ib, ic, hv, _, e1, e2, e3⟩ := h.pair hk
  exact ⟨ib, ic, by rw [hcl k hk, hv], e1, e2, e3⟩
theorem SO.form {w : World} {base : Nat} {v : Value} {P : List (Int × Int)} (h : SO w base v P) : ∃ A c, v = .slice A P.length c ∧ P.length ≤ c ∧ c ≤ maxLen ∧ Rs w w.heap.size A P := h.elim fun _ h => h.rs
theorem SO.isOf {w : World} {base n c : Nat} {A : Option Addr} {P : List (Int × Int)} (h : SO w base (.slice A n c) P) : n = P.length ∧ Rs w w.heap.size A P := by
  obtain ⟨A', c', e, _, _, h'⟩ := h.form
  injection e with e1 e2 e3
  subst e1
  exact ⟨e2, h'⟩
theorem SO.below {w w' : World} {base B : Nat} {v : Value} {P : List (Int × Int)} (h : SO w base v P) (hb : Below B w w') (hB : w.heap.size ≤ B) : SO w' base v P := h.elim fun vs h => ⟨vs, h.below hb hB⟩
theorem SO.mono {w : World} {base base' : Nat} {v : Value} {P : List (Int × Int)} (h : SO w base v P) (hB : base' ≤ base) : SO w base' v P := h.elim fun vs h => ⟨vs, h.mono hB⟩
theorem owns_grown {w w' : World} {base : Nat} {e : TypeId} {size : Nat} {row : Option Nat} {v : Value} {n : Nat} {xs : List Value} (h : w.ownsRow base e size v n xs) (hg : w.grownBy w' row) (hr : ∀ r, v.ownBlock = some r → row ≠ some r) : w'.ownsRow base e size v n xs := by
  refine ⟨h.1, ?_⟩
  have hl := owns_lt h
  rcases h.2 with h2 | ⟨g, cap, cur, rfl, hgb, hh, rest⟩
  · exact .inl h2
  · have := hl g (by simp [Value.ownBlock])
    exact .inr ⟨g, cap, cur, rfl, hgb, by rw [hg.block g (by omega) (fun e => hr g (by simp [Value.ownBlock]) (by rw [← e]))]; exact hh, rest⟩
theorem SO.grownR {w w' : World} {base : Nat} {row : Option Nat} {v : Value} {P : List (Int × Int)} (h : SO w base v P) (hg : w.grownBy w' row) (hr : ∀ r, row = some r → r < base) : SO w' base v P := by
  obtain ⟨vs, h⟩ := h
  refine ⟨vs, owns_grown h.row hg (fun r h1 h2 => ?_), fun k hk => (h.inner k hk).grownR hg hr, h.apart, h.diff⟩
  have := owns_base h.row r h1
  have := hr r h2
  omega
/-- one row is written -/
theorem IOO.write {w w' : World} {base k : Nat} {v : Value} {xss : List (List Int)} {ys : List Int} {vs : List Value} (h : IOO w base v xss vs) (hk : k < xss.length) (hi : IO w' base (vs.getD k undef) ys) (hg : w.grownBy w' (vs.getD k undef).ownBlock) : IOO w' base v (xss.set k ys) vs := by
  refine ⟨?_, fun i hi' => ?_, fun i hi' => ?_, fun i j hi' hj => ?_⟩
  · rw [List.length_set]
    exact owns_grown h.row hg (fun r h1 h2 => h.apart k hk r h2 h1)
  · rw [List.length_set] at hi'
    rw [getD_set' _ _ _ _ _ hk]
    split
    · rename_i e; rw [← e]; exact hi
    · rename_i e
      exact (h.inner i hi').grownR' hg (fun r h1 h2 => h.diff i k hi' hk (fun e2 => e e2.symm) r h1 h2)
  · rw [List.length_set] at hi'; exact h.apart i hi'
  · rw [List.length_set] at hi' hj; exact h.diff i j hi' hj

set_option maxHeartbeats 2000000 in
theorem c_eqIntSS (P : List (Int × Int)) (A B : Option Addr) (c d : Nat) (w : World) (hA : Rs w w.heap.size A P) (hB : Rs w w.heap.size B P) (hn : P.length ≤ 1048576) :
    Calls Try.prog 34 #[.slice A P.length c, .slice B P.length d] w fun e w' => e = .returned (.bool true) ∧ Below w.heap.size w w' := by
  go_enter Try.func34, Try.ntmps34
  go_wp2_with fail
  go_loopw [5] (fun i wr => ∃ k : Nat, k ≤ P.length ∧ i = .int .i64 k ∧ Below w.heap.size w wr) (fun i _ => P.length - (intOf i).toNat)
  case atStart => exact ⟨0, Nat.zero_le _, rfl, Below.refl _ _⟩
  case round =>
    obtain ⟨k, hk, rfl, hb⟩ := hrel
    have hsz := hb.size
    by_cases hlt : k < P.length
    · obtain ⟨g0, rfl, hg0, hq0⟩ := (hA.below hb) (by omega)
      obtain ⟨g1, rfl, hg1, hq1⟩ := (hB.below hb) (by omega)
      obtain ⟨ib, ic, d0, hib, d1, d2⟩ := hq0 k hlt
      obtain ⟨jb, jc, e0, hjb, e1, e2⟩ := hq1 k hlt
      have c0 := WB.cell (B := wr.heap.size) (show g0 < wr.heap.size by omega) d0
      have c1 := WB.cell (B := wr.heap.size) (show g1 < wr.heap.size by omega) e0
      have i0 := isTwo (show ib < wr.heap.size by omega) d1 d2
      have i1 := isTwo (show jb < wr.heap.size by omega) e1 e2
      have p1 : (0 : Int) ≤ (k : Int) := by omega
      have p2 : (k : Int) < (P.length : Int) := by omega
      have HK := Lib.hid (fun W (h0 : Is W W.heap.size (some ⟨ib, 0, none⟩) [X P k, Y P k]) (h1 : Is W W.heap.size (some ⟨jb, 0, none⟩) [X P k, Y P k]) => c_eqIntS [X P k, Y P k] (some ⟨ib, 0, none⟩) (some ⟨jb, 0, none⟩) _ _ ic jc W h0 h1 (by simp))
      clear hq0 hq1 d0 d1 d2 e0 e1 e2
      go_wp2_with fail
      refine wp_region_wb wr.heap.size (by kernel_rfl) (by kernel_rfl) ?_
      repeat (go_big_quiet_step ((go_at_call 38; exact Calls.inB (Nat.le_refl _) (HK.out _ (WB.is _ i0 (Nat.le_refl _)) (WB.is _ i1 (Nat.le_refl _))))))
      refine wpQuiet_nil ?_
      rintro _ ⟨⟨w5, hb5⟩, rfl⟩
      have hb7 := hb.trans (hb5.mono hsz)
      go_wp2_with fail
      go_roundw
      case rel => exact ⟨k + 1, by omega, by go_num, hb7⟩
      case measure => simp [intOf]; omega
    · have hlf : ¬ ((k : Int) < (P.length : Int)) := by omega
      go_wp2_with fail
      go_ret
      exact ⟨rfl, hb⟩

set_option maxHeartbeats 2000000 in
theorem c_heldIntSS (n : Nat) (k0 : Int) (A : Option Addr) (c B : Nat) (w : World) (hA : Rs w B A (marks n k0)) (hn : n ≤ 1048576) (hk0 : 0 ≤ k0) (hk1 : k0 ≤ 100000000) :
    Calls Try.prog 37 #[.slice A n c, .int .i64 k0] w fun e w' => e = .returned (.int .i64 (k0 + 2 * n)) ∧ w = w' := by
  have hml := marks_len n k0
  have Hml := Lib.hid hml
  clear hml
  go_enter Try.func37, Try.ntmps37
  go_wp2_with fail
  go_loop [1, 5] (fun q i => ∃ k : Nat, k ≤ n ∧ i = .int .i64 k ∧ q = .int .i64 (k0 + 2 * k)) (fun _ i => n - (intOf i).toNat)
  case atStart => exact ⟨0, Nat.zero_le _, rfl, by simp⟩
  case round =>
    obtain ⟨k, hk, rfl, rfl⟩ := hrel
    by_cases hlt : k < n
    · obtain ⟨g0, rfl, hg0, hq0⟩ := hA (by rw [Hml.out]; omega)
      obtain ⟨ib, ic, d0, hib, d1, d2⟩ := hq0 k (by rw [Hml.out]; omega)
      rw [marks_X hlt] at d1
      rw [marks_Y hlt] at d2
      have i0 : Is w B (some ⟨ib, 0, none⟩) (marksI 2 (k0 + 2 * k)) := by
        have := isTwo hib d1 d2
        simpa [marksI, List.range_succ] using this
      have hlb : 0 ≤ k0 + 2 * (k : Int) := by omega
      have hlb2 : k0 + 2 * (k : Int) + 2 ≤ 1000000000 := by omega
      clear hq0
      go_wp2_with fail
      refine (c_heldIntS 2 (k0 + 2 * (k : Int)) (some ⟨ib, 0, none⟩) ic B _ i0 (by omega) (by omega) (by omega)).mono ?_
      rintro e w1 ⟨rfl, rfl⟩
      go_wp2_with fail
      go_round
      case rel => exact ⟨k + 1, by omega, by go_num, by congr 1; simp; omega⟩
      case measure => simp [intOf]; omega
    · have hlf : ¬ ((k : Int) < (n : Int)) := by omega
      go_wp2_with fail
      go_ret
      obtain rfl : k = n := by omega
      exact ⟨rfl, rfl⟩

set_option maxHeartbeats 2000000 in
theorem c_markIntSS (P : List (Int × Int)) (k0 : Int) (v : Value) (base : Nat) (w : World) (hv : SO w base v P) (hn : P.length ≤ 1048576) (hk0 : 0 ≤ k0) (hk1 : k0 ≤ 100000000) (hbase : base ≤ w.heap.size) :
    Calls Try.prog 36 #[v, .int .i64 k0] w fun e w' => e = .returned (.int .i64 (k0 + 2 * P.length)) ∧ SO w' base v (marks P.length k0) ∧ Below base w w' := by
  obtain ⟨vs, hv⟩ := hv
  obtain ⟨A, c, rfl, -, -, -⟩ := hv.rs
  go_enter Try.func36, Try.ntmps36
  go_wp2_with fail
  go_loopw [1, 5] (fun q i wr => ∃ k : Nat, k ≤ P.length ∧ i = .int .i64 k ∧ q = .int .i64 (k0 + 2 * k) ∧ IOO wr base (.slice A P.length c) (rows (markTo P k0 k)) vs ∧ Below base w wr) (fun _ i _ => P.length - (intOf i).toNat)
  case atStart => exact ⟨0, Nat.zero_le _, rfl, by simp, by simpa [markTo] using hv, Below.refl _ _⟩
  case round =>
    obtain ⟨k, hk, rfl, rfl, hown, hb⟩ := hrel
    have hsz := hb.size
    by_cases hlt : k < P.length
    · have hml := markTo_len (L := P) (k := k0) (i := k) hk
      have hpr := hown.pair (k := k) (by omega)
      have hin := hown.inner k (by rw [rows_len]; omega)
      rw [rows_get (by omega)] at hin
      obtain ⟨ib, ic, hvs, -, hib, -, -⟩ := hpr
      have d0 : ∃ g, A = some ⟨g, 0, none⟩ ∧ wr.cell? ⟨g, k, none⟩ = some (vs.getD k undef) ∧ g < wr.heap.size := by
        obtain ⟨A', c', e, -, -, h3⟩ := hown.form
        injection e with e1 e2 e3
        subst e1
        obtain ⟨g, rfl, -, hg, hcl, -⟩ := h3 (by rw [rows_len]; omega)
        exact ⟨g, rfl, hcl k (by rw [rows_len]; omega), hg⟩
      obtain ⟨g, rfl, d1, hg⟩ := d0
      rw [hvs] at d1 hin
      have hlb : 0 ≤ k0 + 2 * (k : Int) := by omega
      have hlb2 : k0 + 2 * (k : Int) + 2 ≤ 1000000000 := by omega
      have HVS := Lib.hid hvs
      have HML := Lib.hid hml
      have p1 : (0 : Int) ≤ (k : Int) := by omega
      have p2 : (k : Int) < (P.length : Int) := by omega
      clear hvs hml
      go_wp2_with fail
      refine (c_markIntS [X (markTo P k0 k) k, Y (markTo P k0 k) k] (k0 + 2 * (k : Int)) _ base _ hin (by simp) (by omega) (by omega)).mono ?_
      rintro e w1 ⟨rfl, hin1, hg1⟩
      have hw : IOO w1 base (.slice (some ⟨g, 0, none⟩) P.length c) (rows (markTo P k0 (k + 1))) vs := by
        have h1 := hown.write (k := k) (ys := [k0 + 2 * (k : Int), k0 + 2 * (k : Int) + 1]) (w' := w1) (by rw [rows_len, HML.out]; exact hlt) (by rw [HVS.out]; simpa [marksI, List.range_succ] using hin1) (by rw [HVS.out]; exact hg1)
        have h2 := rows_set (markTo P k0 k) k (k0 + 2 * (k : Int), k0 + 2 * (k : Int) + 1)
        rw [markTo_succ hlt] at h2
        rw [h2]
        exact h1
      have hb1 : Below base wr w1 := (Below.refl _ _).grown hg1 (by omega) (owns_base hin)
      clear hg1 hin1 hin
      go_wp2_with fail
      go_roundw
      case rel => exact ⟨k + 1, by omega, by go_num, by congr 1; simp; omega, hw, hb.trans hb1⟩
      case measure => simp [intOf]; omega
    · have hlf : ¬ ((k : Int) < (P.length : Int)) := by omega
      go_wp2_with fail
      go_ret
      obtain rfl : k = P.length := by omega
      refine ⟨rfl, ⟨vs, ?_⟩, hb⟩
      rw [markTo_all] at hown
      exact hown

end Go.Proofs.Ytjjncpimelpfiaa

