/- helpers of the exact laws for slices of deeds: szDeedS, toDeedS, eqDeedS, markDeedS, heldDeedS -/
import Derived.Test.YtpbmehodcllncaaX7
import Derived.Test.YtpbmehodcllncaaX
import Derived.Test.YtpbmehodcllncaaO8
namespace Go.Proofs.Ytpbmehodcllncaa
set_option linter.unusedVariables false
open Go.RowKit
attribute [local go_sem ↓] Go.wp_at_zero Go.wp_at_succ

set_option maxHeartbeats 1000000 in
theorem c_szE (A : Option Addr) (n c : Nat) (l : Int) (w : World) (h0 : 0 ≤ l) (hl : l ≤ 1048576) (hn : n ≤ 9223372036854775807) :
    Calls Try.prog 39 #[.slice A n c, .int .i64 l] w fun e w' => ∃ r : Int, e = .returned (.int .i64 r) ∧ w = w' ∧ ((r = -1 ∧ l < n) ∨ (r = l - n ∧ (n : Int) ≤ l)) := by
  have q1 : IntKind.i64.wrap (l - (n : Int)) = l - (n : Int) := IntWalk.i64_in _ (by omega)
  by_cases h : (n : Int) ≤ l
  · have d : decide (l - (n : Int) < 0) = false := decide_eq_false (by omega)
    go_enter Try.func39, Try.ntmps39
    go_wp2_with fail
    go_ret
    exact ⟨l - (n : Int), rfl, rfl, Or.inr (And.intro rfl h)⟩
  · have d : decide (l - (n : Int) < 0) = true := decide_eq_true (by omega)
    go_enter Try.func39, Try.ntmps39
    go_wp2_with fail
    go_ret
    exact ⟨-1, rfl, rfl, Or.inl (by first | rfl | exact ⟨rfl, by omega⟩)⟩

theorem infoEx : (Try.prog.info? 40).map (fun i => (i.zero, i.size, i.bytes)) = some (some (.agg #[.int .i64 0, .int .i64 0, .int .i64 0]), 3, 24) := by kernel_rfl
theorem ZD_eta (L : List DV) (k : Nat) (h : k < L.length) : (⟨(ZD L k).k, (ZD L k).a, (ZD L k).b⟩ : DV) = L[k] := by simp [ZD, h]
theorem EO.cells {w : World} {base g n c : Nat} {M : List DV} (h : EO w base (.slice (some ⟨g, 0, none⟩) n c) M) :
    n = M.length ∧ (∀ k, k < n → w.cell? ⟨g, k * 3, none⟩ = some (.int .i64 (ZD M k).k) ∧ w.cell? ⟨g, k * 3 + 1, none⟩ = some (.int .i64 (ZD M k).a) ∧ w.cell? ⟨g, k * 3 + 2, none⟩ = some (.int .i64 (ZD M k).b)) ∧ ∀ j, w.frozen? ⟨g, j, none⟩ = false := by
  have hn : n = M.length := by
    rcases h.2 with ⟨h2, _⟩ | ⟨g', cap, cur, h2, _⟩
    · cases h2
    · injection h2
  subst hn
  refine ⟨rfl, fun k hk => ?_, fun j => World.ownsRow.frozenAt h j⟩
  have := flatD_at M k hk
  exact ⟨(World.ownsRow.cellAt h (k * 3) (by omega)).trans this.1, (World.ownsRow.cellAt h (k * 3 + 1) (by omega)).trans this.2.1, (World.ownsRow.cellAt h (k * 3 + 2) (by omega)).trans this.2.2⟩
theorem flatD_set (d : DV) : ∀ (L : List DV) (k : Nat), flatD (L.set k d) = (((flatD L).set (k * 3) (.int .i64 d.k)).set (k * 3 + 1) (.int .i64 d.a)).set (k * 3 + 2) (.int .i64 d.b)
  | [], k => by simp [flatD]
  | c :: L, 0 => by simp [flatD]
  | c :: L, k + 1 => by
    have ih := flatD_set d L k
    have e1 : (k + 1) * 3 = k * 3 + 1 + 1 + 1 := by omega
    have e2 : k * 3 + 1 + 1 + 1 + 2 = k * 3 + 2 + 1 + 1 + 1 := by omega
    simp only [List.set_cons_succ, e1, e2]
    simp only [flatD, List.flatMap_cons, List.cons_append, List.nil_append, List.set_cons_succ] at ih ⊢
    rw [ih]
theorem EO.store {w : World} {base g n c : Nat} {M : List DV} (h : EO w base (.slice (some ⟨g, 0, none⟩) n c) M) (k : Nat) (d : DV) :
    EO (((w.setCell ⟨g, k * 3, none⟩ (.int .i64 d.k)).setCell ⟨g, k * 3 + 1, none⟩ (.int .i64 d.a)).setCell ⟨g, k * 3 + 2, none⟩ (.int .i64 d.b)) base (.slice (some ⟨g, 0, none⟩) n c) (M.set k d) := by
  have hn := h.cells.1
  subst hn
  have h1 := (World.ownsRow.stored (g := g) (cap := c) h (k * 3) (.int .i64 d.k)).1
  have h2 := (World.ownsRow.stored (g := g) (cap := c) h1 (k * 3 + 1) (.int .i64 d.a)).1
  have h3 := (World.ownsRow.stored (g := g) (cap := c) h2 (k * 3 + 2) (.int .i64 d.b)).1
  unfold EO
  rw [flatD_set, List.length_set]
  exact h3
theorem flatD_zeros (n : Nat) : (madeCells (Value.agg #[.int .i64 0, .int .i64 0, .int .i64 0]).cells (n * 3)).toList = flatD (List.replicate n ⟨0, 0, 0⟩) := by
  have hz : (Value.agg #[.int .i64 0, .int .i64 0, .int .i64 0]).cells = #[.int .i64 0, .int .i64 0, .int .i64 0] := rfl
  have hl : (flatD (List.replicate n ⟨0, 0, 0⟩)).length = n * 3 := by rw [flatD_len]; simp
  apply List.ext_getElem?
  intro j
  by_cases h : j < n * 3
  · rw [hz, madeAt _ _ _ h]
    have h2 := flatD_at (List.replicate n ⟨0, 0, 0⟩) (j / 3) (by simp; omega)
    have e1 : ZD (List.replicate n ⟨0, 0, 0⟩) (j / 3) = ⟨0, 0, 0⟩ := by simp [ZD, show j / 3 < n by omega]
    rw [e1] at h2
    rcases (show j % 3 = 0 ∨ j % 3 = 1 ∨ j % 3 = 2 by omega) with h3 | h3 | h3
    · have e3 : j / 3 * 3 = j := by omega
      rw [e3] at h2
      rw [h2.1]; simp [h3]
    · have e3 : j / 3 * 3 + 1 = j := by omega
      rw [e3] at h2
      rw [h2.2.1]; simp [h3]
    · have e3 : j / 3 * 3 + 2 = j := by omega
      rw [e3] at h2
      rw [h2.2.2]; simp [h3]
  · rw [List.getElem?_eq_none (by simp [madeCells]; omega), List.getElem?_eq_none (by omega)]
/-- the first k of L, zero deeds behind -/
def fillE (L : List DV) (k : Nat) : List DV := L.take k ++ List.replicate (L.length - k) ⟨0, 0, 0⟩
theorem fillE_len {L : List DV} {k : Nat} (h : k ≤ L.length) : (fillE L k).length = L.length := by simp [fillE]; omega
theorem fillE_all (L : List DV) : fillE L L.length = L := by simp [fillE]
theorem fillE_succ {L : List DV} {k : Nat} (h : k < L.length) : (fillE L k).set k ⟨(ZD L k).k, (ZD L k).a, (ZD L k).b⟩ = fillE L (k + 1) := by
  apply List.ext_getElem (by simp [fillE]; omega)
  intro i h1 h2
  simp only [fillE, List.length_set, List.length_append, List.length_take, List.length_replicate] at h1 h2
  rw [List.getElem_set]
  by_cases e : k = i
  · subst e
    simp only [if_true, fillE]
    rw [List.getElem_append_left (by simp; omega), List.getElem_take, ZD_eta L k h]
  · rw [if_neg e]
    simp only [fillE]
    by_cases hi : i < k
    · rw [List.getElem_append_left (by simp; omega), List.getElem_append_left (by simp; omega), List.getElem_take, List.getElem_take]
    · rw [List.getElem_append_right (by simp; omega), List.getElem_append_right (by simp; omega), List.getElem_replicate, List.getElem_replicate]

set_option maxRecDepth 8000 in
set_option maxHeartbeats 2000000 in
theorem c_toDeedS (L : List DV) (A : Option Addr) (c : Nat) (w : World) (hA : Ds3 w w.heap.size A L) (hn : L.length ≤ 1048576) :
    Calls Try.prog 40 #[.slice A L.length c] w fun e w' => ∃ v, e = .returned v ∧ EO w' w.heap.size v L ∧ Below w.heap.size w w' := by
  obtain ⟨i0, hi, hz0, hz1, hz2⟩ := info_parts infoEx
  go_enter Try.func40, Try.ntmps40
  go_wp2_with (at_make; refine wpList_make_full w rfl _ _ _ rfl w.heap.size 40 i0 _ 3 Try.underlying45 hi hz0 hz1 .i64 .i64 _ _ L.length rfl rfl rfl rfl (by rw [hz2]; omega) (by simp only [maxLen]; omega) (Nat.le_refl _) ?_; intro w1 hown1 hgr1)
  have hb1 : Below w.heap.size w w1 := (Below.refl _ _).grown hgr1 (Nat.le_refl _) (by simp)
  have o1 : EO w1 w.heap.size (.slice (some ⟨w.heap.size, 0, none⟩) L.length L.length) (fillE L 0) := by
    unfold EO
    rw [fillE_len (by omega), show fillE L 0 = List.replicate L.length ⟨0, 0, 0⟩ by simp [fillE], ← flatD_zeros]
    exact hown1
  clear hown1 hgr1
  go_loopw [4] (fun i wr => ∃ k : Nat, k ≤ L.length ∧ i = .int .i64 k ∧ EO wr w.heap.size (.slice (some ⟨w.heap.size, 0, none⟩) L.length L.length) (fillE L k) ∧ Below w.heap.size w wr)
    (fun i _ => L.length - (intOf i).toNat)
  case atStart => exact ⟨0, by omega, rfl, o1, hb1⟩
  case round =>
    obtain ⟨k, hk, rfl, hown, hb⟩ := hrel
    by_cases hlt : k < L.length
    · obtain ⟨b, off, rfl, hlb, hc⟩ := hA (by omega)
      have c1 := (hb.cell (p := ⟨b, off + k * 3, none⟩) hlb).trans (hc k hlt).1
      have c2 := (hb.cell (p := ⟨b, off + k * 3 + 1, none⟩) hlb).trans (hc k hlt).2.1
      have c3 := (hb.cell (p := ⟨b, off + k * 3 + 2, none⟩) hlb).trans (hc k hlt).2.2
      clear hc
      have hsz := hb.size
      clear hb1 hA o1
      go_wp2_with fail
      refine (c_toDeed _ _ _ _).mono ?_
      rintro e w5 ⟨rfl, hb5⟩
      have o5 := hown.below hb5 (Nat.le_refl _)
      have hb7 := hb.trans (hb5.mono hsz)
      obtain ⟨-, hcl, hfr⟩ := o5.cells
      obtain ⟨d1, d2, d3⟩ := hcl k hlt
      have f1 := hfr (k * 3)
      have f2 := hfr (k * 3 + 1)
      have f3 := hfr (k * 3 + 2)
      have HO := Lib.hid (o5.store k ⟨(ZD L k).k, (ZD L k).a, (ZD L k).b⟩)
      rw [fillE_succ hlt] at HO
      clear hcl hfr
      go_wp2_with fail
      go_roundw
      case rel => exact ⟨k + 1, by omega, by go_num, HO.out, by (repeat (first | exact hb7 | exact Below.refl _ _ | (with_reducible refine Below.drew ?_) | (with_reducible refine Below.drewN ?_ _) | (with_reducible refine Below.alloc ?_ ?_ _) | (with_reducible refine Below.setCell ?_ ?_ _) | (show _ ≤ _; focus (first | omega | (simp; done) | (simp; omega)))))⟩
      case measure => simp [intOf]; omega
    · go_wp2_with fail
      go_ret
      obtain rfl : k = L.length := by omega
      rw [fillE_all] at hown
      exact ⟨_, rfl, hown, hb⟩

set_option maxHeartbeats 2000000 in
theorem c_eqDeedS (L : List DV) (A B : Option Addr) (c d : Nat) (w : World) (hA : Ds3 w w.heap.size A L) (hB : Ds3 w w.heap.size B L) (hn : L.length ≤ 1048576) :
    Calls Try.prog 41 #[.slice A L.length c, .slice B L.length d] w fun e w' => e = .returned (.bool true) ∧ Below w.heap.size w w' := by
  go_enter Try.func41, Try.ntmps41
  go_wp2_with fail
  go_loopw [5] (fun i wr => ∃ k : Nat, k ≤ L.length ∧ i = .int .i64 k ∧ Below w.heap.size w wr) (fun i _ => L.length - (intOf i).toNat)
  case atStart => exact ⟨0, Nat.zero_le _, rfl, Below.refl _ _⟩
  case round =>
    obtain ⟨k, hk, rfl, hb⟩ := hrel
    have hsz := hb.size
    by_cases hlt : k < L.length
    · obtain ⟨b, off, rfl, hlb, hc⟩ := hA (by omega)
      obtain ⟨b2, off2, rfl, hlb2, hc2⟩ := hB (by omega)
      obtain ⟨p1, p2, p3⟩ := hc k hlt
      obtain ⟨q1, q2, q3⟩ := hc2 k hlt
      have c1 := WB.cell (B := w.heap.size) (w := wr) hlb ((hb.cell (p := ⟨b, off + k * 3, none⟩) hlb).trans p1)
      have c2 := WB.cell (B := w.heap.size) (w := wr) hlb ((hb.cell (p := ⟨b, off + k * 3 + 1, none⟩) hlb).trans p2)
      have c3 := WB.cell (B := w.heap.size) (w := wr) hlb ((hb.cell (p := ⟨b, off + k * 3 + 2, none⟩) hlb).trans p3)
      have c4 := WB.cell (B := w.heap.size) (w := wr) hlb2 ((hb.cell (p := ⟨b2, off2 + k * 3, none⟩) hlb2).trans q1)
      have c5 := WB.cell (B := w.heap.size) (w := wr) hlb2 ((hb.cell (p := ⟨b2, off2 + k * 3 + 1, none⟩) hlb2).trans q2)
      have c6 := WB.cell (B := w.heap.size) (w := wr) hlb2 ((hb.cell (p := ⟨b2, off2 + k * 3 + 2, none⟩) hlb2).trans q3)
      have z1 : (0 : Int) ≤ (k : Int) := by omega
      have z2 : (k : Int) < (L.length : Int) := by omega
      have HE := Lib.hid (fun W => c_eqDeed (ZD L k).k (ZD L k).a (ZD L k).b W)
      clear hc hc2 p1 p2 p3 q1 q2 q3
      go_wp2_with fail
      refine wp_region_wb w.heap.size (by kernel_rfl) (by kernel_rfl) ?_
      repeat (go_big_quiet_step ((go_at_call 68; exact Calls.inB hsz (HE.out _))))
      refine wpQuiet_nil ?_
      rintro w5 ⟨⟨_, hb5⟩, rfl⟩
      go_wp2_with fail
      go_roundw
      case rel => exact ⟨k + 1, by omega, by go_num, hb.trans hb5⟩
      case measure => simp [intOf]; omega
    · go_wp2_with fail
      go_ret
      exact ⟨rfl, hb⟩

/-- what markDeedS writes -/
def marksE (n : Nat) (k : Int) : List DV := (List.range n).map fun (i : Nat) => ⟨k + 3 * (i : Int), k + 3 * (i : Int) + 1, k + 3 * (i : Int) + 2⟩
theorem marksE_len (n : Nat) (k : Int) : (marksE n k).length = n := by simp [marksE]
theorem marksE_at {n i : Nat} {k : Int} (h : i < n) : ZD (marksE n k) i = ⟨k + 3 * (i : Int), k + 3 * (i : Int) + 1, k + 3 * (i : Int) + 2⟩ := by simp [ZD, marksE, h]
def markETo (L : List DV) (k : Int) (i : Nat) : List DV := (marksE L.length k).take i ++ L.drop i
theorem markETo_len {L : List DV} {k : Int} {i : Nat} (h : i ≤ L.length) : (markETo L k i).length = L.length := by simp [markETo, marksE_len]; omega
theorem markETo_all (L : List DV) (k : Int) : markETo L k L.length = marksE L.length k := by
  have h := marksE_len L.length k
  simp [markETo, List.take_of_length_le (show (marksE L.length k).length ≤ L.length by omega)]
theorem markETo_succ {L : List DV} {k : Int} {i : Nat} (h : i < L.length) : (markETo L k i).set i ⟨k + 3 * (i : Int), k + 3 * (i : Int) + 1, k + 3 * (i : Int) + 2⟩ = markETo L k (i + 1) := by
  have hm := marksE_len L.length k
  apply List.ext_getElem (by simp [markETo, hm]; omega)
  intro j h1 h2
  simp only [markETo, List.length_set, List.length_append, List.length_take, List.length_drop, hm] at h1 h2
  rw [List.getElem_set]
  by_cases e : i = j
  · subst e
    simp only [if_true, markETo]
    rw [List.getElem_append_left (by simp [hm]; omega), List.getElem_take]
    simp [marksE]
  · rw [if_neg e]
    simp only [markETo]
    by_cases hi : j < i
    · rw [List.getElem_append_left (by simp [hm]; omega), List.getElem_append_left (by simp [hm]; omega), List.getElem_take, List.getElem_take]
    · rw [List.getElem_append_right (by simp [hm]; omega), List.getElem_append_right (by simp [hm]; omega), List.getElem_drop, List.getElem_drop]
      congr 1
      simp [hm]; omega
theorem grown_setE (w : World) (r o : Nat) (u : Value) : w.grownBy (w.setCell ⟨r, o, none⟩ u) (some r) :=
  ⟨rfl, rfl, rfl, by simp [World.setCell], fun k _ hne => Below.heap_setCell _ _ _ _ (fun e => hne (by rw [e]))⟩

set_option maxHeartbeats 2000000 in
theorem c_markDeedS (L : List DV) (k0 : Int) (v : Value) (base : Nat) (w : World) (hv : EO w base v L) (hn : L.length ≤ 1048576) (hk0 : 0 ≤ k0) (hk1 : k0 ≤ 1000000000) :
    Calls Try.prog 42 #[v, .int .i64 k0] w fun e w' => e = .returned (.int .i64 (k0 + 3 * L.length)) ∧ EO w' base v (marksE L.length k0) ∧ w.grownBy w' v.ownBlock := by
  rcases hv.2 with ⟨rfl, h0⟩ | ⟨g, cap, cur, rfl, -⟩
  · have e : marksE L.length k0 = [] := by rw [h0]; rfl
    rw [e, h0]
    go_enter Try.func42, Try.ntmps42
    go_wp2_with fail
    refine wp_loop_rounds 1 ?_
    rw [rounds_succ]
    go_wp2_with fail
    go_ret
    exact ⟨by simp, EO.nil _ _, World.grownBy.refl _ _⟩
  · go_enter Try.func42, Try.ntmps42
    go_wp2_with fail
    go_loopw [1, 5] (fun kk i wr => ∃ k : Nat, k ≤ L.length ∧ i = .int .i64 k ∧ kk = .int .i64 (k0 + 3 * (k : Int)) ∧ EO wr base (.slice (some ⟨g, 0, none⟩) L.length cap) (markETo L k0 k) ∧ w.grownBy wr (some g))
      (fun _ i _ => L.length - (intOf i).toNat)
    case atStart => exact ⟨0, by omega, rfl, by simp, by simpa [markETo] using hv, World.grownBy.refl _ _⟩
    case round =>
      obtain ⟨k, hk, rfl, rfl, hown, hgr⟩ := hrel
      by_cases hlt : k < L.length
      · obtain ⟨-, hcl, hfr⟩ := hown.cells
        obtain ⟨d1, d2, d3⟩ := hcl k hlt
        have f1 := hfr (k * 3)
        have f2 := hfr (k * 3 + 1)
        have f3 := hfr (k * 3 + 2)
        have HO := Lib.hid (hown.store k ⟨k0 + 3 * (k : Int), k0 + 3 * (k : Int) + 1, k0 + 3 * (k : Int) + 2⟩)
        rw [markETo_succ hlt] at HO
        clear hcl hfr
        go_wp2_with fail
        go_roundw
        case rel => exact ⟨k + 1, by omega, by go_num, by go_num, by rw [show k0 + 3 * (k : Int) + 1 + 1 = k0 + 3 * (k : Int) + 2 by omega]; exact HO.out, ((hgr.trans (grown_setE _ _ _ _)).trans (grown_setE _ _ _ _)).trans (grown_setE _ _ _ _)⟩
        case measure => simp [intOf]; omega
      · go_wp2_with fail
        go_ret
        obtain rfl : k = L.length := by omega
        rw [markETo_all] at hown
        exact ⟨rfl, hown, hgr⟩

end Go.Proofs.Ytpbmehodcllncaa

