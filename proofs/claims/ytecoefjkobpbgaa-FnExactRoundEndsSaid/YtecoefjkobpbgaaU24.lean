/- Chapter 11's functions of the program, third part: the row in a ring buffer; the units by turns; RoundOrder, RoundEnds -/
import Derived.Test.YtecoefjkobpbgaaK25
import Derived.Test.YtecoefjkobpbgaaU2
import Derived.Test.YtecoefjkobpbgaaQ3
namespace Go.Proofs.Ytecoefjkobpbgaa
set_option linter.unusedVariables false
open Go.RowKit Go.Shelf
attribute [local go_sem] Oper.semAt_some

/-- a ring buffer's cells -/
def RingC (w : World) (R : Nat) (p : Nat → Int) (h m : Int) : Prop :=
  w.heap[R]? = some (.cells #[.int .i64 (p 0), .int .i64 (p 1), .int .i64 (p 2), .int .i64 (p 3), .int .i64 (p 4), .int .i64 (p 5), .int .i64 (p 6), .int .i64 (p 7), .int .i64 h, .int .i64 m] 85 (0, 0))
theorem RingC.head {w : World} {R : Nat} {p : Nat → Int} {h m : Int} (hr : RingC w R p h m) : w.cell? ⟨R, 8, none⟩ = some (.int .i64 h) := cell_of_row w R 8 _ _ _ hr
theorem RingC.many {w : World} {R : Nat} {p : Nat → Int} {h m : Int} (hr : RingC w R p h m) : w.cell? ⟨R, 9, none⟩ = some (.int .i64 m) := cell_of_row w R 9 _ _ _ hr
theorem RingC.place {w : World} {R : Nat} {p : Nat → Int} {h m : Int} (hr : RingC w R p h m) (k : Nat) (hk : k < 8) : w.cell? ⟨R, k, none⟩ = some (.int .i64 (p k)) := by
  rcases (show k = 0 ∨ k = 1 ∨ k = 2 ∨ k = 3 ∨ k = 4 ∨ k = 5 ∨ k = 6 ∨ k = 7 by omega) with rfl | rfl | rfl | rfl | rfl | rfl | rfl | rfl <;> exact cell_of_row w R _ _ _ _ hr
theorem RingC.frozen {w : World} {R : Nat} {p : Nat → Int} {h m : Int} (hr : RingC w R p h m) (k : Nat) : w.frozen? ⟨R, k, none⟩ = false := by
  unfold RingC at hr; simp only [World.frozen?, hr]; rfl
theorem RingC.setP {w : World} {R : Nat} {p : Nat → Int} {h m : Int} (hr : RingC w R p h m) (k : Nat) (hk : k < 8) (x : Int) : RingC (w.setCell ⟨R, k, none⟩ (.int .i64 x)) R (fun i => if i = k then x else p i) h m := by
  unfold RingC at hr ⊢
  simp only [World.setCell]
  rw [Array.getElem?_modify, if_pos rfl, hr]
  rcases (show k = 0 ∨ k = 1 ∨ k = 2 ∨ k = 3 ∨ k = 4 ∨ k = 5 ∨ k = 6 ∨ k = 7 by omega) with rfl | rfl | rfl | rfl | rfl | rfl | rfl | rfl <;> rfl
theorem RingC.setH {w : World} {R : Nat} {p : Nat → Int} {h m : Int} (hr : RingC w R p h m) (x : Int) : RingC (w.setCell ⟨R, 8, none⟩ (.int .i64 x)) R p x m := by
  unfold RingC at hr ⊢
  simp only [World.setCell]
  rw [Array.getElem?_modify, if_pos rfl, hr]
  rfl
theorem RingC.setM {w : World} {R : Nat} {p : Nat → Int} {h m : Int} (hr : RingC w R p h m) (x : Int) : RingC (w.setCell ⟨R, 9, none⟩ (.int .i64 x)) R p h x := by
  unfold RingC at hr ⊢
  simp only [World.setCell]
  rw [Array.getElem?_modify, if_pos rfl, hr]
  rfl
/-- the ring buffer holds a row -/
def RingQ (w : World) (R : Nat) (q : List Int) : Prop := ∃ (p : Nat → Int) (h : Nat), h < 8 ∧ q.length ≤ 8 ∧ (∀ i, i < q.length → p ((h + i) % 8) = Z q i) ∧ RingC w R p h q.length
theorem RingQ.congr {w w' : World} {R : Nat} {q : List Int} (hr : RingQ w R q) (h : w'.heap[R]? = w.heap[R]?) : RingQ w' R q := by
  obtain ⟨p, hd, h1, h2, h3, h4⟩ := hr
  exact ⟨p, hd, h1, h2, h3, by unfold RingC at h4 ⊢; rw [h, h4]⟩
theorem RingQ.new (w : World) : RingQ (w.alloc (.cells #[.int .i64 0, .int .i64 0, .int .i64 0, .int .i64 0, .int .i64 0, .int .i64 0, .int .i64 0, .int .i64 0, .int .i64 0, .int .i64 0] 85)) w.heap.size [] :=
  ⟨fun _ => 0, 0, by omega, by simp, fun i hi => by simp at hi, heap_alloc_new _ _⟩
theorem RingQ.obj {w : World} {R : Nat} {q : List Int} (hr : RingQ w R q) : ∃ o : Obj, w.heap[R]? = some o ∧ o.isCells = true := by
  obtain ⟨p, hd, h1, h2, h3, h4⟩ := hr
  exact ⟨_, h4, rfl⟩

set_option maxRecDepth 4000 in
set_option maxHeartbeats 2000000 in
theorem c_goBehind (q : List Int) (x : Int) (R : Nat) (w : World) (hr : RingQ w R q) (hl : q.length < 8) :
    Calls Try.prog 64 #[.pointer (some ⟨R, 0, none⟩), .int .i64 x] w fun e w' => (∃ v, e = .returned v) ∧ RingQ w' R (q ++ [x]) ∧ w.grownBy w' (some R) := by
  obtain ⟨p, h, h1, h2, h3, h4⟩ := hr
  obtain ⟨k, hk⟩ : ∃ k, (h + q.length) % 8 = k := ⟨_, rfl⟩
  have hk8 : k < 8 := by omega
  have q1 : IntKind.i64.wrap ((h : Int) + (q.length : Int)) = (h : Int) + (q.length : Int) := IntWalk.i64_in _ (by omega)
  have q2 : IntKind.i64.wrap ((q.length : Int) + 1) = (q.length : Int) + 1 := IntWalk.i64_in _ (by omega)
  have q3 : ((h : Int) + (q.length : Int)).tmod 8 = (k : Int) := by rw [Int.tmod_eq_emod_of_nonneg (by omega)]; omega
  have q4 : (0 : Int) ≤ (k : Int) := by omega
  have q5 : (k : Int) < 8 := by omega
  have hRs : R < w.heap.size := (Array.getElem?_eq_some_iff.1 h4).1
  have cs8 := WB.cell (B := w.heap.size) (w := w) (b := R) (o := 8) (v := .int .i64 (h : Int)) hRs h4.head
  have cs9 := WB.cell (B := w.heap.size) (w := w) (b := R) (o := 9) (v := .int .i64 (q.length : Int)) hRs h4.many
  have FIN : Hid (∀ w6, Below w.heap.size w w6 → ∃ w7, w6.setCell ⟨R, k, none⟩ (.int .i64 x) = w7 ∧ w6.cell? ⟨R, k, none⟩ = some (.int .i64 (p k)) ∧ w6.frozen? ⟨R, k, none⟩ = false ∧ w7.cell? ⟨R, 9, none⟩ = some (.int .i64 (q.length : Int)) ∧ w7.frozen? ⟨R, 9, none⟩ = false ∧
      RingQ (w7.setCell ⟨R, 9, none⟩ (.int .i64 ((q.length : Int) + 1))) R (q ++ [x]) ∧ w.grownBy (w7.setCell ⟨R, 9, none⟩ (.int .i64 ((q.length : Int) + 1))) (some R)) := by
    intro w6 hb6
    have h46 : RingC w6 R p h q.length := (hb6.block R hRs).trans h4
    have h5 := h46.setP k hk8 x
    refine ⟨_, rfl, h46.place k hk8, h46.frozen k, h5.many, h5.frozen 9, ⟨_, h, h1, by simp; omega, fun i hi => ?_, by rw [show ((q ++ [x]).length : Int) = (q.length : Int) + 1 by simp]; exact h5.setM _⟩, ((grown_below (row := some R) hb6 (Nat.le_refl _)).trans (grown_set w6 R k _)).trans (grown_set _ R 9 _)⟩
    simp only [List.length_append, List.length_singleton] at hi
    by_cases hiq : i < q.length
    · show (if (h + i) % 8 = k then x else p ((h + i) % 8)) = Z (q ++ [x]) i
      rw [if_neg (by omega), h3 i hiq]
      simp only [Z, List.getD_eq_getElem?_getD, List.getElem?_append_left hiq]
    · obtain rfl : i = q.length := by omega
      show (if (h + q.length) % 8 = k then x else p ((h + q.length) % 8)) = Z (q ++ [x]) q.length
      rw [if_pos hk]
      simp [Z, List.getD_eq_getElem?_getD]
  clear h3 h4 hk
  go_enter Try.func64, Try.ntmps64
  go_wp2_with fail
  refine wp_region_wb_tail w.heap.size 15 (by kernel_rfl) (by kernel_rfl) ?_
  simp only [List.take_succ_cons, List.take_zero, List.drop_succ_cons, List.drop_zero]
  repeat (go_big_quiet_step (fail))
  refine wpQuiet_nil ?_
  rintro w6 ⟨⟨_, hb6⟩, rfl⟩
  obtain ⟨w7, hw7, ck, fk, d9, f9, hq, hg⟩ := FIN.out _ hb6
  have HQ := Lib.hid (And.intro hq hg)
  clear hq hg cs8 cs9 hb6
  go_wp2_with fail
  go_end0
  exact ⟨⟨_, rfl⟩, HQ.out.1, HQ.out.2⟩

set_option maxRecDepth 4000 in
set_option maxHeartbeats 2000000 in
theorem c_takeHead (q : List Int) (R : Nat) (w : World) (hr : RingQ w R q) :
    Calls Try.prog 65 #[.pointer (some ⟨R, 0, none⟩)] w fun e w' => e = .returned (.int .i64 (q.headD (-1))) ∧ RingQ w' R q.tail ∧ w.grownBy w' (some R) := by
  cases q with
  | nil =>
    have HR := Lib.hid hr
    obtain ⟨p, h, h1, h2, h3, h4⟩ := hr
    have c9 : w.cell? ⟨R, 9, none⟩ = some (.int .i64 0) := h4.many
    clear h3 h4
    go_enter Try.func65, Try.ntmps65
    go_wp2_with fail
    go_ret
    exact ⟨rfl, HR.out, World.grownBy.refl _ _⟩
  | cons x q =>
    obtain ⟨p, h, h1, h2, h3, h4⟩ := hr
    have hm : ((x :: q).length : Int) = (q.length : Int) + 1 := by simp
    rw [hm] at h4
    have h20 : q.length ≤ 7 := by simpa using h2
    have hp0 : p h = x := by have := h3 0 (by simp); rw [Nat.add_zero, Nat.mod_eq_of_lt h1] at this; simpa [Z] using this
    obtain ⟨k, hk⟩ : ∃ k, (h + 1) % 8 = k := ⟨_, rfl⟩
    have hk8 : k < 8 := by omega
    have q1 : IntKind.i64.wrap ((h : Int) + 1) = (h : Int) + 1 := IntWalk.i64_in _ (by omega)
    have q2 : IntKind.i64.wrap ((q.length : Int) + 1 - 1) = (q.length : Int) := by rw [show (q.length : Int) + 1 - 1 = (q.length : Int) by omega]; exact IntWalk.i64_in _ (by omega)
    have q2' : IntKind.i64.wrap (q.length : Int) = (q.length : Int) := IntWalk.i64_in _ (by omega)
    have q3 : ((h : Int) + 1).tmod 8 = (k : Int) := by rw [Int.tmod_eq_emod_of_nonneg (by omega)]; omega
    have q4 : (0 : Int) ≤ (h : Int) := by omega
    have q5 : (h : Int) < 8 := by omega
    have q6 : ((q.length : Int) + 1 == 0) = false := beq_eq_false_iff_ne.2 (by omega)
    have hRs : R < w.heap.size := (Array.getElem?_eq_some_iff.1 h4).1
    have cs8 := WB.cell (B := w.heap.size) (w := w) (b := R) (o := 8) (v := .int .i64 (h : Int)) hRs h4.head
    have csh := WB.cell (B := w.heap.size) (w := w) (b := R) (o := h) (v := .int .i64 x) hRs (by rw [h4.place h h1, hp0])
    have c9 : w.cell? ⟨R, 9, none⟩ = some (.int .i64 ((q.length : Int) + 1)) := h4.many
    have FIN : Hid (∀ w6, Below w.heap.size w w6 → ∃ w7, w6.setCell ⟨R, 8, none⟩ (.int .i64 (k : Int)) = w7 ∧ w6.cell? ⟨R, 8, none⟩ = some (.int .i64 (h : Int)) ∧ w6.frozen? ⟨R, 8, none⟩ = false ∧ w7.cell? ⟨R, 9, none⟩ = some (.int .i64 ((q.length : Int) + 1)) ∧ w7.frozen? ⟨R, 9, none⟩ = false ∧
        RingQ (w7.setCell ⟨R, 9, none⟩ (.int .i64 (q.length : Int))) R q ∧ w.grownBy (w7.setCell ⟨R, 9, none⟩ (.int .i64 (q.length : Int))) (some R)) := by
      intro w6 hb6
      have h46 : RingC w6 R p h ((q.length : Int) + 1) := (hb6.block R hRs).trans h4
      have h5 := h46.setH (k : Int)
      refine ⟨_, rfl, h46.head, h46.frozen 8, h5.many, h5.frozen 9, ⟨p, k, hk8, by omega, fun i hi => ?_, h5.setM _⟩, ((grown_below (row := some R) hb6 (Nat.le_refl _)).trans (grown_set w6 R 8 _)).trans (grown_set _ R 9 _)⟩
      have := h3 (i + 1) (by simp; omega)
      rw [show (k + i) % 8 = (h + (i + 1)) % 8 by omega, this]
      simp [Z]
    clear h3 h4 hk hm
    go_enter Try.func65, Try.ntmps65
    go_wp2_with fail
    refine wp_region_wb w.heap.size (by kernel_rfl) (by kernel_rfl) ?_
    repeat (go_big_quiet_step (fail))
    refine wpQuiet_nil ?_
    rintro w6 ⟨⟨_, hb6⟩, rfl⟩
    obtain ⟨w7, hw7, c8, f8, d9, f9, hq, hg⟩ := FIN.out _ hb6
    have HQ := Lib.hid (And.intro hq hg)
    clear hq hg cs8 csh c9 hb6
    go_wp2_with fail
    go_ret
    exact ⟨rfl, HQ.out.1, HQ.out.2⟩

set_option maxHeartbeats 1000000 in
theorem c_needsMore (lf : List Int) (G : Option Addr) (BG g : Nat) (who : Int) (w : World) (hG : Is w BG G lf) (hr : who = -1 ∨ ∃ p : Nat, who = p ∧ p < lf.length) (hn : lf.length ≤ 1000000) :
    Calls Try.prog 63 #[.slice G lf.length g, .int .i64 who] w fun e w' => e = .returned (.bool (decide (0 ≤ who ∧ 0 < Z lf who.toNat))) ∧ w = w' := by
  rcases hr with rfl | ⟨p, rfl, hp⟩
  · go_enter Try.func63, Try.ntmps63
    go_wp2_with fail
    go_ret
    exact ⟨rfl, rfl⟩
  · obtain ⟨gb, go, rfl, -, hgc⟩ := hG (by omega)
    have c0 := hgc p hp
    have p1 : (0 : Int) ≤ (p : Int) := by omega
    have p2 : (p : Int) < (lf.length : Int) := by omega
    have p3 : ((p : Int) != -1) = true := bne_iff_ne.2 (by omega)
    have HV := Lib.hid (show decide (0 ≤ (p : Int) ∧ 0 < Z lf ((p : Int)).toNat) = decide (0 < Z lf p) by rw [Int.toNat_natCast]; exact decide_eq_decide.2 ⟨fun h => h.2, fun h => ⟨by omega, h⟩⟩)
    clear hgc
    go_enter Try.func63, Try.ntmps63
    go_wp2_with fail
    go_ret
    exact ⟨by rw [HV.out]; rfl, rfl⟩

theorem rr_any {L : List (Int × Int)} (hc : cOk L = true) {T : Nat} (hT : lastLeave L = T) (t : Nat) : (!noneLeft (rrLf L t) (rrLf L t).length) = decide (t < T) := by
  obtain ⟨inv, -, -⟩ := rr_inv hc t
  by_cases h : t < T
  · rw [decide_eq_true h]
    cases hn : noneLeft (rrLf L t) (rrLf L t).length with
    | false => rfl
    | true =>
      have ok := ordOk_parts (rr_ok hc hT)
      rw [rrO_len] at ok
      have d := done_late hc (n := t) (unitsOk_le ok.2.2.1 (by omega)) fun k hk => by
        rw [rr_left T (by omega)]
        exact noneLeft_at _ hn k (by rw [inv.len]; exact hk)
      omega
  · rw [decide_eq_false h]
    rw [noneLeft_of _ fun k hk => by rw [OI.end hc (T := t) (by omega) inv (by rw [inv.len] at hk; exact hk)]; exact Int.le_refl _]
    rfl
theorem rowK_early {L : List (Int × Int)} {t : Nat} : ∀ {j : Nat}, (∀ k, k < j → X L k < (t : Int)) → rowK L t j = rowK L t 0 := by
  intro j
  induction j with
  | zero => intro _; rfl
  | succ j ih => intro h; rw [rowK_no (by have := h j (by omega); omega), ih fun k hk => h k (by omega)]
theorem rowK_late {L : List (Int × Int)} {t j : Nat} (d : Nat) (h : ∀ k, j ≤ k → k < j + d → (t : Int) < X L k) : rowK L t (j + d) = rowK L t j := by
  induction d with
  | zero => rfl
  | succ d ih => rw [← Nat.add_assoc, rowK_no (by have := h (j + d) (by omega) (by omega); omega), ih fun k h1 h2 => h k h1 (by omega)]
theorem rowK_le {L : List (Int × Int)} {t j : Nat} (d : Nat) : (rowK L t j).length ≤ (rowK L t (j + d)).length := by
  induction d with
  | zero => exact Nat.le_refl _
  | succ d ih =>
    by_cases h : X L (j + d) = t
    · rw [← Nat.add_assoc, rowK_yes h]; simp; omega
    · rw [← Nat.add_assoc, rowK_no h]; exact ih
theorem rowK_lt {L : List (Int × Int)} (hc : cOk L = true) {t j : Nat} (hj : j < L.length) (h : X L j = t) : (rowK L t j).length < 8 := by
  have a := rowK_le (L := L) (t := t) (j := j + 1) (L.length - (j + 1))
  rw [show j + 1 + (L.length - (j + 1)) = L.length by omega, rowK_all, rowK_yes h] at a
  have b := rrQ_len hc t
  simp at a; omega
theorem row_lt {L : List (Int × Int)} (hc : cOk L = true) {t : Nat} {b : Int} (e : rrB L t = b) (h : 0 ≤ b ∧ 0 < Z (rrLf L t) b.toNat) : (rrRow L t).length < 8 := by
  have a := rowK_le (L := L) (t := t) (j := 0) L.length
  rw [Nat.zero_add, rowK_all, rowK_zero e h] at a
  have b := rrQ_len hc t
  simp at a; omega

end Go.Proofs.Ytecoefjkobpbgaa

