/- impl.LastLeave -/
import Derived.Test.YtecoefjkobpbgaaR
namespace Go.Proofs.Ytecoefjkobpbgaa
set_option linter.unusedVariables false
open Go.RowKit Go.Shelf
attribute [local go_sem] Oper.semAt_some

/-- the pair (the greatest number, what is needed) behind the places in pre -/
def foldB (L : List (Int × Int)) (pre : List Nat) : Int × Int := pre.foldl (fun s x => (max s.1 (X L x + (s.2 + Y L x)), s.2 + Y L x)) (0, 0)
theorem foldB_snoc (L : List (Int × Int)) (pre : List Nat) (x : Nat) : foldB L (pre ++ [x]) = (max (foldB L pre).1 (X L x + ((foldB L pre).2 + Y L x)), (foldB L pre).2 + Y L x) := by simp [foldB]
theorem foldB_bd {L : List (Int × Int)} (h : cOk L = true) : ∀ (pre : List Nat), (∀ x ∈ pre, x < L.length) → 0 ≤ (foldB L pre).1 ∧ (foldB L pre).1 ≤ 60 + 9 * pre.length ∧ 0 ≤ (foldB L pre).2 ∧ (foldB L pre).2 ≤ 9 * pre.length := by
  have key : ∀ n, ∀ pre : List Nat, pre.length = n → (∀ x ∈ pre, x < L.length) → 0 ≤ (foldB L pre).1 ∧ (foldB L pre).1 ≤ 60 + 9 * pre.length ∧ 0 ≤ (foldB L pre).2 ∧ (foldB L pre).2 ≤ 9 * pre.length := by
    intro n
    induction n with
    | zero =>
      intro pre hp _
      rw [List.eq_nil_of_length_eq_zero hp]
      simp [foldB]
    | succ n ih =>
      intro pre hp hx
      rcases List.eq_nil_or_concat pre with rfl | ⟨pre', x, rfl⟩
      · simp at hp
      · rw [List.concat_eq_append] at hp hx ⊢
        have i := ih pre' (by simpa using hp) (fun y hy => hx y (by simp [hy]))
        have b := cOk_bd h (hx x (by simp))
        rw [foldB_snoc]
        simp only [List.length_append, List.length_cons, List.length_nil]
        omega
  exact fun pre => key _ pre rfl
theorem foldB_down {L : List (Int × Int)} : ∀ k, k ≤ L.length → foldB L (downTo L.length k) = (bestB L k, sumB L k) := by
  intro k
  induction k with
  | zero => intro _; rfl
  | succ k ih => intro hk; rw [downTo_succ, foldB_snoc, ih (by omega)]; rfl

set_option maxRecDepth 100000 in
set_option maxHeartbeats 4000000 in
theorem c_iLastLeave (L : List (Int × Int)) (A : Option Addr) (c : Nat) (w : World) (hA : Cs w w.heap.size A L) (hn : L.length ≤ 140737488351232) :
    Calls Try.prog 28 #[.slice A L.length c] w fun e w' => e = .returned (.int .i64 (lastLeave L)) ∧ Below w.heap.size w w' := by
  by_cases h : cOk L = true
  · have Hll := Lib.hid (lastLeave_yes h)
    have Hbd := Lib.hid (foldB_bd h)
    have Hcb := Lib.hid (fun k => @cOk_bd L k h)
    have hlen := cOk_len h
    have H := Lib.hid h; clear h
    refine (callsIn_wide (n := 6)).1 ?_
    refine callsIn_of_wp_marks Try.func28 rfl trivial ?_ rfl
    simp only [Try.ntmps28, List.size_toArray, List.length_cons, List.length_nil, Nat.reduceAdd, Nat.reduceSub, Array.replicate_succ, Array.replicate_zero, List.push_toArray, List.append_toArray, List.nil_append, List.cons_append]
    gi_wp2_with (refine ⟨trivial, ?_⟩; gi_at_call 27; refine (callsIn_wide.2 (c_iCustomersOk L A c _ hA hn)).mono ?_; rw [H.out]; rintro e w1 ⟨rfl, hb1⟩)
    gi_wp2_with (refine ⟨trivial, ?_⟩; gi_at_call 56; refine (backward_in _ _ trivial rfl _ _ _ _).mono ?_; rintro e w' ⟨rfl, rfl⟩)
    have hs1 := hb1.size
    have bL := ((Boxed.new w1 3 (.int .i64 0)).alloc (.cells #[.int .i64 0] 3)).alloc (.cells #[.slice A L.length c] 23)
    have bN := (Boxed.new (w1.alloc (.cells #[.int .i64 0] 3)) 3 (.int .i64 0)).alloc (.cells #[.slice A L.length c] 23)
    have bX := heap_alloc_new ((w1.alloc (.cells #[.int .i64 0] 3)).alloc (.cells #[.int .i64 0] 3)) (.cells #[.slice A L.length c] 23)
    simp only [World.size_alloc] at bN bX
    have hB0 : Below w.heap.size w (((w1.alloc (.cells #[.int .i64 0] 3)).alloc (.cells #[.int .i64 0] 3)).alloc (.cells #[.slice A L.length c] 23)) := ((hb1.alloc hs1 _).alloc (by simp; omega) _).alloc (by simp; omega) _
    have hsz : (((w1.alloc (.cells #[.int .i64 0] 3)).alloc (.cells #[.int .i64 0] 3)).alloc (.cells #[.slice A L.length c] 23)).heap.size = w1.heap.size + 3 := by simp
    obtain ⟨W0, hW0⟩ : ∃ W0, ((w1.alloc (.cells #[.int .i64 0] 3)).alloc (.cells #[.int .i64 0] 3)).alloc (.cells #[.slice A L.length c] 23) = W0 := ⟨_, rfl⟩
    rw [hW0] at bL bN bX hB0 hsz ⊢
    clear hW0 hb1
    refine wpIn_rangeFunc_ownH rfl (by omega) (gf := 71) (lb := #[.pointer (some ⟨w1.heap.size + 1 + 1, 0, none⟩)]) rfl trivial (enters_of Try.func71 (by kernel_rfl) rfl)
      (backward_stops Fence.wide _ trivial rfl (by omega) (w1.heap.size + 1 + 1) w.heap.size c A L hn W0 (by omega) bX (hA.below hB0)) Kpt.t (Kpt.b (by omega) (by omega)) (Below.refl _ _) (fun _ => rfl)
      (fun pre W => (Boxed W w1.heap.size 3 (.int .i64 (foldB L (pre.map Fin.val)).1) ∧ Boxed W (w1.heap.size + 1) 3 (.int .i64 (foldB L (pre.map Fin.val)).2)) ∧ (Below w.heap.size w W ∧ W0.heap.size ≤ W.heap.size))
      (fun _ _ _ => False)
      (OwnFrom.and (OwnFrom.and (Own.from (boxed_own _ _ _) _) (Own.from (boxed_own _ _ _) _)) (OwnFrom.and (ownFrom_below (Nat.le_refl _) (by omega)) (fun s A B row hs hg hr => Nat.le_trans hs hg.size)))
      (fun _ _ _ _ _ hs _ _ => hs)
      ⟨⟨bL, bN⟩, hB0, Nat.le_refl _⟩
      (fun x a' W => ∃ Bx, w1.heap.size + 1 < Bx ∧ (W.cell? ⟨Bx, 0, none⟩ = some (.int .i64 (X L x.1)) ∧ W.cell? ⟨Bx, 1, none⟩ = some (.int .i64 (Y L x.1))) ∧ a' = { tmps := #[.slice A L.length c, undef, .int .i64 0, .pointer (some ⟨w1.heap.size, 0, none⟩), .pointer (some ⟨w1.heap.size + 1, 0, none⟩), undef, .pointer (some ⟨Bx, 0, none⟩), .slice A L.length c, .bool true, .bool false, .slice A L.length c, .func (.func 71) #[] #[.pointer (some ⟨w1.heap.size + 1 + 1, 0, none⟩)], .int .i64 (x.1 : Int), .agg #[.int .i64 (X L x.1), .int .i64 (Y L x.1)], undef, undef, undef, undef, undef, undef, undef, undef, undef, undef, undef], defers := [] })
      (fun x a' _ P Q row hs hg hr => by obtain ⟨Bx, h1, ⟨h2, h3⟩, h4⟩ := hs; exact ⟨Bx, h1, ⟨cell_kept h2 hg (fun r e => (hr r e).2), cell_kept h3 hg (fun r e => (hr r e).2)⟩, h4⟩)
      ?assign ?body ?done ?stop
    case assign =>
      rintro l pre x W K ⟨⟨bL1, bN1⟩, hB1, hZ⟩ hK
      gi_wp2
      have hz := heap_alloc_new W (.cells #[.int .i64 (X L x.1), .int .i64 (Y L x.1)] 37)
      have hq := fun o => cell_of_row _ W.heap.size o _ _ _ hz
      exact hK _ _ ((KeepsOthers.alloc _ _).from _) ⟨(Below.refl _ W).alloc hB1.size _, Below.heap_alloc _ _ _ (by omega)⟩ ⟨⟨bL1.alloc _, bN1.alloc _⟩, hB1.alloc hB1.size _, by simp; omega⟩ ⟨W.heap.size, bN1.lt, ⟨hq 0, hq 1⟩, rfl⟩
    case body =>
      rintro l pre x a' W hl ⟨r, hr⟩ ⟨⟨bL1, bN1⟩, hB1, hZ⟩ ⟨Bx, hBx, ⟨cX, cY⟩, rfl⟩ hlt
      have cL := bL1.cell
      have fL := bL1.frozen
      have cN := bN1.cell
      have fN := bN1.frozen
      have hbx := Hcb.out x.1 x.2
      have hbf := Hbd.out (pre.map Fin.val) (by intro y hy; obtain ⟨z, _, rfl⟩ := List.mem_map.1 hy; exact z.2)
      have HS := Lib.hid (foldB_snoc L (pre.map Fin.val) x.1)
      rw [List.length_map] at hbf
      obtain ⟨f1, f2, f3, f4⟩ := hbf
      obtain ⟨x1, x2, x3, x4⟩ := hbx
      generalize (foldB L (List.map Fin.val pre)).1 = m1 at *
      generalize (foldB L (List.map Fin.val pre)).2 = m2 at *
      have hs : ∀ (v1 v2 : Int), v2 = m2 + Y L x.1 → v1 = max m1 (X L x.1 + (m2 + Y L x.1)) →
          ((KeepsFrom (w1.heap.size + 3) W ((W.setCell ⟨w1.heap.size + 1, 0, none⟩ (.int .i64 v2)).setCell ⟨w1.heap.size, 0, none⟩ (.int .i64 v1))) ∧
          Kpt w.heap.size (w1.heap.size + 1 + 1) W ((W.setCell ⟨w1.heap.size + 1, 0, none⟩ (.int .i64 v2)).setCell ⟨w1.heap.size, 0, none⟩ (.int .i64 v1)) ∧
          ((Boxed ((W.setCell ⟨w1.heap.size + 1, 0, none⟩ (.int .i64 v2)).setCell ⟨w1.heap.size, 0, none⟩ (.int .i64 v1)) w1.heap.size 3 (.int .i64 (foldB L ((pre ++ [x]).map Fin.val)).1) ∧
            Boxed ((W.setCell ⟨w1.heap.size + 1, 0, none⟩ (.int .i64 v2)).setCell ⟨w1.heap.size, 0, none⟩ (.int .i64 v1)) (w1.heap.size + 1) 3 (.int .i64 (foldB L ((pre ++ [x]).map Fin.val)).2)) ∧
            (Below w.heap.size w ((W.setCell ⟨w1.heap.size + 1, 0, none⟩ (.int .i64 v2)).setCell ⟨w1.heap.size, 0, none⟩ (.int .i64 v1)) ∧ w1.heap.size + 3 ≤ ((W.setCell ⟨w1.heap.size + 1, 0, none⟩ (.int .i64 v2)).setCell ⟨w1.heap.size, 0, none⟩ (.int .i64 v1)).heap.size))) := by
        intro v1 v2 e2 e1
        subst e1 e2
        refine ⟨((KeepsOthers.setCell _ _ _).trans (KeepsOthers.setCell _ _ _)).from _, ⟨?_, ?_⟩, ⟨?_, ?_⟩, ?_, ?_⟩
        · exact ((Below.refl _ W).setCell (p := ⟨w1.heap.size + 1, 0, none⟩) (by simp; omega) _).setCell (p := ⟨w1.heap.size, 0, none⟩) hs1 _
        · exact (Below.heap_setCell _ _ _ _ (show w1.heap.size + 1 + 1 ≠ w1.heap.size by omega)).trans (Below.heap_setCell _ _ _ _ (show w1.heap.size + 1 + 1 ≠ w1.heap.size + 1 by omega))
        · rw [List.map_append, List.map_cons, List.map_nil, HS.out]
          exact (bL1.other (by omega) _).set _
        · rw [List.map_append, List.map_cons, List.map_nil, HS.out]
          exact (bN1.set _).other (by omega) _
        · exact (hB1.setCell (p := ⟨w1.heap.size + 1, 0, none⟩) (by simp; omega) _).setCell (p := ⟨w1.heap.size, 0, none⟩) hs1 _
        · simp [World.setCell]; omega
      have HSS := Lib.hid hs; clear hs
      rw [hsz] at *
      gi_wp2
      · exact HSS.out _ _ rfl (by omega)
      · exact HSS.out _ _ rfl (by omega)
    case done =>
      rintro D ys W hD hys ⟨⟨bL1, bN1⟩, hB1, hZ⟩ hK
      have cL := bL1.cell
      gi_wp2
      refine ⟨by simp, .inl ⟨_, _, rfl, run_takeDeferred hK, ?_⟩⟩
      refine ⟨_, results_tmp rfl _ _ _, ?_, hB1.trans (belowK_b (w := w) (Nat.le_refl _) W D _ _ (by omega) hK rfl rfl)⟩
      rw [Hll.out]
      exact congrArg (fun p : Int × Int => Ending.returned (.int .i64 p.1)) (foldB_down L.length (Nat.le_refl _))
    case stop =>
      rintro D c pre W _ _ h _
      exact h.elim
  · have hno : cOk L = false := by simpa using h
    have H := Lib.hid hno; clear h hno
    go_enter Try.func28, Try.ntmps28
    go_wp2_with fail
    refine (c_iCustomersOk L A c _ hA hn).mono ?_
    rintro e w1 ⟨rfl, hb1⟩
    rw [H.out]
    go_wp2_with fail
    go_ret
    exact ⟨by rw [lastLeave_no H.out]; rfl, hb1⟩

end Go.Proofs.Ytecoefjkobpbgaa

