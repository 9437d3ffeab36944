/- impl.WorkAt, by a range over the function of XN1. -/
import Derived.Test.YtjjncpimelpfiaaN1
import Derived.Test.YtjjncpimelpfiaaR2
namespace Go.Proofs.Ytjjncpimelpfiaa
set_option linter.unusedVariables false
open Go.RowKit Go.Shelf
attribute [local go_sem] Oper.semAt_some

set_option maxHeartbeats 1000000 in
theorem workFrom0_in (F : Fence) (n : Nat) (h56 : F.fn 43) (hro : F.round = none) (A : Option Addr) (len cap : Nat) (w : World) :
    CallsIn F n Try.prog 43 #[.slice A len cap] w fun e w' => e = .returned (.func (.func 61) #[] #[.pointer (some ⟨w.heap.size, 0, none⟩)]) ∧ w' = w.alloc (.cells #[.slice A len cap] 23) := by
  refine callsIn_of_wp Try.func43 rfl h56 ?_ hro
  simp only [Try.ntmps43, List.size_toArray, List.length_cons, List.length_nil, Nat.reduceAdd, Nat.reduceSub, Array.replicate_succ, Array.replicate_zero, List.push_toArray, List.append_toArray, List.nil_append, List.cons_append]
  gi_wp2
  go_ret
  exact ⟨rfl, rfl⟩

theorem workFrom0_stops (F : Fence) (n : Nat) (h58 : F.fn 61) (hro : F.round = none) (hn : 1 ≤ n) (Bl B cap : Nat) (A : Option Addr) (L : List (Int × Int)) (hok : cOk L = true) (w : World) (hB : B ≤ w.heap.size)
    (hBl : w.heap[Bl]? = some (.cells #[.slice A L.length cap] 23 (0, 0))) (hc : Cs w B A L) :
    SeqStopsK F n Try.prog 61 #[.pointer (some ⟨Bl, 0, none⟩)] (fun x : Fin 201 => #[Value.int .i64 (x.1 : Int), .int .i64 (wk L x.1)]) (Kpt B Bl)
      (fun ys => ys.map Fin.val = List.range 201) (fun pre => ∃ k, pre.map Fin.val = List.range (k + 1)) 201 w := fun l J Jx W hW _ _ hY h0 => by
  have h1 : Bl < w.heap.size := (Array.getElem?_eq_some_iff.1 hBl).1
  exact workFrom1_in F n h58 hro hn l Bl B cap A L hok J Jx W hY ((hW.block Bl h1).trans hBl) (hc.below (hW.mono hB)) h0

theorem momentOk_no {L : List (Int × Int)} {t : Int} (h : cOk L = false) : momentOk L t = false := by simp [momentOk, h]
theorem workV_at {L : List (Int × Int)} (h : cOk L = true) (x : Fin 201) : workV L (x.1 : Int) = wk L x.1 := by
  have hx := x.2
  rw [workV_yes (by simp [momentOk, h]; omega)]; simp
theorem workV_out {L : List (Int × Int)} {t : Int} {ys : List (Fin 201)} (hy : ys.map Fin.val = List.range 201) (h : ∀ x ∈ ys, (x.1 : Int) ≠ t) : workV L t = -1 := by
  refine workV_no ?_
  refine Bool.eq_false_iff.2 fun hm => ?_
  obtain ⟨n, rfl, hn, -⟩ := momentOk_nat hm
  have hmem : n ∈ ys.map Fin.val := by rw [hy]; exact List.mem_range.2 (by omega)
  obtain ⟨x, hx, e⟩ := List.mem_map.1 hmem
  exact h x hx (by rw [e])

set_option maxRecDepth 100000 in
set_option maxHeartbeats 4000000 in
theorem c_iWorkAt (L : List (Int × Int)) (A : Option Addr) (c : Nat) (t : Int) (w : World) (hA : Cs w w.heap.size A L) (hn : L.length ≤ 140737488351232) :
    Calls Try.prog 12 #[.slice A L.length c, .int .i64 t] w fun e w' => e = .returned (.int .i64 (workV L t)) ∧ Below w.heap.size w w' := by
  have hb0 : Below w.heap.size w ((w.alloc (.cells #[.int .i64 t] 3)).alloc (.cells #[.int .i64 0] 3)) := by (repeat (first | exact rfl | exact Below.refl _ _ | (with_reducible refine Below.drew ?_) | (with_reducible refine Below.drewN ?_ _) | (with_reducible refine Below.alloc ?_ ?_ _) | (with_reducible refine Below.setCell ?_ ?_ _) | (show _ ≤ _; focus (first | omega | (simp; done) | (simp; omega)))))
  by_cases h : cOk L = true
  · have H := Lib.hid h; clear h
    refine (callsIn_wide (n := 6)).1 ?_
    refine callsIn_of_wp_marks Try.func12 rfl trivial ?_ rfl
    simp only [Try.ntmps12, List.size_toArray, List.length_cons, List.length_nil, Nat.reduceAdd, Nat.reduceSub, Array.replicate_succ, Array.replicate_zero, List.push_toArray, List.append_toArray, List.nil_append, List.cons_append]
    gi_wp2_with (refine ⟨trivial, ?_⟩; gi_at_call 22; refine (callsIn_wide.2 (c_iCustomersOk L A c _ ((hA.below hb0).more hb0.size) hn)).mono ?_; rw [H.out]; rintro e w1 ⟨rfl, hb1⟩)
    have bT := ((Boxed.new w 3 (.int .i64 t)).alloc (.cells #[.int .i64 0] 3))
    have bR := Boxed.new (w.alloc (.cells #[.int .i64 t] 3)) 3 (.int .i64 0)
    simp only [World.size_alloc] at bR
    have hbs := hb1.size
    simp only [World.size_alloc] at hbs
    have bT1 : Boxed w1 w.heap.size 3 (.int .i64 t) := (hb1.block _ (by simp; omega)).trans bT
    have bR1 : Boxed w1 (w.heap.size + 1) 3 (.int .i64 0) := (hb1.block _ (by simp)).trans bR
    have hbx := hb0.trans (hb1.mono (by simp; omega))
    clear bT bR hb1 hb0
    gi_wp2_with (refine ⟨trivial, ?_⟩; gi_at_call 43; refine (workFrom0_in _ _ trivial rfl _ _ _ _).mono ?_; rintro e w' ⟨rfl, rfl⟩)
    obtain ⟨W0, hW0⟩ : ∃ W0, w1.alloc (.cells #[.slice A L.length c] 23) = W0 := ⟨_, rfl⟩
    have bT0 := bT1.alloc (.cells #[.slice A L.length c] 23)
    have bR0 := bR1.alloc (.cells #[.slice A L.length c] 23)
    have bL0 := heap_alloc_new w1 (.cells #[.slice A L.length c] 23)
    have hB0 : Below w.heap.size w (w1.alloc (.cells #[.slice A L.length c] 23)) := hbx.alloc (by omega) _
    have hsz : (w1.alloc (.cells #[.slice A L.length c] 23)).heap.size = w1.heap.size + 1 := by simp
    rw [hW0] at bT0 bR0 bL0 hB0 hsz ⊢
    clear hW0 bT1 bR1 hbx
    refine wpIn_rangeFunc_ownH rfl (by omega) (gf := 61) (lb := #[.pointer (some ⟨w1.heap.size, 0, none⟩)]) rfl trivial (enters_of Try.func61 (by kernel_rfl) rfl)
      (workFrom0_stops Fence.wide _ trivial rfl (by omega) w1.heap.size w.heap.size c A L H.out W0 (by omega) bL0 (hA.below hB0)) Kpt.t (Kpt.b (by omega) (by omega)) (Below.refl _ _) (fun _ => rfl)
      (fun pre W => ((∀ x ∈ pre, (x.1 : Int) ≠ t) ∧ (Boxed W w.heap.size 3 (.int .i64 t) ∧ Boxed W (w.heap.size + 1) 3 (.int .i64 0))) ∧ (Below w.heap.size w W ∧ W0.heap.size ≤ W.heap.size))
      (fun cd pre W => ((cd = .ret ∧ ∃ x ∈ pre, (x.1 : Int) = t) ∧ Boxed W (w.heap.size + 1) 3 (.int .i64 (workV L t))) ∧ Below w.heap.size w W)
      (OwnFrom.and (OwnFrom.and (fun _ _ _ _ hs _ _ => hs) (OwnFrom.and (Own.from (boxed_own _ _ _) _) (Own.from (boxed_own _ _ _) _))) (OwnFrom.and (ownFrom_below (Nat.le_refl _) (by omega)) (fun s A B row hs hg hr => Nat.le_trans hs hg.size)))
      (fun _ => OwnFrom.and (OwnFrom.and (fun _ _ _ _ hs _ _ => hs) (Own.from (boxed_own _ _ _) _)) (ownFrom_below (Nat.le_refl _) (by omega)))
      ⟨⟨(fun x hx => by cases hx), bT0, bR0⟩, hB0, Nat.le_refl _⟩
      (fun x a' W => a' = { tmps := #[.slice A L.length c, .int .i64 t, undef, .pointer (some ⟨w.heap.size, 0, none⟩), .pointer (some ⟨w.heap.size + 1, 0, none⟩), .int .i64 (x.1 : Int), .int .i64 (wk L x.1), .slice A L.length c, .bool true, .bool false, .slice A L.length c, .func (.func 61) #[] #[.pointer (some ⟨w1.heap.size, 0, none⟩)], .int .i64 (x.1 : Int), .int .i64 (wk L x.1), undef, undef, undef, undef], defers := [] })
      (fun x a' _ P Q row hs hg hr => hs)
      ?assign ?body ?done ?stop
    case assign =>
      rintro l pre x W K hI hK
      gi_wp2
      exact hK _ _ (KeepsFrom.refl _ _) ⟨Below.refl _ W, rfl⟩ hI rfl
    case body =>
      rintro l pre x a' W hl ⟨r, hr⟩ ⟨⟨hne, bT, bR⟩, hB1, hZ⟩ rfl hlt
      have cT := bT.cell
      have cR := bR.cell
      have fR := bR.frozen
      have bx := x.2
      by_cases he : (x.1 : Int) = t
      · have heb : ((x.1 : Int) == t) = true := beq_iff_eq.2 he
        have hs : ∀ v : Int, v = wk L x.1 → KeepsFrom W0.heap.size W (W.setCell ⟨w.heap.size + 1, 0, none⟩ (.int .i64 v)) ∧
            ((∃ y ∈ pre ++ [x], (y.1 : Int) = t) ∧ Boxed (W.setCell ⟨w.heap.size + 1, 0, none⟩ (.int .i64 v)) (w.heap.size + 1) 3 (.int .i64 (workV L t)) ∧ Below w.heap.size w (W.setCell ⟨w.heap.size + 1, 0, none⟩ (.int .i64 v))) := by
          intro v e
          refine ⟨(KeepsOthers.setCell _ _ _).from _, ⟨x, by simp, he⟩, ?_, hB1.setCell (p := ⟨w.heap.size + 1, 0, none⟩) (by simp) _⟩
          rw [← he, workV_at H.out x, ← e]
          exact bR.set _
        have HSS := Lib.hid hs
        clear hs he
        gi_wp2
        obtain ⟨q1, q2, q3, q4⟩ := HSS.out _ rfl
        exact ⟨q1, ⟨⟨rfl, q2⟩, q3⟩, q4⟩
      · have heb : ((x.1 : Int) == t) = false := beq_eq_false_iff_ne.2 he
        have HN := Lib.hid (show ∀ y ∈ pre ++ [x], (y.1 : Int) ≠ t from fun y hy => by
          rcases List.mem_append.1 hy with h | h
          · exact hne y h
          · rw [List.mem_singleton.1 h]; exact he)
        clear hne he
        gi_wp2
        exact ⟨KeepsFrom.refl _ _, ⟨Below.refl _ W, rfl⟩, ⟨HN.out, bT, bR⟩, hB1, hZ⟩
    case done =>
      rintro D ys W hD hys ⟨⟨hne, bT, bR⟩, hB1, hZ⟩ hK
      have cR := bR.cell
      have fR := bR.frozen
      have HV := Lib.hid (workV_out (L := L) hys hne)
      clear hne hys
      gi_wp2
      have hK' := (KeepsOthers.setCell W ⟨w.heap.size + 1, 0, none⟩ (.int .i64 (-1))).same D _ hK rfl
      refine ⟨by simp, .inl ⟨_, _, rfl, run_takeDeferred hK', ?_⟩⟩
      have hc5 := cell_kept (bR.set (.int .i64 (-1))).cell (grownBy_putObj' _ D (.deferred none)) (fun r e => by cases e; exact ⟨_, hK', rfl⟩)
      refine ⟨.int .i64 (-1), ?_, by rw [HV.out], (hB1.setCell (p := ⟨w.heap.size + 1, 0, none⟩) (by simp) _).trans (belowK_b (w := w) (Nat.le_refl _) _ D _ _ (by omega) hK' rfl rfl)⟩
      simp [results, Try.f12, go_sem, hc5]
    case stop =>
      rintro D cd pre W hD hpre ⟨⟨⟨rfl, hx⟩, bR⟩, hB1⟩ hK
      gi_wp2
      refine ⟨by simp, .inl ⟨_, _, rfl, run_takeDeferred hK, ?_⟩⟩
      have hc5 := cell_kept bR.cell (grownBy_putObj' _ D (.deferred none)) (fun r e => by cases e; exact ⟨_, hK, rfl⟩)
      refine ⟨.int .i64 (workV L t), ?_, rfl, hB1.trans (belowK_b (w := w) (Nat.le_refl _) W D _ _ (by omega) hK rfl rfl)⟩
      simp [results, Try.f12, go_sem, hc5]
  · have hno : cOk L = false := by simpa using h
    have HV := Lib.hid (workV_no (t := t) (momentOk_no hno))
    have H := Lib.hid hno; clear h hno
    go_enter Try.func12, Try.ntmps12
    go_wp2_with fail
    refine (c_iCustomersOk L A c _ ((hA.below hb0).more hb0.size) hn).mono ?_
    rintro e w1 ⟨rfl, hb1⟩
    rw [H.out]
    have bR := Boxed.new (w.alloc (.cells #[.int .i64 t] 3)) 3 (.int .i64 0)
    simp only [World.size_alloc] at bR
    have hbs := hb1.size
    simp only [World.size_alloc] at hbs
    have bR1 : Boxed w1 (w.heap.size + 1) 3 (.int .i64 0) := (hb1.block _ (by simp)).trans bR
    have hbx := hb0.trans (hb1.mono (by simp; omega))
    have cR := bR1.cell
    have fR := bR1.frozen
    have cS := (bR1.set (.int .i64 (-1))).cell
    clear bR hb1 hb0
    go_wp2_with fail
    refine bodyPost_ret (v := .int .i64 (-1)) (by simp [results, Try.f12, go_sem, cS]) rfl ?_
    exact ⟨by rw [HV.out], hbx.setCell (p := ⟨w.heap.size + 1, 0, none⟩) (by simp) _⟩

end Go.Proofs.Ytjjncpimelpfiaa

