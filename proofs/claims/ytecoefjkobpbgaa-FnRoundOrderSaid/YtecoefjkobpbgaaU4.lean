/- impl.BusyOk: a range over workFrom0's function that breaks and that returns -/
import Derived.Test.YtecoefjkobpbgaaU1
import Derived.Test.YtecoefjkobpbgaaN1
import Derived.Test.YtecoefjkobpbgaaQ2
import Derived.Test.YtecoefjkobpbgaaQ
namespace Go.Proofs.Ytecoefjkobpbgaa
set_option linter.unusedVariables false
open Go.RowKit Go.Shelf
attribute [local go_sem] Oper.semAt_some

/-- whether the unit is right: somebody is served exactly if there is work -/
def goodU (L : List (Int × Int)) (o : List Int) (t : Nat) : Bool := decide (0 ≤ Z o t) == decide (0 < wk L t)
theorem goodU_all {L : List (Int × Int)} {o : List Int} : ∀ n, (∀ t, t < n → goodU L o t = true) → unitBusy L o n = true := by
  intro n
  induction n with
  | zero => intro _; rfl
  | succ n ih =>
    intro h
    simp only [unitBusy, Bool.and_eq_true]
    exact ⟨ih fun t ht => h t (by omega), h n (by omega)⟩
theorem busyOk_late {L : List (Int × Int)} {o : List Int} (h : (o.length : Int) ≠ lastLeave L) : busyOk L o = false := by
  have : decide ((o.length : Int) = lastLeave L) = false := decide_eq_false h
  simp [busyOk, this]
theorem busyOk_good {L : List (Int × Int)} {o : List Int} (h : ordOk L o = true) (hl : (o.length : Int) = lastLeave L) (hg : ∀ t, t < o.length → goodU L o t = true) : busyOk L o = true := by
  have : decide ((o.length : Int) = lastLeave L) = true := decide_eq_true hl
  simp only [busyOk, h, this, goodU_all _ hg, Bool.and_self]

theorem workFrom0_nx (F : Fence) (n : Nat) (h58 : F.fn 68) (hro : F.round = none) (hn : 1 ≤ n) (Bl B cap : Nat) (A : Option Addr) (L : List (Int × Int)) (hok : cOk L = true) (w : World) (hB : B ≤ w.heap.size)
    (hBl : w.heap[Bl]? = some (.cells #[.slice A L.length cap] 23 (0, 0))) (hc : Cs w B A L) :
    SeqNx (fun _ _ => True) F n Try.prog 68 #[.pointer (some ⟨Bl, 0, none⟩)] (fun x : Fin 201 => #[Value.int .i64 (x.1 : Int), .int .i64 (wk L x.1)]) (Kpt B Bl) (fun pre x => x.1 = pre.length)
      (fun ys => ys.map Fin.val = List.range 201) (fun pre => ∃ k, pre.map Fin.val = List.range (k + 1)) w := fun l J Jx W hW _ hY h0 => by
  have h1 : Bl < w.heap.size := (Array.getElem?_eq_some_iff.1 hBl).1
  exact workFrom1_in F n h58 hro hn l Bl B cap A L hok J Jx W hY ((hW.block Bl h1).trans hBl) (hc.below (hW.mono hB)) h0
theorem OwnW.none {β : Type} {B : Nat} {I : β → World → Prop} (h : OwnFrom B I) : OwnW B (fun _ _ => True) I :=
  fun s W W' row hs hg hr => h s W W' row hs hg (fun r e => by
    obtain ⟨hB, o, ho, hc⟩ := hr r e
    refine ⟨hB, o, ho, ?_⟩
    cases h2 : o.isCells with
    | false => rfl
    | true => exact absurd trivial (hc h2))

set_option maxRecDepth 100000 in
set_option maxHeartbeats 4000000 in
theorem c_iBusyOk (L : List (Int × Int)) (o : List Int) (A O : Option Addr) (c d : Nat) (w : World) (hA : Cs w w.heap.size A L) (hO : Is w w.heap.size O o) (hn : L.length ≤ 140737488351232) (ho : o.length ≤ 140737488351232) :
    Calls Try.prog 18 #[.slice A L.length c, .slice O o.length d] w fun e w' => e = .returned (.bool (busyOk L o)) ∧ Below w.heap.size w w' := by
  have hb0 : Below w.heap.size w ((w.alloc (.cells #[.slice O o.length d] 25)).alloc (.cells #[.bool false] 4)) := by (repeat (first | exact rfl | exact Below.refl _ _ | (with_reducible refine Below.drew ?_) | (with_reducible refine Below.drewN ?_ _) | (with_reducible refine Below.alloc ?_ ?_ _) | (with_reducible refine Below.setCell ?_ ?_ _) | (show _ ≤ _; focus (first | omega | (simp; done) | (simp; omega)))))
  have bO := (Boxed.new w 25 (.slice O o.length d)).alloc (.cells #[.bool false] 4)
  have bR := Boxed.new (w.alloc (.cells #[.slice O o.length d] 25)) 4 (.bool false)
  simp only [World.size_alloc] at bR
  obtain ⟨W2, hW2⟩ : ∃ W2, (w.alloc (.cells #[.slice O o.length d] 25)).alloc (.cells #[.bool false] 4) = W2 := ⟨_, rfl⟩
  have hs2 : ((w.alloc (.cells #[.slice O o.length d] 25)).alloc (.cells #[.bool false] 4)).heap.size = w.heap.size + 2 := by simp
  rw [hW2] at hb0 bO bR hs2
  have cO := bO.cell
  have e0 := WB.cell (w := W2) (B := w.heap.size + 2) (b := w.heap.size) (o := 0) (v := .slice O o.length d) (by omega) cO
  have HK := Lib.hid (fun s : WB (w.heap.size + 2) W2 => c_iOrderOk L o A O c d s.val ((hA.below (hb0.trans (s.below.mono (by omega)))).more (by have := s.below.size; omega)) ((hO.below (hb0.trans (s.below.mono (by omega)))).more (by have := s.below.size; omega)) hn ho)
  have HL := Lib.hid (fun s : WB (w.heap.size + 2) W2 => c_iLastLeave L A c s.val ((hA.below (hb0.trans (s.below.mono (by omega)))).more (by have := s.below.size; omega)) hn)
  by_cases hok : ordOk L o = true
  · obtain ⟨hc, hl2, hu, -⟩ := ordOk_parts hok
    have H := Lib.hid hok
    have HC := Lib.hid hc
    have hlen := cOk_len hc
    have HU := Lib.hid (fun t (ht : t < o.length) => unitsOk_at _ hu t ht)
    have HKt : Hid (∀ s : WB (w.heap.size + 2) W2, Calls Try.prog 42 #[.slice A L.length c, .slice O o.length d] s.val fun e w' => e = .returned (.bool true) ∧ Below s.val.heap.size s.val w') := fun s => by have K := HK.out s; rw [hok] at K; exact K
    by_cases hlq : (o.length : Int) = lastLeave L
    · have hd : ((o.length : Int) == lastLeave L) = true := beq_iff_eq.2 hlq
      have HLq := Lib.hid hlq
      have HLt : Hid (∀ s : WB (w.heap.size + 2) W2, Calls Try.prog 28 #[.slice A L.length c] s.val fun e w' => e = .returned (.int .i64 (o.length : Int)) ∧ Below s.val.heap.size s.val w') := fun s => by have K := HL.out s; rw [← hlq] at K; exact K
      clear hok hc hu hlq hd HL HK
      refine (callsIn_wide (n := 6)).1 ?_
      refine callsIn_of_wp_marks Try.func18 rfl trivial ?_ rfl
      simp only [Try.ntmps18, List.size_toArray, List.length_cons, List.length_nil, Nat.reduceAdd, Nat.reduceSub, Array.replicate_succ, Array.replicate_zero, List.push_toArray, List.append_toArray, List.nil_append, List.cons_append]
      gi_wp2
      refine wpIn_region_wb (w.heap.size + 2) rfl (by kernel_rfl) (by kernel_rfl) ?_
      repeat (first
        | gi_big_quiet_step (fail)
        | (refine BigFrame.wpQuietIn_want (fun _ _ _ _ => trivial) (by rfl) ?_; intro K hK; gi_big_quiet_op; gi_big_quiet_call (first | (gi_at_call 42; exact CallsIn.inB (Nat.le_of_eq hs2.symm) (callsIn_wide.2 (HKt.out _))) | (gi_at_call 28; exact CallsIn.inB (Nat.le_of_eq hs2.symm) (callsIn_wide.2 (HLt.out _))))))
      refine wpQuietIn_nil ?_
      rintro w5 ⟨⟨_, hb5⟩, rfl⟩
      have bO5 : Boxed w5 w.heap.size 25 (.slice O o.length d) := (hb5.block _ (by omega)).trans bO
      have bR5 : Boxed w5 (w.heap.size + 1) 4 (.bool false) := (hb5.block _ (by omega)).trans bR
      have hbx := hb0.trans (hb5.mono (by omega))
      have hs5 := hb5.size
      rw [hs2] at hs5
      clear hb5 bO bR e0 cO
      gi_wp2_with (refine ⟨trivial, ?_⟩; gi_at_call 49; refine (workFrom0_in _ _ trivial rfl _ _ _ _).mono ?_; rintro e w' ⟨rfl, rfl⟩)
      obtain ⟨W0, hW0⟩ : ∃ W0, w5.alloc (.cells #[.slice A L.length c] 23) = W0 := ⟨_, rfl⟩
      have bO0 := bO5.alloc (.cells #[.slice A L.length c] 23)
      have bR0 := bR5.alloc (.cells #[.slice A L.length c] 23)
      have bL0 := heap_alloc_new w5 (.cells #[.slice A L.length c] 23)
      have hB0 : Below w.heap.size w (w5.alloc (.cells #[.slice A L.length c] 23)) := hbx.alloc (by omega) _
      have hsz : (w5.alloc (.cells #[.slice A L.length c] 23)).heap.size = w5.heap.size + 1 := by simp
      rw [hW0] at bO0 bR0 bL0 hB0 hsz ⊢
      clear hW0 bO5 bR5 hbx
      refine rangeFunc_nx rfl (by omega) (gf := 68) (lb := #[.pointer (some ⟨w5.heap.size, 0, none⟩)]) rfl trivial (enters_of Try.func68 (by kernel_rfl) rfl)
        (workFrom0_nx Fence.wide _ trivial rfl (by omega) w5.heap.size w.heap.size c A L HC.out W0 (by omega) bL0 (hA.below hB0)) Kpt.t (Kpt.b (by omega) (by omega)) (Below.refl _ _) (fun _ => rfl)
        (fun pre W => ((∀ k, k < pre.length → k < o.length ∧ goodU L o k = true) ∧ (Boxed W w.heap.size 25 (.slice O o.length d) ∧ Boxed W (w.heap.size + 1) 4 (.bool false))) ∧ (Below w.heap.size w W ∧ W0.heap.size ≤ W.heap.size))
        (fun cd (pre : List (Fin 201)) W => (((cd = .exit 0 ∧ ∀ k, k < o.length → goodU L o k = true) ∨ (cd = .ret ∧ busyOk L o = false)) ∧ Boxed W (w.heap.size + 1) 4 (.bool false)) ∧ (Below w.heap.size w W ∧ W0.heap.size ≤ W.heap.size))
        (OwnW.none (OwnFrom.and (OwnFrom.and (fun _ _ _ _ hs _ _ => hs) (OwnFrom.and (Own.from (boxed_own _ _ _) _) (Own.from (boxed_own _ _ _) _))) (OwnFrom.and (ownFrom_below (Nat.le_refl _) (by omega)) (fun s A B row hs hg hr => Nat.le_trans hs hg.size))))
        (fun _ => OwnFrom.and (OwnFrom.and (fun _ _ _ _ hs _ _ => hs) (Own.from (boxed_own _ _ _) _)) (OwnFrom.and (ownFrom_below (Nat.le_refl _) (by omega)) (fun s A B row hs hg hr => Nat.le_trans hs hg.size)))
        ⟨⟨(fun k hk => absurd hk (by simp)), bO0, bR0⟩, hB0, Nat.le_refl _⟩
        (fun x => { tmps := #[.slice A L.length c, .slice O o.length d, undef, .pointer (some ⟨w.heap.size, 0, none⟩), .pointer (some ⟨w.heap.size + 1, 0, none⟩), .int .i64 (x.1 : Int), .int .i64 (wk L x.1), .slice A L.length c, .slice O o.length d, .bool true, .bool false, .bool false, .slice O o.length d, .int .i64 (o.length : Int), .slice A L.length c, .int .i64 (o.length : Int), .bool false, .bool false, .slice A L.length c, .func (.func 68) #[] #[.pointer (some ⟨w5.heap.size, 0, none⟩)], .int .i64 (x.1 : Int), .int .i64 (wk L x.1), undef, undef, undef, undef, undef, undef, undef, undef, undef, undef, undef, undef], defers := [] })
        ?assign ?body ?done ?stop
      case assign =>
        rintro l x W K hK
        gi_wp2
        exact hK
      case body =>
        rintro l pre x W ⟨⟨hgd, bO, bR⟩, hB1, hZ⟩ hx
        have cO := bO.cell
        have cR := bR.cell
        have fR := bR.frozen
        have bx := x.2
        by_cases he : x.1 = o.length
        · have heb : ((x.1 : Int) == (o.length : Int)) = true := beq_iff_eq.2 (by omega)
          have HG := Lib.hid (fun k (hk : k < o.length) => (hgd k (by omega)).2)
          clear he hgd hx
          gi_wp2
          exact ⟨KeepsFrom.refl _ _, ⟨.inl ⟨rfl, HG.out⟩, bR⟩, hB1, hZ⟩
        · have heb : ((x.1 : Int) == (o.length : Int)) = false := beq_eq_false_iff_ne.2 (by omega)
          have hlt : x.1 < o.length := by
            cases hp : pre.length with
            | zero => omega
            | succ m => have := (hgd m (by omega)).1; omega
          obtain ⟨ob, oo, rfl, hob, hoc⟩ := hO (by omega)
          have c0 := (hB1.cell (p := ⟨ob, oo + x.1, none⟩) hob).trans (hoc x.1 hlt)
          have p1 : (0 : Int) ≤ (x.1 : Int) := by omega
          have p2 : (x.1 : Int) < (o.length : Int) := by omega
          have HN := Lib.hid (fun (hg : goodU L o x.1 = true) k (hk : k < (pre ++ [x]).length) => show k < o.length ∧ goodU L o k = true from by
            rw [List.length_append, List.length_singleton] at hk
            by_cases e : k = x.1
            · subst e; exact ⟨hlt, hg⟩
            · exact hgd k (by omega))
          have HF := Lib.hid (fun (hg : goodU L o x.1 = false) => busyOk_bad (L := L) (o := o) hlt hg)
          clear hoc hgd he hx
          rcases unitOk_cases (HU.out x.1 hlt) with e | ⟨p, e, hp, -, -⟩
          · rw [e] at c0
            by_cases hw : 0 < wk L x.1
            · have hgf : goodU L o x.1 = false := by simp [goodU, e, hw]
              have HB := Lib.hid (HF.out hgf)
              have HS := Lib.hid (show KeepsFrom W0.heap.size W (W.setCell ⟨w.heap.size + 1, 0, none⟩ (.bool false)) ∧ Boxed (W.setCell ⟨w.heap.size + 1, 0, none⟩ (.bool false)) (w.heap.size + 1) 4 (.bool false) ∧ Below w.heap.size w (W.setCell ⟨w.heap.size + 1, 0, none⟩ (.bool false)) ∧ W0.heap.size ≤ (W.setCell ⟨w.heap.size + 1, 0, none⟩ (.bool false)).heap.size from
                ⟨(KeepsOthers.setCell _ _ _).from _, bR.set _, hB1.setCell (p := ⟨w.heap.size + 1, 0, none⟩) (by simp) _, by simp [World.setCell]; omega⟩)
              clear e hgf HF HN
              gi_wp2
              obtain ⟨q1, q2, q3, q4⟩ := HS.out
              exact ⟨(by first | exact q1 | (rw [← hsz]; exact q1)), ⟨.inr ⟨rfl, HB.out⟩, q2⟩, q3, (by omega)⟩
            · have hgt : goodU L o x.1 = true := by simp [goodU, e, hw]
              have HG := Lib.hid (HN.out hgt)
              clear e hgt HF HN
              gi_wp2
              exact ⟨KeepsFrom.refl _ _, ⟨Below.refl _ W, rfl⟩, ⟨HG.out, bO, bR⟩, hB1, (by omega)⟩
          · rw [e] at c0
            have d1 : ((p : Int) == -1) = false := beq_eq_false_iff_ne.2 (by omega)
            have d2 : ((p : Int) != -1) = true := bne_iff_ne.2 (by omega)
            by_cases hw : 0 < wk L x.1
            · have hgt : goodU L o x.1 = true := by simp [goodU, e, hw]
              have HG := Lib.hid (HN.out hgt)
              clear e hgt HF HN
              gi_wp2
              exact ⟨KeepsFrom.refl _ _, ⟨Below.refl _ W, rfl⟩, ⟨HG.out, bO, bR⟩, hB1, (by omega)⟩
            · have hgf : goodU L o x.1 = false := by simp [goodU, e, hw]
              have HB := Lib.hid (HF.out hgf)
              have HS := Lib.hid (show KeepsFrom W0.heap.size W (W.setCell ⟨w.heap.size + 1, 0, none⟩ (.bool false)) ∧ Boxed (W.setCell ⟨w.heap.size + 1, 0, none⟩ (.bool false)) (w.heap.size + 1) 4 (.bool false) ∧ Below w.heap.size w (W.setCell ⟨w.heap.size + 1, 0, none⟩ (.bool false)) ∧ W0.heap.size ≤ (W.setCell ⟨w.heap.size + 1, 0, none⟩ (.bool false)).heap.size from
                ⟨(KeepsOthers.setCell _ _ _).from _, bR.set _, hB1.setCell (p := ⟨w.heap.size + 1, 0, none⟩) (by simp) _, by simp [World.setCell]; omega⟩)
              clear e hgf HF HN
              gi_wp2
              obtain ⟨q1, q2, q3, q4⟩ := HS.out
              exact ⟨(by first | exact q1 | (rw [← hsz]; exact q1)), ⟨.inr ⟨rfl, HB.out⟩, q2⟩, q3, (by omega)⟩
      case done =>
        rintro D ys W hD hys ⟨⟨hgd, bO, bR⟩, hB1, hZ⟩ hK
        have hyl : ys.length = 201 := by have := congrArg List.length hys; simpa using this
        have := (hgd 200 (by omega)).1
        omega
      case stop =>
        rintro D cd pre W hD hk ⟨⟨(⟨rfl, hgd⟩ | ⟨rfl, hbad⟩), bR⟩, hB1, hZ⟩ hK
        · have HV := Lib.hid (busyOk_good H.out HLq.out hgd)
          have cR := bR.cell
          have fR := bR.frozen
          clear hgd hk
          gi_wp2
          have hK' := (KeepsOthers.setCell W ⟨w.heap.size + 1, 0, none⟩ (.bool true)).same D _ hK rfl
          refine ⟨by simp, .inl ⟨_, _, rfl, run_takeDeferred hK', ?_⟩⟩
          have hc5 := cell_kept (bR.set (.bool true)).cell (grownBy_putObj' _ D (.deferred none)) (fun r e => by cases e; exact ⟨_, hK', rfl⟩)
          refine ⟨.bool true, ?_, by rw [HV.out], (hB1.setCell (p := ⟨w.heap.size + 1, 0, none⟩) (by simp) _).trans (belowK_b (w := w) (Nat.le_refl _) _ D _ _ (by omega) hK' rfl rfl)⟩
          simp [results, Try.f18, go_sem, hc5]
        · have HV := Lib.hid hbad
          clear hk hbad
          gi_wp2
          refine ⟨by simp, .inl ⟨_, _, rfl, run_takeDeferred hK, ?_⟩⟩
          have hc5 := cell_kept bR.cell (grownBy_putObj' _ D (.deferred none)) (fun r e => by cases e; exact ⟨_, hK, rfl⟩)
          refine ⟨.bool false, ?_, by rw [HV.out], hB1.trans (belowK_b (w := w) (Nat.le_refl _) W D _ _ (by omega) hK rfl rfl)⟩
          simp [results, Try.f18, go_sem, hc5]
    · have hd : ((o.length : Int) != lastLeave L) = true := bne_iff_ne.2 hlq
      have HV := Lib.hid (busyOk_late hlq)
      clear hok hc hu hlq HK
      go_enter Try.func18, Try.ntmps18
      go_wp2_with fail
      refine wp_region_wb (w.heap.size + 2) (by kernel_rfl) (by kernel_rfl) ?_
      repeat (go_big_quiet_step (first | (go_at_call 42; exact Calls.inB (Nat.le_of_eq hs2.symm) (HKt.out _)) | (go_at_call 28; exact Calls.inB (Nat.le_of_eq hs2.symm) (HL.out _))))
      refine wpQuiet_nil ?_
      rintro w5 ⟨⟨_, hb5⟩, rfl⟩
      have bR5 : Boxed w5 (w.heap.size + 1) 4 (.bool false) := (hb5.block _ (by omega)).trans bR
      have hbx := hb0.trans (hb5.mono (by omega))
      have cR := bR5.cell
      have fR := bR5.frozen
      have cS := (bR5.set (.bool false)).cell
      clear hb5
      go_wp2_with fail
      refine bodyPost_ret (v := .bool false) (by simp [results, Try.f18, go_sem, cS]) rfl ?_
      exact ⟨by rw [HV.out], hbx.setCell (p := ⟨w.heap.size + 1, 0, none⟩) (by simp) _⟩
  · have hno : ordOk L o = false := by simpa using hok
    have HV := Lib.hid (busyOk_ord hno)
    have HKt : Hid (∀ s : WB (w.heap.size + 2) W2, Calls Try.prog 42 #[.slice A L.length c, .slice O o.length d] s.val fun e w' => e = .returned (.bool false) ∧ Below s.val.heap.size s.val w') := fun s => by have K := HK.out s; rw [hno] at K; exact K
    clear hok hno HK
    go_enter Try.func18, Try.ntmps18
    go_wp2_with fail
    refine wp_region_wb (w.heap.size + 2) (by kernel_rfl) (by kernel_rfl) ?_
    repeat (go_big_quiet_step (first | (go_at_call 42; exact Calls.inB (Nat.le_of_eq hs2.symm) (HKt.out _)) | (go_at_call 28; exact Calls.inB (Nat.le_of_eq hs2.symm) (HL.out _))))
    refine wpQuiet_nil ?_
    rintro w5 ⟨⟨_, hb5⟩, rfl⟩
    have bR5 : Boxed w5 (w.heap.size + 1) 4 (.bool false) := (hb5.block _ (by omega)).trans bR
    have hbx := hb0.trans (hb5.mono (by omega))
    have cR := bR5.cell
    have fR := bR5.frozen
    have cS := (bR5.set (.bool false)).cell
    clear hb5
    go_wp2_with fail
    refine bodyPost_ret (v := .bool false) (by simp [results, Try.f18, go_sem, cS]) rfl ?_
    exact ⟨by rw [HV.out], hbx.setCell (p := ⟨w.heap.size + 1, 0, none⟩) (by simp) _⟩

end Go.Proofs.Ytecoefjkobpbgaa

