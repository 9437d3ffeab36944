/- impl.busyPeriods, by a range over the function of XN1 that merges periods. -/
import Derived.Test.YtjjncpimelpfiaaN3
import Derived.Test.YtjjncpimelpfiaaN4
namespace Go.Proofs.Ytjjncpimelpfiaa
set_option linter.unusedVariables false
open Go.RowKit Go.Shelf
attribute [local go_sem] Oper.semAt_some

def busyOf (L : List (Int × Int)) (pre : List Nat) : List (Int × Int) := pre.foldl (fun B t => if wk L t = 0 then B else busyNext B t) []
theorem busyOf_snoc (L : List (Int × Int)) (pre : List Nat) (t : Nat) : busyOf L (pre ++ [t]) = if wk L t = 0 then busyOf L pre else busyNext (busyOf L pre) t := by simp [busyOf]
theorem busyOf_range (L : List (Int × Int)) (k : Nat) : busyOf L (List.range k) = busyT L k := by
  induction k with
  | zero => rfl
  | succ k ih => rw [List.range_succ, busyOf_snoc, ih]; rfl
theorem busyNext_len (B : List (Int × Int)) (t : Int) : (busyNext B t).length ≤ B.length + 1 := by
  simp only [busyNext]
  split
  · rw [List.length_set]; omega
  · simp
theorem busyOf_len (L : List (Int × Int)) (pre : List Nat) : (busyOf L pre).length ≤ pre.length := by
  have key : ∀ n, ∀ pre : List Nat, pre.length = n → (busyOf L pre).length ≤ pre.length := by
    intro n
    induction n with
    | zero => intro pre hp; rw [List.eq_nil_of_length_eq_zero hp]; simp [busyOf]
    | succ n ih =>
      intro pre hp
      rcases List.eq_nil_or_concat pre with rfl | ⟨pre', x, rfl⟩
      · simp at hp
      · rw [List.concat_eq_append] at hp ⊢
        have i := ih pre' (by simpa using hp)
        rw [busyOf_snoc, List.length_append]
        have := busyNext_len (busyOf L pre') x
        split <;> simp <;> omega
  exact key _ pre rfl
theorem busyOf_all {L : List (Int × Int)} (h : cOk L = true) : busyOf L (List.range 201) = busyP L := by
  have hl := lastLeave_bd h
  have e := wk_end h (t := 200) (by omega)
  rw [busyOf_range, busyP_yes h]
  show (if wk L 200 = 0 then busyT L 200 else busyNext (busyT L 200) 200) = _
  rw [if_pos e]

/-- the box holds a row of periods that the call owns -/
def HoldsP (W : World) (Bx base : Nat) (B : List (Int × Int)) : Prop := ∃ v, Boxed W Bx 63 v ∧ PO W base v B
theorem HoldsP.own {β : Type} (B0 Bx base : Nat) (f : β → List (Int × Int)) : OwnFrom B0 (fun s W => HoldsP W Bx base (f s)) := by
  intro s W W' row ⟨v, h1, h2⟩ hg hr
  refine ⟨v, h1.kept hg (fun e => ?_), h2.kept hg (fun r hv e => ?_)⟩
  · obtain ⟨_, o, ho, hc⟩ := hr Bx e.symm
    rw [show W.heap[Bx]? = _ from h1] at ho; cases ho; cases hc
  · obtain ⟨_, o, ho, hc⟩ := hr r e
    rw [h2.cellsObj r o hv ho] at hc; cases hc

set_option maxRecDepth 100000 in
set_option maxHeartbeats 4000000 in
theorem c_busyPeriods (L : List (Int × Int)) (A : Option Addr) (c : Nat) (w : World) (hA : Cs w w.heap.size A L) (hn : L.length ≤ 140737488351232) :
    Calls Try.prog 51 #[.slice A L.length c] w fun e w' => ∃ v, e = .returned v ∧ PO w' w.heap.size v (busyP L) ∧ Below w.heap.size w w' := by
  by_cases h : cOk L = true
  · have H := Lib.hid h; clear h
    refine (callsIn_wide (n := 6)).1 ?_
    refine callsIn_of_wp_marks Try.func51 rfl trivial ?_ rfl
    simp only [Try.ntmps51, List.size_toArray, List.length_cons, List.length_nil, Nat.reduceAdd, Nat.reduceSub, Array.replicate_succ, Array.replicate_zero, List.push_toArray, List.append_toArray, List.nil_append, List.cons_append]
    gi_wp2_with (refine ⟨trivial, ?_⟩; gi_at_call 22; refine (callsIn_wide.2 (c_iCustomersOk L A c _ hA hn)).mono ?_; rw [H.out]; rintro e w1 ⟨rfl, hb1⟩)
    have hbs := hb1.size
    gi_wp2_with (refine ⟨trivial, ?_⟩; gi_at_call 43; refine (workFrom0_in _ _ trivial rfl _ _ _ _).mono ?_; rintro e w' ⟨rfl, rfl⟩)
    obtain ⟨W0, hW0⟩ : ∃ W0, (w1.alloc (.cells #[.slice none 0 0] 63)).alloc (.cells #[.slice A L.length c] 23) = W0 := ⟨_, rfl⟩
    have bA0 := (Boxed.new w1 63 (.slice none 0 0)).alloc (.cells #[.slice A L.length c] 23)
    have bL0 := heap_alloc_new (w1.alloc (.cells #[.slice none 0 0] 63)) (.cells #[.slice A L.length c] 23)
    simp only [World.size_alloc] at bL0
    have hB0 : Below w.heap.size w ((w1.alloc (.cells #[.slice none 0 0] 63)).alloc (.cells #[.slice A L.length c] 23)) := (hb1.alloc hbs _).alloc (by simp; omega) _
    have hsz : ((w1.alloc (.cells #[.slice none 0 0] 63)).alloc (.cells #[.slice A L.length c] 23)).heap.size = w1.heap.size + 2 := by simp
    rw [hW0] at bA0 bL0 hB0 hsz ⊢
    clear hW0 hb1
    refine wpIn_rangeFunc_ownH rfl (by omega) (gf := 61) (lb := #[.pointer (some ⟨w1.heap.size + 1, 0, none⟩)]) rfl trivial (enters_of Try.func61 (by kernel_rfl) rfl)
      (workFrom0_stops Fence.wide _ trivial rfl (by omega) (w1.heap.size + 1) w.heap.size c A L H.out W0 (by omega) bL0 (hA.below hB0)) Kpt.t (Kpt.b (by omega) (by omega)) (Below.refl _ _) (fun _ => rfl)
      (fun pre W => HoldsP W w1.heap.size (w1.heap.size + 2) (busyOf L (pre.map Fin.val)) ∧ (Below w.heap.size w W ∧ W0.heap.size ≤ W.heap.size))
      (fun _ _ _ => False)
      (OwnFrom.and (HoldsP.own _ _ _ _) (OwnFrom.and (ownFrom_below (Nat.le_refl _) (by omega)) (fun s A B row hs hg hr => Nat.le_trans hs hg.size)))
      (fun _ _ _ _ _ hs _ _ => hs)
      ⟨⟨_, bA0, PO.nil _ _⟩, hB0, Nat.le_refl _⟩
      (fun x a' W => a' = { tmps := #[.slice A L.length c, undef, .slice none 0 0, .pointer (some ⟨w1.heap.size, 0, none⟩), .int .i64 (x.1 : Int), .int .i64 (wk L x.1), .slice A L.length c, .bool true, .bool false, .slice A L.length c, .func (.func 61) #[] #[.pointer (some ⟨w1.heap.size + 1, 0, none⟩)], .int .i64 (x.1 : Int), .int .i64 (wk L x.1), undef, undef, undef, undef, undef, undef, undef, undef, undef], defers := [] })
      (fun x a' _ P Q row hs hg hr => hs)
      ?assign ?body ?done ?stop
    case assign =>
      rintro l pre x W K hI hK
      gi_wp2
      exact hK _ _ (KeepsFrom.refl _ _) ⟨Below.refl _ W, rfl⟩ hI rfl
    case body =>
      rintro l pre x a' W hl ⟨r, hr⟩ ⟨⟨v, bA, hown⟩, hB1, hZ⟩ rfl hlt
      have cA := bA.cell
      have fA := bA.frozen
      have bx := x.2
      have hbl := busyOf_len L (pre.map Fin.val)
      rw [List.length_map] at hbl
      have HS := Lib.hid (busyOf_snoc L (pre.map Fin.val) x.1)
      have bw := wk_nn H.out x.1
      by_cases hw : wk L x.1 = 0
      · have hw' : decide (0 < wk L x.1) = false := decide_eq_false (by omega)
        have HS2 := Lib.hid (show busyOf L ((pre ++ [x]).map Fin.val) = busyOf L (pre.map Fin.val) by rw [List.map_append, List.map_cons, List.map_nil, HS.out, if_pos hw])
        clear HS hw
        gi_wp2
        exact ⟨KeepsFrom.refl _ _, ⟨Below.refl _ W, rfl⟩, ⟨v, bA, by rw [HS2.out]; exact hown⟩, hB1, (by omega)⟩
      · have hw' : 0 < wk L x.1 := by omega
        have HS2 := Lib.hid (show busyOf L ((pre ++ [x]).map Fin.val) = busyNext (busyOf L (pre.map Fin.val)) x.1 by rw [List.map_append, List.map_cons, List.map_nil, HS.out, if_neg hw])
        have HC := Lib.hid (c_withPeriod (busyOf L (pre.map Fin.val)) x.1 (w1.heap.size + 2) v W hown (by omega) (by omega))
        have hbv := owns_base hown
        have hcv := hown.cellsObj
        clear HS hw
        gi_wp2_with (refine ⟨trivial, ?_⟩; gi_at_call 64; refine (callsIn_wide.2 HC.out).mono ?_; rintro e w5 ⟨v5, rfl, hown5, hgr5⟩; obtain ⟨O5, c5, rfl, -⟩ := hown5.form; have bA5 := bA.kept hgr5 (fun e => by have := hbv _ e.symm; omega); have cA5 := bA5.cell; have fA5 := bA5.frozen)
        refine ⟨((KeepsOthers.of_grownBy hgr5 (fun j o e ho => hcv j o e ho)).trans (KeepsOthers.setCell _ _ _)).from _, ⟨?_, ?_⟩, ⟨_, bA5.set _, ?_⟩, ?_, ?_⟩
        · exact ((Below.refl _ W).grown hgr5 hB1.size (fun k e => by have := hbv k e; omega)).setCell (p := ⟨w1.heap.size, 0, none⟩) hbs _
        · exact (Below.heap_setCell _ _ _ _ (show w1.heap.size + 1 ≠ w1.heap.size by omega)).trans (hgr5.block _ (by omega) (fun e => by have := hbv _ e.symm; omega))
        · rw [HS2.out]
          exact hown5.kept (grownBy_setCell' _ _ _) (fun r hr e => by have := owns_base hown5 r hr; cases e; omega)
        · exact (hB1.grown hgr5 hB1.size (fun k e => by have := hbv k e; omega)).setCell (p := ⟨w1.heap.size, 0, none⟩) hbs _
        · have := hgr5.size; simp [World.setCell]; omega
    case done =>
      rintro D ys W hD hys ⟨⟨v, bA, hown⟩, hB1, hZ⟩ hK
      have cA := bA.cell
      rw [hys, busyOf_all H.out] at hown
      gi_wp2
      refine ⟨by simp, .inl ⟨_, _, rfl, run_takeDeferred hK, ?_⟩⟩
      refine ⟨_, results_tmp rfl _ _ _, _, rfl, ?_, hB1.trans (belowK_b (w := w) (Nat.le_refl _) W D _ _ (by omega) hK rfl rfl)⟩
      exact (hown.mono (by omega)).kept (grownBy_putObj' W D _) (fun r hv e => by cases e; have := hown.cellsObj _ _ hv hK; cases this)
    case stop =>
      rintro D cd pre W _ _ h _
      exact h.elim
  · have hno : cOk L = false := by simpa using h
    have HV := Lib.hid (busyP_no hno)
    have H := Lib.hid hno; clear h hno
    go_enter Try.func51, Try.ntmps51
    go_wp2_with fail
    refine (c_iCustomersOk L A c _ hA hn).mono ?_
    rintro e w1 ⟨rfl, hb1⟩
    rw [H.out]
    go_wp2_with fail
    go_ret
    exact ⟨_, rfl, by rw [HV.out]; exact PO.nil _ _, hb1⟩

end Go.Proofs.Ytjjncpimelpfiaa

