/- impl.ServedBy, by a range over the function of XN1 that breaks. -/
import Derived.Test.YtjjncpimelpfiaaN2
namespace Go.Proofs.Ytjjncpimelpfiaa
set_option linter.unusedVariables false
open Go.RowKit Go.Shelf
attribute [local go_sem] Oper.semAt_some

/-- the units with work, of the times gone through -/
def srvOf (L : List (Int × Int)) (pre : List Nat) : Int := pre.foldl (fun s t => s + (if 0 < wk L t then 1 else 0)) 0
theorem srvOf_snoc (L : List (Int × Int)) (pre : List Nat) (t : Nat) : srvOf L (pre ++ [t]) = srvOf L pre + (if 0 < wk L t then 1 else 0) := by simp [srvOf]
theorem srvOf_range (L : List (Int × Int)) (k : Nat) : srvOf L (List.range k) = srv L k := by
  induction k with
  | zero => rfl
  | succ k ih => rw [List.range_succ, srvOf_snoc, ih]; rfl
theorem srvOf_bd (L : List (Int × Int)) (pre : List Nat) : 0 ≤ srvOf L pre ∧ srvOf L pre ≤ pre.length := by
  have key : ∀ n, ∀ pre : List Nat, pre.length = n → 0 ≤ srvOf L pre ∧ srvOf L pre ≤ pre.length := by
    intro n
    induction n with
    | zero => intro pre hp; rw [List.eq_nil_of_length_eq_zero hp]; simp [srvOf]
    | succ n ih =>
      intro pre hp
      rcases List.eq_nil_or_concat pre with rfl | ⟨pre', x, rfl⟩
      · simp at hp
      · rw [List.concat_eq_append] at hp ⊢
        have i := ih pre' (by simpa using hp)
        rw [srvOf_snoc, List.length_append]
        split <;> simp <;> omega
  exact key _ pre rfl

set_option maxRecDepth 100000 in
set_option maxHeartbeats 4000000 in
theorem c_iServedBy (L : List (Int × Int)) (A : Option Addr) (c : Nat) (t : Int) (w : World) (hA : Cs w w.heap.size A L) (hn : L.length ≤ 140737488351232) :
    Calls Try.prog 16 #[.slice A L.length c, .int .i64 t] w fun e w' => e = .returned (.int .i64 (servedV L t)) ∧ Below w.heap.size w w' := by
  have hb0 : Below w.heap.size w (w.alloc (.cells #[.int .i64 t] 3)) := by (repeat (first | exact rfl | exact Below.refl _ _ | (with_reducible refine Below.drew ?_) | (with_reducible refine Below.drewN ?_ _) | (with_reducible refine Below.alloc ?_ ?_ _) | (with_reducible refine Below.setCell ?_ ?_ _) | (show _ ≤ _; focus (first | omega | (simp; done) | (simp; omega)))))
  have bT := Boxed.new w 3 (.int .i64 t)
  have HK := Lib.hid (fun W => c_within t 0 200 W)
  by_cases hp : momentOk L t = true
  · have HV := Lib.hid (servedV_yes hp)
    obtain ⟨m, rfl, hm2, h⟩ := momentOk_nat hp
    have ht' : decide ((0 : Int) ≤ (m : Int) ∧ (m : Int) ≤ 200) = true := by simp; omega
    have H := Lib.hid h; clear h hp
    have HK2 := Lib.hid (fun W => by have K := HK.out W; rw [ht'] at K; exact K)
    clear ht'
    refine (callsIn_wide (n := 6)).1 ?_
    refine callsIn_of_wp_marks Try.func16 rfl trivial ?_ rfl
    simp only [Try.ntmps16, List.size_toArray, List.length_cons, List.length_nil, Nat.reduceAdd, Nat.reduceSub, Array.replicate_succ, Array.replicate_zero, List.push_toArray, List.append_toArray, List.nil_append, List.cons_append]
    gi_wp2_with (refine ⟨trivial, ?_⟩; gi_at_call 22; refine (callsIn_wide.2 (c_iCustomersOk L A c _ ((hA.below hb0).more hb0.size) hn)).mono ?_; rw [H.out]; rintro e w1 ⟨rfl, hb1⟩; have cT1 := (hb1.cell (p := ⟨w.heap.size, 0, none⟩) (by simp)).trans bT.cell)
    have hbs := hb1.size
    simp only [World.size_alloc] at hbs
    have bT1 : Boxed w1 w.heap.size 3 (.int .i64 (m : Int)) := (hb1.block _ (by simp)).trans bT
    have hbx := hb0.trans (hb1.mono (by simp))
    clear bT hb1 hb0
    gi_wp2_with (refine ⟨trivial, ?_⟩; gi_at_call 47; refine (callsIn_wide.2 (HK2.out _)).mono ?_; rintro e w' ⟨rfl, rfl⟩)
    gi_wp2_with (refine ⟨trivial, ?_⟩; gi_at_call 43; refine (workFrom0_in _ _ trivial rfl _ _ _ _).mono ?_; rintro e w' ⟨rfl, rfl⟩)
    obtain ⟨W0, hW0⟩ : ∃ W0, (w1.alloc (.cells #[.int .i64 0] 3)).alloc (.cells #[.slice A L.length c] 23) = W0 := ⟨_, rfl⟩
    have bT0 := (bT1.alloc (.cells #[.int .i64 0] 3)).alloc (.cells #[.slice A L.length c] 23)
    have bN0 := (Boxed.new w1 3 (.int .i64 0)).alloc (.cells #[.slice A L.length c] 23)
    have bL0 := heap_alloc_new (w1.alloc (.cells #[.int .i64 0] 3)) (.cells #[.slice A L.length c] 23)
    simp only [World.size_alloc] at bL0
    have hB0 : Below w.heap.size w ((w1.alloc (.cells #[.int .i64 0] 3)).alloc (.cells #[.slice A L.length c] 23)) := (hbx.alloc (by omega) _).alloc (by simp; omega) _
    have hsz : ((w1.alloc (.cells #[.int .i64 0] 3)).alloc (.cells #[.slice A L.length c] 23)).heap.size = w1.heap.size + 2 := by simp
    rw [hW0] at bT0 bN0 bL0 hB0 hsz ⊢
    clear hW0 bT1 hbx cT1
    refine wpIn_rangeFunc_ownH rfl (by omega) (gf := 61) (lb := #[.pointer (some ⟨w1.heap.size + 1, 0, none⟩)]) rfl trivial (enters_of Try.func61 (by kernel_rfl) rfl)
      (workFrom0_stops Fence.wide _ trivial rfl (by omega) (w1.heap.size + 1) w.heap.size c A L H.out W0 (by omega) bL0 (hA.below hB0)) Kpt.t (Kpt.b (by omega) (by omega)) (Below.refl _ _) (fun _ => rfl)
      (fun pre W => ((∀ x ∈ pre, x.1 ≠ m) ∧ (Boxed W w.heap.size 3 (.int .i64 (m : Int)) ∧ Boxed W w1.heap.size 3 (.int .i64 (srvOf L (pre.map Fin.val))))) ∧ (Below w.heap.size w W ∧ W0.heap.size ≤ W.heap.size))
      (fun cd (pre : List (Fin 201)) W => ((cd = .exit 0 ∧ ∃ (pre' : List (Fin 201)) (x : Fin 201), pre = pre' ++ [x] ∧ x.1 = m) ∧ Boxed W w1.heap.size 3 (.int .i64 (srvOf L (pre.dropLast.map Fin.val)))) ∧ (Below w.heap.size w W ∧ W0.heap.size ≤ W.heap.size))
      (OwnFrom.and (OwnFrom.and (fun _ _ _ _ hs _ _ => hs) (OwnFrom.and (Own.from (boxed_own _ _ _) _) (Own.from (boxed_own _ _ _) _))) (OwnFrom.and (ownFrom_below (Nat.le_refl _) (by omega)) (fun s A B row hs hg hr => Nat.le_trans hs hg.size)))
      (fun _ => OwnFrom.and (OwnFrom.and (fun _ _ _ _ hs _ _ => hs) (Own.from (boxed_own _ _ _) _)) (OwnFrom.and (ownFrom_below (Nat.le_refl _) (by omega)) (fun s A B row hs hg hr => Nat.le_trans hs hg.size)))
      ⟨⟨(fun x hx => by cases hx), bT0, bN0⟩, hB0, Nat.le_refl _⟩
      (fun x a' W => a' = { tmps := #[.slice A L.length c, .int .i64 (m : Int), undef, .pointer (some ⟨w.heap.size, 0, none⟩), .int .i64 0, .pointer (some ⟨w1.heap.size, 0, none⟩), .int .i64 (x.1 : Int), .int .i64 (wk L x.1), .slice A L.length c, .bool true, .bool false, .bool false, .int .i64 (m : Int), .bool true, .bool false, .bool false, .slice A L.length c, .func (.func 61) #[] #[.pointer (some ⟨w1.heap.size + 1, 0, none⟩)], .int .i64 (x.1 : Int), .int .i64 (wk L x.1), undef, undef, undef, undef, undef, undef, undef, undef], defers := [] })
      (fun x a' _ P Q row hs hg hr => hs)
      ?assign ?body ?done ?stop
    case assign =>
      rintro l pre x W K hI hK
      gi_wp2
      exact hK _ _ (KeepsFrom.refl _ _) ⟨Below.refl _ W, rfl⟩ hI rfl
    case body =>
      rintro l pre x a' W hl ⟨r, hr⟩ ⟨⟨hne, bT, bN⟩, hB1, hZ⟩ rfl hlt
      have cT := bT.cell
      have cN := bN.cell
      have fN := bN.frozen
      have bx := x.2
      have hbd := srvOf_bd L (pre.map Fin.val)
      rw [List.length_map] at hbd
      have HS := Lib.hid (srvOf_snoc L (pre.map Fin.val) x.1)
      by_cases he : x.1 = m
      · have heb : ((x.1 : Int) == (m : Int)) = true := beq_iff_eq.2 (by omega)
        have HE := Lib.hid he
        clear he
        gi_wp2
        exact ⟨KeepsFrom.refl _ _, ⟨⟨rfl, pre, x, rfl, HE.out⟩, by rw [List.dropLast_concat]; exact bN⟩, hB1, (by omega)⟩
      · have heb : ((x.1 : Int) == (m : Int)) = false := beq_eq_false_iff_ne.2 (by omega)
        have HN := Lib.hid (show ∀ y ∈ pre ++ [x], y.1 ≠ m from fun y hy => by
          rcases List.mem_append.1 hy with h | h
          · exact hne y h
          · rw [List.mem_singleton.1 h]; exact he)
        clear hne he
        by_cases hw : 0 < wk L x.1
        · have hs : ∀ v : Int, v = srvOf L (pre.map Fin.val) + 1 → KeepsFrom W0.heap.size W (W.setCell ⟨w1.heap.size, 0, none⟩ (.int .i64 v)) ∧ Kpt w.heap.size (w1.heap.size + 1) W (W.setCell ⟨w1.heap.size, 0, none⟩ (.int .i64 v)) ∧
              ((Boxed (W.setCell ⟨w1.heap.size, 0, none⟩ (.int .i64 v)) w.heap.size 3 (.int .i64 (m : Int)) ∧ Boxed (W.setCell ⟨w1.heap.size, 0, none⟩ (.int .i64 v)) w1.heap.size 3 (.int .i64 (srvOf L ((pre ++ [x]).map Fin.val)))) ∧
                Below w.heap.size w (W.setCell ⟨w1.heap.size, 0, none⟩ (.int .i64 v)) ∧ W0.heap.size ≤ (W.setCell ⟨w1.heap.size, 0, none⟩ (.int .i64 v)).heap.size) := by
            intro v e
            subst e
            refine ⟨(KeepsOthers.setCell _ _ _).from _, ⟨(Below.refl _ W).setCell (p := ⟨w1.heap.size, 0, none⟩) (by simp; omega) _, Below.heap_setCell _ _ _ _ (show w1.heap.size + 1 ≠ w1.heap.size by omega)⟩, ⟨bT.other (by omega) _, ?_⟩, hB1.setCell (p := ⟨w1.heap.size, 0, none⟩) (by simp; omega) _, by simp [World.setCell]; omega⟩
            rw [List.map_append, List.map_cons, List.map_nil, HS.out, if_pos hw]
            exact bN.set _
          have HSS := Lib.hid hs
          clear hs HS
          generalize srvOf L (List.map Fin.val pre) = sv at *
          gi_wp2
          obtain ⟨q1, q2, q3, q4⟩ := HSS.out _ rfl
          exact ⟨q1, q2, ⟨HN.out, q3⟩, q4.1, (by have := q4.2; omega)⟩
        · have HS2 := Lib.hid (show srvOf L ((pre ++ [x]).map Fin.val) = srvOf L (pre.map Fin.val) by rw [List.map_append, List.map_cons, List.map_nil, HS.out, if_neg hw]; omega)
          clear HS
          gi_wp2
          exact ⟨KeepsFrom.refl _ _, ⟨Below.refl _ W, rfl⟩, ⟨HN.out, bT, by rw [HS2.out]; exact bN⟩, hB1, (by omega)⟩
    case done =>
      rintro D ys W hD hys ⟨⟨hne, bT, bN⟩, hB1, hZ⟩ hK
      have hmem : m ∈ ys.map Fin.val := by rw [hys]; exact List.mem_range.2 (by omega)
      obtain ⟨x, hx, e⟩ := List.mem_map.1 hmem
      exact absurd e (hne x hx)
    case stop =>
      rintro D cd pre W hD ⟨k, hk⟩ ⟨⟨⟨rfl, pre', x, rfl, hx⟩, bN⟩, hB1, hZ⟩ hK
      rw [List.dropLast_concat] at bN
      rw [List.map_append, List.range_succ, List.map_cons, List.map_nil] at hk
      obtain ⟨hk1, hk2⟩ := List.append_inj' hk rfl
      have hkm : k = m := by simp only [List.cons.injEq, and_true] at hk2; omega
      rw [hk1, srvOf_range, hkm] at bN
      have cN := bN.cell
      clear hk hk1 hk2 hkm
      gi_wp2
      refine ⟨by simp, .inl ⟨_, _, rfl, run_takeDeferred hK, ?_⟩⟩
      refine ⟨_, results_tmp rfl _ _ _, ?_, hB1.trans (belowK_b (w := w) (Nat.le_refl _) W D _ _ (by omega) hK rfl rfl)⟩
      rw [HV.out]
      rfl
  · have hpn : momentOk L t = false := by simpa using hp
    have HV := Lib.hid (servedV_no hpn)
    by_cases h : cOk L = true
    · have ht' : decide (0 ≤ t ∧ t ≤ 200) = false := by simpa [momentOk, h] using hpn
      have H := Lib.hid h; clear h hp hpn
      go_enter Try.func16, Try.ntmps16
      go_wp2_with fail
      refine (c_iCustomersOk L A c _ ((hA.below hb0).more hb0.size) hn).mono ?_
      rintro e w1 ⟨rfl, hb1⟩
      have cT1 := (hb1.cell (p := ⟨w.heap.size, 0, none⟩) (by simp)).trans bT.cell
      have hbx := hb0.trans (hb1.mono (by simp))
      rw [H.out]
      go_wp2_with fail
      refine (HK.out _).mono ?_
      rintro e w' ⟨rfl, rfl⟩
      rw [ht']
      clear ht'
      go_wp2_with fail
      go_ret
      exact ⟨by rw [HV.out]; rfl, hbx⟩
    · have hno : cOk L = false := by simpa using h
      have H := Lib.hid hno; clear h hno hp hpn
      go_enter Try.func16, Try.ntmps16
      go_wp2_with fail
      refine (c_iCustomersOk L A c _ ((hA.below hb0).more hb0.size) hn).mono ?_
      rintro e w1 ⟨rfl, hb1⟩
      have hbx := hb0.trans (hb1.mono (by simp))
      rw [H.out]
      go_wp2_with fail
      go_ret
      exact ⟨by rw [HV.out]; rfl, hbx⟩

end Go.Proofs.Ytjjncpimelpfiaa

