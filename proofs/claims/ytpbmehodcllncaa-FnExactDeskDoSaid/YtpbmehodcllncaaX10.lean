/- helpers of the exact laws for desks: szDesk, toDesk, eqDesk, markDesk, heldDesk -/
import Derived.Test.YtpbmehodcllncaaX9
import Derived.Test.YtpbmehodcllncaaK36
namespace Go.Proofs.Ytpbmehodcllncaa
set_option linter.unusedVariables false
open Go.RowKit
attribute [local go_sem ↓] Go.wp_at_zero Go.wp_at_succ

theorem box_two (w : World) (x y : Value) (t : TypeId) : ∃ w', w.alloc (.cells #[x, y] t) = w' ∧ w'.heap.size = w.heap.size + 1 ∧ Below w.heap.size w w' ∧ ∀ W, Below w'.heap.size w' W → (W.cell? ⟨w.heap.size, 0, none⟩ = some x ∧ W.cell? ⟨w.heap.size, 1, none⟩ = some y) := by
  refine ⟨_, rfl, by simp, (Below.refl _ w).alloc (Nat.le_refl _) _, fun W hb => ?_⟩
  have h := (hb.block w.heap.size (by simp)).trans (heap_alloc_new w (.cells #[x, y] t))
  exact ⟨cell_of_row _ _ 0 _ _ _ h, cell_of_row _ _ 1 _ _ _ h⟩
/-- how many customers lie at a desk, all lists together -/
def allK (D : KV) : Nat := D.now.length + totL D.past D.past.length

set_option maxRecDepth 8000 in
set_option maxHeartbeats 2000000 in
theorem c_szDesk (D : KV) (vn vp : Value) (w : World) (hK : Ks w w.heap.size vn vp D) (h1 : D.now.length ≤ 9223372036854775807) (h2 : D.past.length ≤ 9223372036854775807) (h3 : ∀ k, k < D.past.length → (LL D.past k).length ≤ 9223372036854775807) :
    Calls Try.prog 29 #[.agg #[vn, vp], .int .i64 1048576] w fun e w' => ∃ r : Int, e = .returned (.int .i64 r) ∧ Below w.heap.size w w' ∧ -1 ≤ r ∧ r ≤ 1048576 ∧ (0 ≤ r → r + (D.past.length : Int) + (allK D : Int) = 1048576) := by
  obtain ⟨⟨An, cn, rfl, hcn, hN⟩, Ap, cp, rfl, hcp, hP⟩ := hK
  obtain ⟨w0, hw0, hz0, hb0, HC⟩ := box_two w (.slice An D.now.length cn) (.slice Ap D.past.length cp) 53
  obtain ⟨q0, q1⟩ := HC _ (Below.refl _ w0)
  have HS := Lib.hid (c_szC An D.now.length cn 1048576 w0 (by omega) (by omega) h1)
  have HSS := Lib.hid (fun (l : Int) (h0 : 0 ≤ l) (hl : l ≤ 1048576) => c_szCC D.past Ap cp w0.heap.size l w0 ((hP.below hb0).more (by omega)) h0 hl h2 h3)
  clear HC hN hP
  go_enter Try.func29, Try.ntmps29
  go_wp2_with fail
  clear hw0
  refine HS.out.mono ?_
  rintro e w1 ⟨r, rfl, rfl, hr⟩
  rcases hr with ⟨rfl, hr⟩ | ⟨rfl, hr⟩
  · go_wp2_with fail
    go_ret
    exact ⟨-1, rfl, hb0, by omega, by omega, fun h => by omega⟩
  · have d1 : decide ((1048576 : Int) - (D.now.length : Int) < 0) = false := decide_eq_false (by omega)
    have HSS := Lib.hid (HSS.out (1048576 - (D.now.length : Int)) (by omega) (by omega))
    go_wp2_with fail
    refine HSS.out.mono ?_
    rintro e w2 ⟨r2, rfl, rfl, hr1, hr2, hr3⟩
    by_cases hn : r2 < 0
    · have d2 : decide (r2 < 0) = true := decide_eq_true hn
      go_wp2_with fail
      go_ret
      exact ⟨-1, rfl, hb0, by omega, by omega, fun h => by omega⟩
    · have d2 : decide (r2 < 0) = false := decide_eq_false hn
      have hr4 := hr3 (by omega)
      have HR := Lib.hid hr4
      clear hr3 hr4
      go_wp2_with fail
      go_ret
      exact ⟨r2, rfl, hb0, by omega, by omega, fun _ => by have := HR.out; simp only [allK]; omega⟩

set_option maxRecDepth 8000 in
set_option maxHeartbeats 2000000 in
theorem c_eqDesk (D : KV) (vn vp un up : Value) (w : World) (hK : Ks w w.heap.size vn vp D) (hE : Ks w w.heap.size un up D) (h1 : D.now.length ≤ 1048576) (h2 : D.past.length ≤ 1048576) (h3 : ∀ k, k < D.past.length → (LL D.past k).length ≤ 1048576) :
    Calls Try.prog 31 #[.agg #[vn, vp], .agg #[un, up]] w fun e w' => e = .returned (.bool true) ∧ Below w.heap.size w w' := by
  obtain ⟨⟨An, cn, rfl, hcn, hN⟩, Ap, cp, rfl, hcp, hP⟩ := hK
  obtain ⟨⟨Bn, dn, rfl, hdn, hM⟩, Bp, dp, rfl, hdp, hQ⟩ := hE
  obtain ⟨w0, hw0, hz0, hb0, HC0⟩ := box_two w (.slice An D.now.length cn) (.slice Ap D.past.length cp) 26
  obtain ⟨w1, hw1, hz1, hb1, HC1⟩ := box_two w0 (.slice Bn D.now.length dn) (.slice Bp D.past.length dp) 26
  rw [hz0] at HC1
  have hx1 := hb0.trans (hb1.mono (by omega))
  have HE := Lib.hid (c_eqCustomerS D.now An Bn cn dn w1 ((hN.below hx1).more hx1.size) ((hM.below hx1).more hx1.size) h1)
  have HEE := Lib.hid (fun W (hb : Below w1.heap.size w1 W) => c_eqCC D.past Ap Bp cp dp W ((hP.below (hx1.trans (hb.mono hx1.size))).more (hx1.trans (hb.mono hx1.size)).size) ((hQ.below (hx1.trans (hb.mono hx1.size))).more (hx1.trans (hb.mono hx1.size)).size) h2 h3)
  obtain ⟨q0, q1⟩ := HC0 _ hb1
  obtain ⟨q2, q3⟩ := HC1 _ (Below.refl _ w1)
  have HC0 := Lib.hid (fun W (hb : Below w1.heap.size w1 W) => HC0 W (hb1.trans (hb.mono hb1.size)))
  have HC1 := Lib.hid HC1
  clear hN hP hM hQ
  go_enter Try.func31, Try.ntmps31
  go_wp2_with fail
  clear hw1 hw0
  refine HE.out.mono ?_
  rintro e w2 ⟨rfl, hb2⟩
  clear q0 q1 q2 q3
  obtain ⟨q0, q1⟩ := HC0.out _ hb2
  obtain ⟨q2, q3⟩ := HC1.out _ hb2
  go_wp2_with fail
  refine (HEE.out _ hb2).mono ?_
  rintro e w3 ⟨rfl, hb3⟩
  go_wp2_with fail
  go_ret
  exact ⟨rfl, hx1.trans ((hb2.trans (hb3.mono hb2.size)).mono hx1.size)⟩

set_option maxRecDepth 8000 in
set_option maxHeartbeats 4000000 in
theorem c_toDesk (D : KV) (vn vp : Value) (w : World) (hK : Ks w w.heap.size vn vp D) (h1 : D.now.length ≤ 1048576) (h2 : D.past.length ≤ 1048576) (h3 : ∀ k, k < D.past.length → (LL D.past k).length ≤ 1048576) :
    Calls Try.prog 30 #[.agg #[vn, vp]] w fun e w' => ∃ un up us, e = .returned (.agg #[un, up]) ∧ KO w' w.heap.size un up D us ∧ Below w.heap.size w w' := by
  obtain ⟨⟨An, cn, rfl, hcn, hN⟩, Ap, cp, rfl, hcp, hP⟩ := hK
  obtain ⟨w0, hw0⟩ : ∃ w0, ((w.alloc (.cells #[.slice An D.now.length cn, .slice Ap D.past.length cp] 53)).alloc (.cells #[.slice none 0 0, .slice none 0 0] 26)).alloc (.cells #[.slice none 0 0, .slice none 0 0] 26) = w0 := ⟨_, rfl⟩
  have hz0 : w0.heap.size = w.heap.size + 3 := by rw [← hw0]; simp
  have hb0 : Below w.heap.size w w0 := by rw [← hw0]; exact (((Below.refl _ w).alloc (Nat.le_refl _) _).alloc (by simp) _).alloc (by simp; omega) _
  have bA : w0.heap[w.heap.size]? = some (.cells #[.slice An D.now.length cn, .slice Ap D.past.length cp] 53 (0, 0)) := by rw [← hw0]; exact (Below.heap_alloc _ _ _ (by simp; omega)).trans ((Below.heap_alloc _ _ _ (by simp)).trans (heap_alloc_new _ _))
  have bR : w0.heap[w.heap.size + 1]? = some (.cells #[.slice none 0 0, .slice none 0 0] 26 (0, 0)) := by rw [← hw0]; exact (Below.heap_alloc _ _ _ (by simp)).trans (heap_newK _ _ _)
  have bO : w0.heap[w.heap.size + 2]? = some (.cells #[.slice none 0 0, .slice none 0 0] 26 (0, 0)) := by
    rw [← hw0]
    have := heap_alloc_new ((w.alloc (.cells #[.slice An D.now.length cn, .slice Ap D.past.length cp] 53)).alloc (.cells #[.slice none 0 0, .slice none 0 0] 26)) (.cells #[.slice none 0 0, .slice none 0 0] 26)
    simpa using this
  have HT := Lib.hid (c_toCustomerS D.now An cn w0 ((hN.below hb0).more (by omega)) h1)
  obtain ⟨q0, q1, -, -⟩ := (show w0.cell? ⟨w.heap.size, 0, none⟩ = some (.slice An D.now.length cn) ∧ w0.cell? ⟨w.heap.size, 1, none⟩ = some (.slice Ap D.past.length cp) ∧ True ∧ True from ⟨cell_of_row _ _ 0 _ _ _ bA, cell_of_row _ _ 1 _ _ _ bA, trivial, trivial⟩)
  have HP := Lib.hid hP
  clear hN hP
  go_enter Try.func30, Try.ntmps30
  go_wp2_with fail
  clear hw0
  refine HT.out.mono ?_
  rintro e w1 ⟨v1, rfl, o1, hb1⟩
  have hs1 := hb1.size
  have b1 := (hb1.block _ (show w.heap.size + 2 < w0.heap.size by omega)).trans bO
  have a1 := (hb1.block _ (show w.heap.size < w0.heap.size by omega)).trans bA
  have r1 := (hb1.block _ (show w.heap.size + 1 < w0.heap.size by omega)).trans bR
  have hx1 := hb0.trans (hb1.mono (by omega))
  obtain ⟨N1, n1, rfl, -, -, -⟩ := o1.form
  obtain ⟨w2, hw2⟩ : ∃ z, w1.setCell ⟨w.heap.size + 2, 0, none⟩ (.slice N1 D.now.length n1) = z := ⟨_, rfl⟩
  have hg2 : w1.grownBy w2 (some (w.heap.size + 2)) := by rw [← hw2]; exact grown_set1 _ _ _ _
  have b2 : w2.heap[w.heap.size + 2]? = some (.cells #[.slice N1 D.now.length n1, .slice none 0 0] 26 (0, 0)) := by rw [← hw2]; exact set2a _ b1
  have a2 := (hg2.block w.heap.size (by omega) (by simp)).trans a1
  have r2 := (hg2.block (w.heap.size + 1) (by omega) (by simp)).trans r1
  have o2 := o1.grownR' hg2 (fun r hr e => by cases e; have := owns_base o1 _ hr; omega)
  have hx2 := hx1.grown hg2 (by omega) (fun k e => by cases e; omega)
  have hz2 := hg2.size
  obtain ⟨x0, x1, x2, x3⟩ := two_at b1
  have HTT := Lib.hid (c_toCC D.past Ap cp w2 ((HP.out.below hx2).more hx2.size) h2 h3)
  have p0 := cell_of_row _ w.heap.size 1 _ _ _ a2
  clear bA bR bO a1 b1 r1 hb0 hb1 hx1 o1 q0 q1
  go_wp2_with fail
  clear hw2 x0 x1 x2 x3
  refine HTT.out.mono ?_
  rintro e w3 ⟨v3, vs, rfl, o3, hb3⟩
  have hs3 := hb3.size
  obtain ⟨P1, p1, rfl, -, -, -⟩ := o3.form
  have hown3 := owns_lt o2
  have b3 := (hb3.block _ (show w.heap.size + 2 < w2.heap.size by omega)).trans b2
  have r3 := (hb3.block _ (show w.heap.size + 1 < w2.heap.size by omega)).trans r2
  have o2' := o2.below hb3 (Nat.le_refl _)
  obtain ⟨w4, hw4⟩ : ∃ z, w3.setCell ⟨w.heap.size + 2, 1, none⟩ (.slice P1 D.past.length p1) = z := ⟨_, rfl⟩
  have hg4 : w3.grownBy w4 (some (w.heap.size + 2)) := by rw [← hw4]; exact grown_set1 _ _ _ _
  have b4 : w4.heap[w.heap.size + 2]? = some (.cells #[.slice N1 D.now.length n1, .slice P1 D.past.length p1] 26 (0, 0)) := by rw [← hw4]; exact set2b _ b3
  have r4 := (hg4.block (w.heap.size + 1) (by omega) (by simp)).trans r3
  have ko3 : KO w3 w0.heap.size (.slice N1 D.now.length n1) (.slice P1 D.past.length p1) D vs := ⟨o2', PL.ofCOO (o3.mono (by omega)), fun r hr e => by
    have h1 := hown3 r hr
    have h2 := owns_base o3.row r e
    omega, fun k hk r hr e => by
    have h1 := hown3 r e
    have h2 := owns_base (o3.inner k hk) r hr
    omega⟩
  have ko4 := ko3.keptLow hg4 (show w.heap.size + 2 < w0.heap.size by omega)
  have hx4 := (hx2.trans (hb3.mono (by omega))).grown hg4 (by omega) (fun k e => by cases e; omega)
  have hz4 := hg4.size
  obtain ⟨x0, x1, x2, x3⟩ := two_at b3
  obtain ⟨y0, y1, y2, y3⟩ := two_at b4
  obtain ⟨u0, u1, u2, u3⟩ := two_at r4
  obtain ⟨w5, hw5⟩ : ∃ z, w4.setCell ⟨w.heap.size + 1, 0, none⟩ (.slice N1 D.now.length n1) = z := ⟨_, rfl⟩
  obtain ⟨w6, hw6⟩ : ∃ z, w5.setCell ⟨w.heap.size + 1, 1, none⟩ (.slice P1 D.past.length p1) = z := ⟨_, rfl⟩
  have r5 : w5.heap[w.heap.size + 1]? = some (.cells #[.slice N1 D.now.length n1, .slice none 0 0] 26 (0, 0)) := by rw [← hw5]; exact set2a _ r4
  have r6 : w6.heap[w.heap.size + 1]? = some (.cells #[.slice N1 D.now.length n1, .slice P1 D.past.length p1] 26 (0, 0)) := by rw [← hw6]; exact set2b _ r5
  obtain ⟨-, u4, -, u5⟩ := two_at r5
  have hg6 : w4.grownBy w6 (some (w.heap.size + 1)) := by rw [← hw6, ← hw5]; exact W2_grown _ _ _ _
  have HKO := Lib.hid ((ko4.keptLow hg6 (show w.heap.size + 1 < w0.heap.size by omega)).mono (show w.heap.size ≤ w0.heap.size by omega))
  have HX := Lib.hid (hx4.grown hg6 (by omega) (fun k e => by cases e; omega))
  have HR := Lib.hid r6
  clear b2 b3 b4 r2 r3 r4 r5 r6 ko3 ko4 hx2 hx4 hg6 hg4 o2 o2' o3 a2
  go_wp2_with fail
  have k0 := cell_of_row _ (w.heap.size + 1) 0 _ _ _ HR.out
  have k1 := cell_of_row _ (w.heap.size + 1) 1 _ _ _ HR.out
  refine bodyPost_ret (v := .agg #[.slice N1 D.now.length n1, .slice P1 D.past.length p1]) (by simp [results, Try.f30, go_sem, k0, k1]) rfl ?_
  exact ⟨_, _, vs, rfl, HKO.out, HX.out⟩

/-- a marked desk -/
def markedK (D : KV) (k0 : Int) : KV := ⟨marks D.now.length k0, markedTo D.past (k0 + 2 * (D.now.length : Int)) D.past.length⟩
theorem CO.ofBlock {w w' : World} {base : Nat} {v : Value} {L : List (Int × Int)} (h : CO w base v L) (hb : ∀ r, v.ownBlock = some r → w'.heap[r]? = w.heap[r]?) : CO w' base v L := by
  refine ⟨h.1, ?_⟩
  rcases h.2 with h2 | ⟨g, cap, cur, rfl, hgb, hh, rest⟩
  · exact .inl h2
  · exact .inr ⟨g, cap, cur, rfl, hgb, (hb g rfl).trans hh, rest⟩

set_option maxRecDepth 8000 in
set_option maxHeartbeats 4000000 in
theorem c_markDesk (D : KV) (k0 : Int) (vn vp : Value) (vs : List Value) (base : Nat) (w : World) (hK : KO w base vn vp D vs) (h1 : D.now.length ≤ 1048576) (h2 : D.past.length ≤ 1048576) (ht : totL D.past D.past.length ≤ 1048576) (hk0 : 0 ≤ k0) (hk1 : k0 ≤ 10000000) (hbase : base ≤ w.heap.size) :
    Calls Try.prog 36 #[.agg #[vn, vp], .int .i64 k0] w fun e w' => e = .returned (.int .i64 (k0 + 2 * (allK D : Int))) ∧ KO w' base vn vp (markedK D k0) vs ∧ Below base w w' ∧ (∀ b, b < w.heap.size → (∀ r, vn.ownBlock = some r → r ≠ b) → (∀ k, k < D.past.length → ∀ r, (vs.getD k undef).ownBlock = some r → r ≠ b) → w'.heap[b]? = w.heap[b]?) := by
  obtain ⟨N1, n1, P1, p1, rfl, rfl⟩ := hK.slices
  obtain ⟨w0, hw0, hz0, hb0, HC⟩ := box_two w (.slice N1 D.now.length n1) (.slice P1 D.past.length p1) 26
  have k0' := hK.below hb0 (Nat.le_refl _)
  obtain ⟨q0, q1⟩ := HC _ (Below.refl _ w0)
  have HN := Lib.hid (c_markCustomerS D.now k0 _ base w0 k0'.now h1 (by omega) (by omega))
  have hnb : ∀ r, (Value.slice N1 D.now.length n1).ownBlock = some r → base ≤ r := owns_base k0'.now
  have hnl : ∀ r, (Value.slice N1 D.now.length n1).ownBlock = some r → r < w.heap.size := owns_lt hK.now
  have HKo := Lib.hid k0'
  have HCl := Lib.hid HC
  clear k0' HC hK
  go_enter Try.func36, Try.ntmps36
  go_wp2_with fail
  clear hw0
  refine HN.out.mono ?_
  rintro e w1 ⟨rfl, o1, hg1⟩
  have hs1 := hg1.size
  have hp1 : PL w1 base (.slice P1 D.past.length p1) D.past vs := HKo.out.past.kept hg1 (fun r hr e => HKo.out.apn r e hr) (fun k hk r hr e => HKo.out.api k hk r hr e)
  have q2 : w1.cell? ⟨w.heap.size, 1, none⟩ = some (.slice P1 D.past.length p1) := (World.cell?_of_block (hg1.block w.heap.size (by omega) (fun e => by have := hnl _ e.symm; omega))).trans q1
  have hx1 : Below base w w1 := (hb0.mono hbase).grown hg1 (by omega) (fun k e => hnb k e)
  have HM := Lib.hid (c_markCC D.past (k0 + 2 * (D.now.length : Int)) _ vs base w1 hp1 h2 ht (by omega) (by omega) (by omega))
  clear q0 q1
  go_wp2_with fail
  refine HM.out.mono ?_
  rintro e w2 ⟨rfl, hp2, hb2, hB2⟩
  have HO2 := Lib.hid (show KO w2 base (.slice N1 D.now.length n1) (.slice P1 D.past.length p1) (markedK D k0) vs from
    ⟨o1.ofBlock (fun r hr => hB2 r (by have := hnl r hr; omega) (fun k hk e => HKo.out.api k hk r e hr)), hp2, fun r hr => HKo.out.apn r hr, fun k hk r hr => HKo.out.api k (by simpa [markedK, markedTo_len] using hk) r hr⟩)
  have HBB := Lib.hid (fun b (hb : b < w.heap.size) (hn1 : ∀ r, (Value.slice N1 D.now.length n1).ownBlock = some r → r ≠ b) (hn2 : ∀ k, k < D.past.length → ∀ r, (vs.getD k undef).ownBlock = some r → r ≠ b) => show w2.heap[b]? = w.heap[b]? from
    ((hB2 b (by omega) (fun k hk e => hn2 k hk b e rfl)).trans (hg1.block b (by omega) (fun e => hn1 b e.symm rfl))).trans (hb0.block b hb))
  clear hp1 hp2 o1 hg1 HM hB2
  go_wp2_with fail
  go_ret
  exact ⟨by simp only [allK]; congr 1; simp; omega, HO2.out, hx1.trans hb2, HBB.out⟩

set_option maxRecDepth 8000 in
set_option maxHeartbeats 2000000 in
theorem c_heldDesk (D : KV) (k0 : Int) (vn vp : Value) (w : World) (hK : Ks w w.heap.size vn vp (markedK D k0)) (h1 : D.now.length ≤ 1048576) (h2 : D.past.length ≤ 1048576) (ht : totL D.past D.past.length ≤ 1048576) (hk0 : 0 ≤ k0) (hk1 : k0 ≤ 10000000) :
    Calls Try.prog 37 #[.agg #[vn, vp], .int .i64 k0] w fun e w' => e = .returned (.int .i64 (k0 + 2 * (allK D : Int))) ∧ Below w.heap.size w w' := by
  obtain ⟨⟨An, cn, rfl, hcn, hN⟩, Ap, cp, rfl, hcp, hP⟩ := hK
  have e1 : (markedK D k0).now.length = D.now.length := marks_len _ _
  have e2 : (markedK D k0).past.length = D.past.length := markedTo_len _ _ _
  rw [e1, e2]
  obtain ⟨w0, hw0, hz0, hb0, HC⟩ := box_two w (.slice An D.now.length cn) (.slice Ap D.past.length cp) 26
  obtain ⟨q0, q1⟩ := HC _ (Below.refl _ w0)
  have HN := Lib.hid (c_heldCustomerS D.now.length k0 An cn w0.heap.size w0 ((hN.below hb0).more (by omega)) h1 (by omega) (by omega))
  have HP := Lib.hid (c_heldCC D.past (k0 + 2 * (D.now.length : Int)) Ap cp w0.heap.size w0 ((hP.below hb0).more (by omega)) ht (by omega) (by omega) h2)
  have d1 : decide (k0 + 2 * (D.now.length : Int) < 0) = false := decide_eq_false (by omega)
  have d2 : decide (k0 + 2 * (D.now.length : Int) + 2 * (totL D.past D.past.length : Int) < 0) = false := decide_eq_false (by omega)
  clear HC hN hP e1 e2
  go_enter Try.func37, Try.ntmps37
  go_wp2_with fail
  clear hw0
  refine HN.out.mono ?_
  rintro e w1 ⟨rfl, rfl⟩
  go_wp2_with fail
  refine HP.out.mono ?_
  rintro e w2 ⟨rfl, rfl⟩
  go_wp2_with fail
  go_ret
  exact ⟨by simp only [allK]; congr 1; simp; omega, hb0⟩

end Go.Proofs.Ytpbmehodcllncaa

