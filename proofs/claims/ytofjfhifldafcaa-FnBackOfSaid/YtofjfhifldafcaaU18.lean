/- slices.Backward over customers of two counters; BackOf -/
import Derived.Test.YtofjfhifldafcaaU16
import Derived.Test.YtofjfhifldafcaaR
namespace Go.Proofs.Ytofjfhifldafcaa
set_option linter.unusedVariables false
open Go.RowKit Go.Shelf
attribute [local go_sem] Oper.semAt_some

set_option maxRecDepth 100000 in
set_option maxHeartbeats 4000000 in
theorem backwardB1_in (F : Fence) (n : Nat) (h60 : F.fn 81) (hro : F.round = none) (hn : 1 ≤ n) (l Bs B cap : Nat) (A : Option Addr) (L : List (Int × Int)) (hlen : L.length ≤ 140737488351232)
    (J Jx : List (Fin L.length) → World → Prop)
    (hY : ∀ pre x W, J pre W → pre.length < L.length → YieldAt F (n - 1) Try.prog l #[.int .i64 (x.1 : Int), .agg #[.int .i64 (X L x.1), .int .i64 (Y L x.1)]] W fun e W' =>
      (e = .returned (.bool true) ∧ J (pre ++ [x]) W' ∧ Kpt B Bs W W') ∨ (e = .returned (.bool false) ∧ Jx (pre ++ [x]) W'))
    (W : World) (hBs : W.heap[Bs]? = some (.cells #[.slice A L.length cap] 23 (0, 0))) (hc : Cs W B A L) (h0 : J [] W) :
    CallsIn F n Try.prog 81 #[.func (.yield l) #[] #[], .pointer (some ⟨Bs, 0, none⟩)] W fun e W' => (∃ v, e = .returned v) ∧
      ((∃ ys, (ys.map Fin.val = downTo L.length L.length) ∧ J ys W') ∨ (∃ pre, True ∧ Jx pre W')) := by
  refine callsIn_of_wp Try.func81 rfl h60 ?_ hro
  simp only [Try.ntmps81, List.size_toArray, List.length_cons, List.length_nil, Nat.reduceAdd, Nat.reduceSub, Array.replicate_succ, Array.replicate_zero, List.push_toArray, List.append_toArray, List.nil_append, List.cons_append]
  have hb0 : W.cell? ⟨Bs, 0, none⟩ = some (.slice A L.length cap) := by simp [World.cell?, hBs]
  gi_wp2
  gi_loopw [3] (fun i wr => ∃ (k j : Nat) (pre : List (Fin L.length)), k + j = L.length ∧ i = .int .i64 ((k : Int) - 1) ∧ pre.map Fin.val = downTo L.length j ∧ J pre wr ∧ Kpt B Bs W wr)
    (fun i _ => (intOf i + 1).toNat)
  case atStart => exact ⟨L.length, 0, [], by omega, rfl, rfl, h0, Below.refl _ _, rfl⟩
  case round =>
    obtain ⟨k, j, pre, hkj, rfl, hpre, hJs, hnx⟩ := hrel
    have hbr : wr.cell? ⟨Bs, 0, none⟩ = some (.slice A L.length cap) := by simp [World.cell?, hnx.2, hBs]
    by_cases hlt : 0 < k
    · obtain ⟨b, off, rfl, hlb, hcc⟩ := hc (by omega)
      have c1 := (hnx.1.cell (p := ⟨b, off + (k - 1) * 2, none⟩) hlb).trans (hcc (k - 1) (by omega)).1
      have c2 := (hnx.1.cell (p := ⟨b, off + (k - 1) * 2 + 1, none⟩) hlb).trans (hcc (k - 1) (by omega)).2
      have hpl : pre.length = j := by rw [← List.length_map (f := Fin.val), hpre, downTo_len]
      have hpl' : pre.length < L.length := by omega
      obtain ⟨x, hx⟩ : ∃ x : Fin L.length, x.1 = k - 1 := ⟨⟨k - 1, by omega⟩, rfl⟩
      obtain ⟨fn, tmps, assign, body, hy, hR⟩ := hY pre x wr hJs hpl'
      have ek : ((k - 1 : Nat) : Int) = (k : Int) - 1 := by omega
      rw [hx, ek] at hy
      have HX := Lib.hid hx; clear hx
      have hk0' : (0 : Int) ≤ (k : Int) - 1 := by omega
      have hk1' : (k : Int) - 1 < (L.length : Int) := by omega
      have Hpre := Lib.hid hpre; clear hpre hcc ek
      clear hpl
      gi_wp2
      refine hR.mono ?_
      rintro e W3 (⟨rfl, hJ3, hk3⟩ | ⟨rfl, hJx3⟩)
      · gi_wp2
        go_roundw
        case rel =>
          refine ⟨k - 1, j + 1, pre ++ [x], by omega, by go_num, ?_, hJ3, hnx.t hk3⟩
          rw [List.map_append, Hpre.out, downTo_succ]
          simp only [List.map_cons, List.map_nil, HX.out]
          congr 2
          omega
        case measure => simp [intOf]; omega
      · gi_wp2
        refine bodyPost_ret (results_none rfl _ _ _) rfl ?_
        exact ⟨⟨_, rfl⟩, .inr ⟨pre ++ [x], trivial, hJx3⟩⟩
    · gi_wp2
      go_end0
      obtain rfl : j = L.length := by omega
      exact ⟨⟨_, rfl⟩, .inl ⟨pre, hpre, hJs⟩⟩

set_option maxHeartbeats 1000000 in
theorem backwardB_in (F : Fence) (n : Nat) (h56 : F.fn 61) (hro : F.round = none) (A : Option Addr) (len cap : Nat) (w : World) :
    CallsIn F n Try.prog 61 #[.slice A len cap] w fun e w' => e = .returned (.func (.func 81) #[] #[.pointer (some ⟨w.heap.size, 0, none⟩)]) ∧ w' = w.alloc (.cells #[.slice A len cap] 23) := by
  refine callsIn_of_wp Try.func61 rfl h56 ?_ hro
  simp only [Try.ntmps61, List.size_toArray, List.length_cons, List.length_nil, Nat.reduceAdd, Nat.reduceSub, Array.replicate_succ, Array.replicate_zero, List.push_toArray, List.append_toArray, List.nil_append, List.cons_append]
  gi_wp2
  go_ret
  exact ⟨rfl, rfl⟩

theorem backwardB_stops (F : Fence) (n : Nat) (h60 : F.fn 81) (hro : F.round = none) (hn : 1 ≤ n) (Bs B cap : Nat) (A : Option Addr) (L : List (Int × Int)) (hlen : L.length ≤ 140737488351232) (w : World) (hB : B ≤ w.heap.size)
    (hBs : w.heap[Bs]? = some (.cells #[.slice A L.length cap] 23 (0, 0))) (hc : Cs w B A L) :
    SeqStopsK F n Try.prog 81 #[.pointer (some ⟨Bs, 0, none⟩)] (fun x : Fin L.length => #[Value.int .i64 (x.1 : Int), .agg #[.int .i64 (X L x.1), .int .i64 (Y L x.1)]]) (Kpt B Bs)
      (fun ys => ys.map Fin.val = downTo L.length L.length) (fun _ => True) L.length w := fun l J Jx W hW _ _ hY h0 => by
  have hlt : Bs < w.heap.size := (Array.getElem?_eq_some_iff.1 hBs).1
  exact backwardB1_in F n h60 hro hn l Bs B cap A L hlen J Jx hY W ((hW.block Bs hlt).trans hBs) (hc.below (hW.mono hB)) h0

set_option maxHeartbeats 1000000 in
theorem c_exchanged (x y : Int) (w : World) :
    Calls Try.prog 62 #[.agg #[.int .i64 x, .int .i64 y]] w fun e w' => e = .returned (.agg #[.int .i64 y, .int .i64 x]) ∧ Below w.heap.size w w' := by
  go_enter Try.func62, Try.ntmps62
  go_wp2
  refine bodyPost_ret (v := .agg #[.int .i64 y, .int .i64 x]) (by simp [results, Try.results62, go_sem]) rfl ?_
  exact ⟨rfl, by (repeat (first | exact rfl | exact Below.refl _ _ | (with_reducible refine Below.drew ?_) | (with_reducible refine Below.drewN ?_ _) | (with_reducible refine Below.alloc ?_ ?_ _) | (with_reducible refine Below.setCell ?_ ?_ _) | (show _ ≤ _; focus (first | omega | (simp; done) | (simp; omega)))))⟩

/-- those at the places of a row, exchanged -/
def backAt (L : List (Int × Int)) (pre : List Nat) : List (Int × Int) := pre.map fun j => (Y L j, X L j)
theorem backAt_len (L : List (Int × Int)) (pre : List Nat) : (backAt L pre).length = pre.length := by simp [backAt]
theorem backAt_snoc (L : List (Int × Int)) (pre : List Nat) (x : Nat) : backAt L (pre ++ [x]) = backAt L pre ++ [(Y L x, X L x)] := by simp [backAt]
theorem backAt_down (L : List (Int × Int)) : backAt L (downTo L.length L.length) = backB L := by
  have key : ∀ k, k ≤ L.length → backAt L (downTo L.length k) = backTo L k := by
    intro k
    induction k with
    | zero => intro _; rfl
    | succ k ih => intro hk; rw [downTo_succ, backAt_snoc, ih (by omega), backTo_succ (by omega)]
  rw [key _ (Nat.le_refl _), backTo_all]

theorem BO.cellsObj {w : World} {base : Nat} {v : Value} {xs : List (Int × Int)} (h : BO w base v xs) (r : Nat) (o : Obj) (hr : v.ownBlock = some r) (ho : w.heap[r]? = some o) : o.isCells = true := by
  rcases h.2 with ⟨rfl, _⟩ | ⟨g, cap, cur, rfl, hgb, hh, rest⟩
  · simp [Value.ownBlock] at hr
  · simp only [Value.ownBlock] at hr
    have e : g = r := by simpa using hr
    subst e
    rw [hh] at ho; cases ho; rfl
theorem BO.kept {w w' : World} {base : Nat} {row : Option Nat} {v : Value} {xs : List (Int × Int)} (h : BO w base v xs) (hg : w.grownBy w' row) (hr : ∀ r, v.ownBlock = some r → row ≠ some r) : BO w' base v xs := by
  refine ⟨h.1, ?_⟩
  have hl := owns_lt h
  rcases h.2 with h2 | ⟨g, cap, cur, rfl, hgb, hh, rest⟩
  · exact .inl h2
  · have := hl g (by simp [Value.ownBlock])
    exact .inr ⟨g, cap, cur, rfl, hgb, by rw [hg.block g (by omega) (fun e => hr g (by simp [Value.ownBlock]) e.symm)]; exact hh, rest⟩
/-- the box holds a row of customers that the call owns -/
def HoldsB (W : World) (Bx base : Nat) (B : List (Int × Int)) : Prop := ∃ v, Boxed W Bx 23 v ∧ BO W base v B
theorem HoldsB.own {β : Type} (B0 Bx base : Nat) (f : β → List (Int × Int)) : OwnFrom B0 (fun s W => HoldsB W Bx base (f s)) := by
  intro s W W' row ⟨v, h1, h2⟩ hg hr
  refine ⟨v, h1.kept hg (fun e => ?_), h2.kept hg (fun r hv e => ?_)⟩
  · obtain ⟨_, o, ho, hc⟩ := hr Bx e.symm
    rw [show W.heap[Bx]? = _ from h1] at ho; cases ho; cases hc
  · obtain ⟨_, o, ho, hc⟩ := hr r e
    rw [h2.cellsObj r o hv ho] at hc; cases hc
theorem stepIn_B {F : Fence} {n : Nat} {w : World} {ops : Array Oper} {o : Oper} {a : Act} {K : Act → World → Prop} {Q : Exit → Act → World → Prop} {E : Prop} (hgd : o.guard = none) (s x : Operand)
    (ho : o.op = .call { callee := .builtin .append, args := #[s, x], argTypes := #[23, 23] })
    (base : Nat) (v : Value) (L : List (Int × Int)) (p q : Int) (B : Nat) (hs : a.eval s = v) (hown : BO w base v L) (hx : a.eval x = .slice (some ⟨B, 0, none⟩) 1 1)
    (hB : w.heap[B]? = some (.cells #[.int .i64 p, .int .i64 q] 27 (0, 0))) (hlen : L.length ≤ 1000000000000) (hbase : base ≤ w.heap.size)
    (h : ∀ g cap w', BO w' base (.slice (some ⟨g, 0, none⟩) (L.length + 1) cap) (L ++ [(p, q)]) → w.grownBy w' v.ownBlock → K (a.put o.dst (.slice (some ⟨g, 0, none⟩) (L.length + 1) cap)) w') :
    if Region.wanted o (yielded ops a.tmps) = true then Oper.wpIn F n Try.prog o a w K Q else E := by
  have hw : Region.wanted o (yielded ops a.tmps) = true := by simp [Region.wanted, hgd]
  rw [if_pos hw]
  obtain ⟨i0, hi, hz0, hz1, hz2⟩ := info_parts infoBo
  obtain ⟨g, cap, w', hrun, h1, h2, _⟩ := run_append_lies (P := Try.prog) (w := w) 23 o.type base 27 i0 _ 2 16 Try.underlying23 hi hz0 hz1 hz2 rfl (by decide) v L.length _ hown
    ⟨B, 0, none⟩ 1 1 [.int .i64 p, .int .i64 q] rfl (World.news_of_block (cs := #[.int .i64 p, .int .i64 q]) hB) (by simp [Value.oneCell']) (by decide) (by simp only [maxLen]; omega) (by omega) hbase _ rfl
  unfold Oper.wpIn
  refine ⟨?_, ?_⟩
  · simp [Oper.about, ho, resolve, Target.leads, Sem.run_pure]
  · rw [Oper.semAt_plain F _ _ (by rw [ho]; intro c hc'; cases hc')]
    simp [execOp, ho, resolve, invoke, builtin, hs, hx, hrun, Result.andThen]
    exact h _ _ _ (by simpa [BO, flatC_snoc] using h1) h2

set_option maxRecDepth 100000 in
set_option maxHeartbeats 4000000 in
theorem c_iBackOf (L : List (Int × Int)) (A : Option Addr) (c : Nat) (w : World) (hA : Cs w w.heap.size A L) (hcap : L.length ≤ c) (hn : L.length ≤ 140737488351232) :
    Calls Try.prog 28 #[.slice A L.length c] w fun e w' => ∃ v, e = .returned v ∧ BO w' w.heap.size v (backV L) ∧ Below w.heap.size w w' := by
  have HK := Lib.hid (c_iBothOk L A c w hA hn)
  by_cases h : bOk L = true
  · have H := Lib.hid h
    have HV := Lib.hid (show backV L = backAt L (downTo L.length L.length) from (backV_yes h).trans (backAt_down L).symm)
    have hl6 := (bOk_parts h).2
    clear h
    refine (callsIn_wide (n := 6)).1 ?_
    refine callsIn_of_wp_marks Try.func28 rfl trivial ?_ rfl
    simp only [Try.ntmps28, List.size_toArray, List.length_cons, List.length_nil, Nat.reduceAdd, Nat.reduceSub, Array.replicate_succ, Array.replicate_zero, List.push_toArray, List.append_toArray, List.nil_append, List.cons_append]
    gi_wp2_with (refine ⟨trivial, ?_⟩; gi_at_call 18; refine (callsIn_wide.2 HK.out).mono ?_; rw [H.out]; rintro e w1 ⟨rfl, hb1⟩)
    have hbs := hb1.size
    gi_wp2_with (refine ⟨trivial, ?_⟩; gi_at_call 61; refine (backwardB_in _ _ trivial rfl _ _ _ _).mono ?_; rintro e w' ⟨rfl, rfl⟩)
    obtain ⟨W0, hW0⟩ : ∃ W0, (w1.alloc (.cells #[.slice none 0 0] 23)).alloc (.cells #[.slice A L.length c] 23) = W0 := ⟨_, rfl⟩
    have bA0 := (Boxed.new w1 23 (.slice none 0 0)).alloc (.cells #[.slice A L.length c] 23)
    have bL0 := heap_alloc_new (w1.alloc (.cells #[.slice none 0 0] 23)) (.cells #[.slice A L.length c] 23)
    simp only [World.size_alloc] at bL0
    have hB0 : Below w.heap.size w ((w1.alloc (.cells #[.slice none 0 0] 23)).alloc (.cells #[.slice A L.length c] 23)) := (hb1.alloc hbs _).alloc (by simp; omega) _
    have hsz : ((w1.alloc (.cells #[.slice none 0 0] 23)).alloc (.cells #[.slice A L.length c] 23)).heap.size = w1.heap.size + 2 := by simp
    rw [hW0] at bA0 bL0 hB0 hsz ⊢
    clear hW0 hb1 HK
    refine wpIn_rangeFunc_ownH rfl (by omega) (gf := 81) (lb := #[.pointer (some ⟨w1.heap.size + 1, 0, none⟩)]) rfl trivial (enters_of Try.func81 (by kernel_rfl) rfl)
      (backwardB_stops Fence.wide _ trivial rfl (by omega) (w1.heap.size + 1) w.heap.size c A L hn W0 (by omega) bL0 (hA.below hB0)) Kpt.t (Kpt.b (by omega) (by omega)) (Below.refl _ _) (fun _ => rfl)
      (fun pre W => HoldsB W w1.heap.size (w1.heap.size + 2) (backAt L (pre.map Fin.val)) ∧ (Below w.heap.size w W ∧ W0.heap.size ≤ W.heap.size))
      (fun _ _ _ => False)
      (OwnFrom.and (HoldsB.own _ _ _ _) (OwnFrom.and (ownFrom_below (Nat.le_refl _) (by omega)) (fun s A B row hs hg hr => Nat.le_trans hs hg.size)))
      (fun _ _ _ _ _ hs _ _ => hs)
      ⟨⟨_, bA0, BO.nil _ _⟩, hB0, Nat.le_refl _⟩
      (fun x a' W => ∃ Bx, w1.heap.size + 1 < Bx ∧ Bx < W.heap.size ∧ (W.cell? ⟨Bx, 0, none⟩ = some (.int .i64 (X L x.1)) ∧ W.cell? ⟨Bx, 1, none⟩ = some (.int .i64 (Y L x.1))) ∧ a' = { tmps := #[.slice A L.length c, undef, .slice none 0 0, .pointer (some ⟨w1.heap.size, 0, none⟩), undef, .pointer (some ⟨Bx, 0, none⟩), .slice A L.length c, .bool true, .bool false, .slice A L.length c, .func (.func 81) #[] #[.pointer (some ⟨w1.heap.size + 1, 0, none⟩)], .int .i64 (x.1 : Int), .agg #[.int .i64 (X L x.1), .int .i64 (Y L x.1)], undef, undef, undef, undef, undef, undef], defers := [] })
      (fun x a' _ P Q row hs hg hr => by obtain ⟨Bx, h1, h0, ⟨h2, h3⟩, h4⟩ := hs; exact ⟨Bx, h1, Nat.lt_of_lt_of_le h0 hg.size, ⟨cell_kept h2 hg (fun r e => (hr r e).2), cell_kept h3 hg (fun r e => (hr r e).2)⟩, h4⟩)
      ?assign ?body ?done ?stop
    case assign =>
      rintro l pre x W K ⟨⟨v, bL1, hown⟩, hB1, hZ⟩ hK
      gi_wp2
      have hz := heap_alloc_new W (.cells #[.int .i64 (X L x.1), .int .i64 (Y L x.1)] 27)
      have hq := fun o => cell_of_row _ W.heap.size o _ _ _ hz
      exact hK _ _ ((KeepsOthers.alloc _ _).from _) ⟨(Below.refl _ W).alloc hB1.size _, Below.heap_alloc _ _ _ (by omega)⟩ ⟨⟨v, bL1.alloc _, hown.alloc _⟩, hB1.alloc hB1.size _, by simp; omega⟩ ⟨W.heap.size, by omega, by simp, ⟨hq 0, hq 1⟩, rfl⟩
    case body =>
      rintro l pre x a' W hl ⟨r, hr⟩ ⟨⟨v, bA, hown⟩, hB1, hZ⟩ ⟨Bx, hBx, hBz, ⟨cX, cY⟩, rfl⟩ hlt
      have cA := bA.cell
      have fA := bA.frozen
      have hbl := backAt_len L (pre.map Fin.val)
      rw [List.length_map] at hbl
      have HS := Lib.hid (show backAt L ((pre ++ [x]).map Fin.val) = backAt L (pre.map Fin.val) ++ [(Y L x.1, X L x.1)] by rw [List.map_append, List.map_cons, List.map_nil, backAt_snoc])
      have hbv := owns_base hown
      have hcv := hown.cellsObj
      have HX := Lib.hid (fun W => c_exchanged (X L x.1) (Y L x.1) W)
      have hmx : Try.prog.follows .mixedOrders = true := by kernel_rfl
      generalize backAt L (pre.map Fin.val) = M at *
      have HE : Hid (∀ (w5 : World) (g7 cap7 : Nat) (w7 : World), Below W.heap.size W w5 → BO w7 (w1.heap.size + 2) (.slice (some ⟨g7, 0, none⟩) (M.length + 1) cap7) (M ++ [(Y L x.1, X L x.1)]) → (w5.alloc (.cells #[.int .i64 (Y L x.1), .int .i64 (X L x.1)] 27)).grownBy w7 v.ownBlock →
          KeepsFrom (w1.heap.size + 2) W (w7.setCell ⟨w1.heap.size, 0, none⟩ (.slice (some ⟨g7, 0, none⟩) (M.length + 1) cap7)) ∧ Kpt w.heap.size (w1.heap.size + 1) W (w7.setCell ⟨w1.heap.size, 0, none⟩ (.slice (some ⟨g7, 0, none⟩) (M.length + 1) cap7)) ∧
          HoldsB (w7.setCell ⟨w1.heap.size, 0, none⟩ (.slice (some ⟨g7, 0, none⟩) (M.length + 1) cap7)) w1.heap.size (w1.heap.size + 2) (M ++ [(Y L x.1, X L x.1)]) ∧ Below w.heap.size w (w7.setCell ⟨w1.heap.size, 0, none⟩ (.slice (some ⟨g7, 0, none⟩) (M.length + 1) cap7)) ∧ w1.heap.size + 2 ≤ (w7.setCell ⟨w1.heap.size, 0, none⟩ (.slice (some ⟨g7, 0, none⟩) (M.length + 1) cap7)).heap.size) := by
        intro w5 g7 cap7 w7 hbx5 own7 hgr7
        have hs5 := hbx5.size
        have hs7 := hgr7.size
        simp only [World.size_alloc] at hs7
        have own5 := (hown.below hbx5 (Nat.le_refl _)).alloc (.cells #[.int .i64 (Y L x.1), .int .i64 (X L x.1)] 27)
        have bA5 : Boxed w5 w1.heap.size 23 v := (hbx5.block _ bA.lt).trans bA
        have bA7 := (bA5.alloc (.cells #[.int .i64 (Y L x.1), .int .i64 (X L x.1)] 27)).kept hgr7 (fun e => by have := hbv _ e.symm; omega)
        have hzs : (w7.setCell ⟨w1.heap.size, 0, none⟩ (.slice (some ⟨g7, 0, none⟩) (M.length + 1) cap7)).heap.size = w7.heap.size := by simp [World.setCell]
        have hB1s := hB1.size
        have hbW : Below w.heap.size W (w7.setCell ⟨w1.heap.size, 0, none⟩ (.slice (some ⟨g7, 0, none⟩) (M.length + 1) cap7)) := (((hbx5.mono hB1s).alloc (by omega) _).grown hgr7 (by simp; omega) (fun k e => by have := hbv k e; omega)).setCell (p := ⟨w1.heap.size, 0, none⟩) hbs _
        refine ⟨((((KeepsOthers.of_grownBy (row := none) (grown_below hbx5 (Nat.le_refl _)) (fun j o e ho => by cases e)).trans (KeepsOthers.of_grownBy (World.grownBy_alloc w5 _ none) (fun j o e ho => by cases e))).trans (KeepsOthers.of_grownBy hgr7 (fun j o e ho => own5.cellsObj j o e ho))).trans (KeepsOthers.setCell _ _ _)).from _, ⟨hbW, ?_⟩, ⟨_, bA7.set _, ?_⟩, hB1.trans hbW, by omega⟩
        · exact (Below.heap_setCell _ _ _ _ (show w1.heap.size + 1 ≠ w1.heap.size by omega)).trans ((hgr7.block _ (by simp; omega) (fun e => by have := hbv _ e.symm; omega)).trans ((Below.heap_alloc _ _ _ (by omega)).trans (hbx5.block _ (by omega))))
        · exact own7.kept (grownBy_setCell' _ _ _) (fun r hr e => by have := owns_base own7 r hr; cases e; omega)
      have hMl : M.length ≤ 6 := by omega
      clear hbl
      gi_wp2
      refine wpIn_region_any hmx ?_
      change wpAnyIn _ _ _ _ _ _ _ _ _ (World.drew _)
      refine wpAnyIn_ready (rs := [0, 1]) (by kernel_rfl) (by simp) ?_
      refine AllReadyIn.cons rfl (fun K hK => ?_) (AllReadyIn.cons rfl (fun K hK => ?_) AllReadyIn.nil)
      · go_simp
        refine hK _ _ ?_
        clear hK K
        refine wpAnyIn_ready (rs := [1]) (by kernel_rfl) (by simp) ?_
        refine AllReadyIn.cons rfl (fun K hK => ?_) AllReadyIn.nil
        go_simp
        refine hK _ _ ?_
        clear hK K
        refine wpAnyIn_ready (rs := [2]) (by kernel_rfl) (by simp) ?_
        refine AllReadyIn.cons rfl (fun K hK => ?_) AllReadyIn.nil
        go_simp
        gi_wp2_with (refine ⟨trivial, ?_⟩; gi_at_call 62; refine (CallsIn.inRound l (callsIn_wide.2 (HX.out _))).mono ?_; rintro e w5 ⟨rfl, hb5⟩; have hbx5 : Below W.heap.size W w5 := (Below.refl _ W).drew.trans hb5; have own5 := hown.below hbx5 (Nat.le_refl _); have bA5 : Boxed w5 w1.heap.size 23 v := (hbx5.block _ bA.lt).trans bA; have cA5 := bA5.cell; have bA6 := bA5.alloc (.cells #[.int .i64 (Y L x.1), .int .i64 (X L x.1)] 27); have cA6 := bA6.cell; have hs5 := hbx5.size)
        first | (refine hK _ _ ?_; clear hK K) | skip
        refine wpAnyIn_ready (rs := [3]) (by kernel_rfl) (by simp) ?_
        refine AllReadyIn.cons rfl (fun K hK => ?_) AllReadyIn.nil
        go_simp
        refine hK _ _ ?_
        clear hK K
        refine wpAnyIn_ready (rs := [4]) (by kernel_rfl) (by simp) ?_
        refine AllReadyIn.cons rfl (fun K hK => ?_) AllReadyIn.nil
        refine stepIn_B (by rfl) (.tmp 13) (.tmp 16) (by rfl) (w1.heap.size + 2) v M (Y L x.1) (X L x.1) w5.heap.size (by rfl) (own5.alloc _) (by rfl) (heap_alloc_new _ _) (by omega) (by simp; omega) ?_
        intro g7 cap7 w7 own7 hgr7
        have bA7 := bA6.kept hgr7 (fun e => by have := hbv _ e.symm; omega)
        have cA7 := bA7.cell
        have fA7 := bA7.frozen
        refine hK _ _ ?_
        clear hK K
        refine wpAnyIn_ready (rs := [5]) (by kernel_rfl) (by simp) ?_
        refine AllReadyIn.cons rfl (fun K hK => ?_) AllReadyIn.nil
        go_simp
        refine hK _ _ ?_
        clear hK K
        refine wpAnyIn_done (by kernel_rfl) ?_ _
        (obtain ⟨r1, r2, r3, r4, r5⟩ := HE.out w5 g7 cap7 w7 hbx5 own7 hgr7; rw [← hsz] at r1; exact ⟨r1, r2, by rw [HS.out]; exact r3, r4, by omega⟩)
      · go_simp
        refine hK _ _ ?_
        clear hK K
        refine wpAnyIn_ready (rs := [0, 2]) (by kernel_rfl) (by simp) ?_
        refine AllReadyIn.cons rfl (fun K hK => ?_) (AllReadyIn.cons rfl (fun K hK => ?_) AllReadyIn.nil)
        · go_simp
          refine hK _ _ ?_
          clear hK K
          refine wpAnyIn_ready (rs := [2]) (by kernel_rfl) (by simp) ?_
          refine AllReadyIn.cons rfl (fun K hK => ?_) AllReadyIn.nil
          go_simp
          gi_wp2_with (refine ⟨trivial, ?_⟩; gi_at_call 62; refine (CallsIn.inRound l (callsIn_wide.2 (HX.out _))).mono ?_; rintro e w5 ⟨rfl, hb5⟩; have hbx5 : Below W.heap.size W w5 := (Below.refl _ W).drew.trans hb5; have own5 := hown.below hbx5 (Nat.le_refl _); have bA5 : Boxed w5 w1.heap.size 23 v := (hbx5.block _ bA.lt).trans bA; have cA5 := bA5.cell; have bA6 := bA5.alloc (.cells #[.int .i64 (Y L x.1), .int .i64 (X L x.1)] 27); have cA6 := bA6.cell; have hs5 := hbx5.size)
          first | (refine hK _ _ ?_; clear hK K) | skip
          refine wpAnyIn_ready (rs := [3]) (by kernel_rfl) (by simp) ?_
          refine AllReadyIn.cons rfl (fun K hK => ?_) AllReadyIn.nil
          go_simp
          refine hK _ _ ?_
          clear hK K
          refine wpAnyIn_ready (rs := [4]) (by kernel_rfl) (by simp) ?_
          refine AllReadyIn.cons rfl (fun K hK => ?_) AllReadyIn.nil
          refine stepIn_B (by rfl) (.tmp 13) (.tmp 16) (by rfl) (w1.heap.size + 2) v M (Y L x.1) (X L x.1) w5.heap.size (by rfl) (own5.alloc _) (by rfl) (heap_alloc_new _ _) (by omega) (by simp; omega) ?_
          intro g7 cap7 w7 own7 hgr7
          have bA7 := bA6.kept hgr7 (fun e => by have := hbv _ e.symm; omega)
          have cA7 := bA7.cell
          have fA7 := bA7.frozen
          refine hK _ _ ?_
          clear hK K
          refine wpAnyIn_ready (rs := [5]) (by kernel_rfl) (by simp) ?_
          refine AllReadyIn.cons rfl (fun K hK => ?_) AllReadyIn.nil
          go_simp
          refine hK _ _ ?_
          clear hK K
          refine wpAnyIn_done (by kernel_rfl) ?_ _
          (obtain ⟨r1, r2, r3, r4, r5⟩ := HE.out w5 g7 cap7 w7 hbx5 own7 hgr7; rw [← hsz] at r1; exact ⟨r1, r2, by rw [HS.out]; exact r3, r4, by omega⟩)
        · go_simp
          gi_wp2_with (refine ⟨trivial, ?_⟩; gi_at_call 62; refine (CallsIn.inRound l (callsIn_wide.2 (HX.out _))).mono ?_; rintro e w5 ⟨rfl, hb5⟩; have hbx5 : Below W.heap.size W w5 := (Below.refl _ W).drew.trans hb5; have own5 := hown.below hbx5 (Nat.le_refl _); have bA5 : Boxed w5 w1.heap.size 23 v := (hbx5.block _ bA.lt).trans bA; have cA5 := bA5.cell; have bA6 := bA5.alloc (.cells #[.int .i64 (Y L x.1), .int .i64 (X L x.1)] 27); have cA6 := bA6.cell; have hs5 := hbx5.size)
          first | (refine hK _ _ ?_; clear hK K) | skip
          refine wpAnyIn_ready (rs := [0, 3]) (by kernel_rfl) (by simp) ?_
          refine AllReadyIn.cons rfl (fun K hK => ?_) (AllReadyIn.cons rfl (fun K hK => ?_) AllReadyIn.nil)
          · go_simp
            refine hK _ _ ?_
            clear hK K
            refine wpAnyIn_ready (rs := [3]) (by kernel_rfl) (by simp) ?_
            refine AllReadyIn.cons rfl (fun K hK => ?_) AllReadyIn.nil
            go_simp
            refine hK _ _ ?_
            clear hK K
            refine wpAnyIn_ready (rs := [4]) (by kernel_rfl) (by simp) ?_
            refine AllReadyIn.cons rfl (fun K hK => ?_) AllReadyIn.nil
            refine stepIn_B (by rfl) (.tmp 13) (.tmp 16) (by rfl) (w1.heap.size + 2) v M (Y L x.1) (X L x.1) w5.heap.size (by rfl) (own5.alloc _) (by rfl) (heap_alloc_new _ _) (by omega) (by simp; omega) ?_
            intro g7 cap7 w7 own7 hgr7
            have bA7 := bA6.kept hgr7 (fun e => by have := hbv _ e.symm; omega)
            have cA7 := bA7.cell
            have fA7 := bA7.frozen
            refine hK _ _ ?_
            clear hK K
            refine wpAnyIn_ready (rs := [5]) (by kernel_rfl) (by simp) ?_
            refine AllReadyIn.cons rfl (fun K hK => ?_) AllReadyIn.nil
            go_simp
            refine hK _ _ ?_
            clear hK K
            refine wpAnyIn_done (by kernel_rfl) ?_ _
            (obtain ⟨r1, r2, r3, r4, r5⟩ := HE.out w5 g7 cap7 w7 hbx5 own7 hgr7; rw [← hsz] at r1; exact ⟨r1, r2, by rw [HS.out]; exact r3, r4, by omega⟩)
          · go_simp
            refine hK _ _ ?_
            clear hK K
            refine wpAnyIn_ready (rs := [0]) (by kernel_rfl) (by simp) ?_
            refine AllReadyIn.cons rfl (fun K hK => ?_) AllReadyIn.nil
            go_simp
            refine hK _ _ ?_
            clear hK K
            refine wpAnyIn_ready (rs := [4]) (by kernel_rfl) (by simp) ?_
            refine AllReadyIn.cons rfl (fun K hK => ?_) AllReadyIn.nil
            refine stepIn_B (by rfl) (.tmp 13) (.tmp 16) (by rfl) (w1.heap.size + 2) v M (Y L x.1) (X L x.1) w5.heap.size (by rfl) (own5.alloc _) (by rfl) (heap_alloc_new _ _) (by omega) (by simp; omega) ?_
            intro g7 cap7 w7 own7 hgr7
            have bA7 := bA6.kept hgr7 (fun e => by have := hbv _ e.symm; omega)
            have cA7 := bA7.cell
            have fA7 := bA7.frozen
            refine hK _ _ ?_
            clear hK K
            refine wpAnyIn_ready (rs := [5]) (by kernel_rfl) (by simp) ?_
            refine AllReadyIn.cons rfl (fun K hK => ?_) AllReadyIn.nil
            go_simp
            refine hK _ _ ?_
            clear hK K
            refine wpAnyIn_done (by kernel_rfl) ?_ _
            (obtain ⟨r1, r2, r3, r4, r5⟩ := HE.out w5 g7 cap7 w7 hbx5 own7 hgr7; rw [← hsz] at r1; exact ⟨r1, r2, by rw [HS.out]; exact r3, r4, by omega⟩)
    case done =>
      rintro D ys W hD hys ⟨⟨v, bA, hown⟩, hB1, hZ⟩ hK
      have cA := bA.cell
      rw [hys] at hown
      gi_wp2
      refine ⟨by simp, .inl ⟨_, _, rfl, run_takeDeferred hK, ?_⟩⟩
      refine ⟨_, results_tmp rfl _ _ _, _, rfl, ?_, hB1.trans (belowK_b (w := w) (Nat.le_refl _) W D _ _ (by omega) hK rfl rfl)⟩
      rw [HV.out]
      exact (hown.mono (by omega)).kept (grownBy_putObj' W D _) (fun r hv e => by cases e; have := hown.cellsObj _ _ hv hK; cases this)
    case stop =>
      rintro D cd pre W _ _ h _
      exact h.elim
  · have hno : bOk L = false := by simpa using h
    have H := Lib.hid hno
    have HV := Lib.hid (backV_no hno)
    clear h hno
    go_enter Try.func28, Try.ntmps28
    go_wp2_with fail
    refine HK.out.mono ?_
    rintro e w1 ⟨rfl, hb1⟩
    rw [H.out]
    go_wp2_with fail
    go_ret
    exact ⟨_, rfl, by rw [HV.out]; exact BO.nil _ _, hb1⟩

end Go.Proofs.Ytofjfhifldafcaa

