/- impl.workFrom0: a function that yields the times 0, 1, .. 200, each with the work then; the list lies in a box. · impl.WorkAt, by a range over the function of XN1. · impl.ServedBy, by a range over the function of XN1 that breaks. -/
import Derived.Test.YtecoefjkobpbgaaR
import Derived.Test.YtecoefjkobpbgaaK1
import Derived.Test.YtecoefjkobpbgaaR2
namespace Go.Proofs.Ytecoefjkobpbgaa
set_option linter.unusedVariables false
open Go.RowKit Go.Shelf
attribute [local go_sem] Oper.semAt_some

/-- the work in the midst of a time's arrivals: those up to j have been added -/
def wkTo (L : List (Int × Int)) (t : Nat) (j : Nat) : Int := carry L t + (sumTo L j - sumTo L (cnt L ((t : Int) - 1)))
theorem wkTo_first (L : List (Int × Int)) (t : Nat) : wkTo L t (cnt L ((t : Int) - 1)) = carry L t := by unfold wkTo; omega
theorem wkTo_last {L : List (Int × Int)} (h : cOk L = true) (t : Nat) : wkTo L t (cnt L t) = wk L t := by
  have a := arr_cnt h (t : Int)
  have b := wk_carry L t
  unfold wkTo; omega
theorem wkTo_succ (L : List (Int × Int)) (t j : Nat) : wkTo L t (j + 1) = wkTo L t j + Y L j := by simp only [wkTo, sumTo]; omega
theorem carry_bd {L : List (Int × Int)} (h : cOk L = true) (t : Nat) : 0 ≤ carry L t ∧ carry L t ≤ 72 := by
  cases t with
  | zero => simp [carry]
  | succ u => have := wk_bd h u; simp only [carry]; omega
theorem wkTo_bd {L : List (Int × Int)} (h : cOk L = true) (t j : Nat) (hj : j ≤ L.length) : -72 ≤ wkTo L t j ∧ wkTo L t j ≤ 144 := by
  have := carry_bd h t
  have := sumTo_le h hj
  have := sumTo_le h (cnt_le L ((t : Int) - 1))
  unfold wkTo; omega
theorem cnt_zero {L : List (Int × Int)} (h : cOk L = true) : cnt L (((0 : Nat) : Int) - 1) = 0 := cnt_neg h

set_option maxRecDepth 100000 in
set_option maxHeartbeats 4000000 in
theorem workFrom1_in (F : Fence) (n : Nat) (h58 : F.fn 68) (hro : F.round = none) (hn : 1 ≤ n) (l Bl B cap : Nat) (A : Option Addr) (L : List (Int × Int)) (hok : cOk L = true)
    (J Jx : List (Fin 201) → World → Prop) (W : World)
    (hY : ∀ pre x W1, J pre W1 → x.1 = pre.length → YieldAt F (n - 1) Try.prog l #[.int .i64 (x.1 : Int), .int .i64 (wk L x.1)] W1 fun e W' =>
      (e = .returned (.bool true) ∧ J (pre ++ [x]) W' ∧ Kpt B Bl W1 W') ∨ (e = .returned (.bool false) ∧ Jx (pre ++ [x]) W'))
    (hBl : W.heap[Bl]? = some (.cells #[.slice A L.length cap] 23 (0, 0))) (hc : Cs W B A L) (h0 : J [] W) :
    CallsIn F n Try.prog 68 #[.func (.yield l) #[] #[], .pointer (some ⟨Bl, 0, none⟩)] W fun e W' => (∃ v, e = .returned v) ∧
      ((∃ ys, (ys.map Fin.val = List.range 201) ∧ J ys W') ∨ (∃ pre, (∃ k, pre.map Fin.val = List.range (k + 1)) ∧ Jx pre W')) := by
  have Hbd := Lib.hid (fun k => @cOk_bd L k hok)
  have Hlt := Lib.hid (fun t j hj => @lt_cnt L hok t j hj)
  have Hwt := Lib.hid (fun t j hj => @wkTo_bd L hok t j hj)
  have Hwk := Lib.hid (fun t => @wk_bd L hok t)
  have Hcb := Lib.hid (fun t => @carry_bd L hok t)
  have Hlast := Lib.hid (fun t => @wkTo_last L hok t)
  have Hcz := Lib.hid (cnt_zero hok)
  have hlen := cOk_len hok
  refine callsIn_of_wp Try.func68 rfl h58 ?_ hro
  simp only [Try.ntmps68, List.size_toArray, List.length_cons, List.length_nil, Nat.reduceAdd, Nat.reduceSub, Array.replicate_succ, Array.replicate_zero, List.push_toArray, List.append_toArray, List.nil_append, List.cons_append]
  gi_wp2
  gi_loopw [3, 4, 6] (fun q c i wr => ∃ (t : Nat) (pre : List (Fin 201)), t ≤ 201 ∧ i = .int .i64 t ∧ q = .int .i64 (carry L t) ∧ c = .int .i64 (cnt L ((t : Int) - 1)) ∧ pre.map Fin.val = List.range t ∧ J pre wr ∧ Kpt B Bl W wr)
    (fun _ _ i _ => 201 - (intOf i).toNat)
  case atStart => exact ⟨0, [], by omega, rfl, rfl, by rw [Hcz.out]; rfl, rfl, h0, Below.refl _ _, rfl⟩
  case round =>
    obtain ⟨t, pre, ht, rfl, rfl, rfl, hpre, hJs, hnx⟩ := hrel
    have hbr : wr.cell? ⟨Bl, 0, none⟩ = some (.slice A L.length cap) := by simp [World.cell?, hnx.2, hBl]
    by_cases hlt : t < 201
    · have hcl := cnt_le' L (t : Int)
      have hcl2 := cnt_le L (t : Int)
      have hlt' : (t : Int) < 201 := by omega
      have Hf := Lib.hid (wkTo_first L t)
      gi_wp2
      gi_loop [3, 4] (fun s i => ∃ j : Nat, cnt L ((t : Int) - 1) ≤ j ∧ j ≤ cnt L t ∧ i = .int .i64 j ∧ s = .int .i64 (wkTo L t j)) (fun _ i => L.length - (intOf i).toNat)
      case atStart => exact ⟨cnt L ((t : Int) - 1), Nat.le_refl _, hcl, rfl, by rw [Hf.out]⟩
      case round =>
        obtain ⟨j, hj1, hj2, rfl, rfl⟩ := hrel
        have bw := Hwt.out t j (by omega)
        by_cases hjl : j < L.length
        · obtain ⟨b, off, rfl, hlb, hcc⟩ := hc (by omega)
          have c1 := (hnx.1.cell (p := ⟨b, off + j * 2, none⟩) hlb).trans (hcc j hjl).1
          have c2 := (hnx.1.cell (p := ⟨b, off + j * 2 + 1, none⟩) hlb).trans (hcc j hjl).2
          have b2 := Hbd.out j hjl
          have hjl' : (j : Int) < (L.length : Int) := by omega
          have hj0' : (0 : Int) ≤ (j : Int) := by omega
          have hjc := Hlt.out (t : Int) j hjl
          clear hcc
          by_cases he : X L j ≤ t
          · have E := Lib.hid (wkTo_succ L t j)
            have hjc2 := hjc.2 he
            clear hjc
            gi_wp2
            go_round
            case rel => exact ⟨j + 1, by omega, by omega, by go_num, by rw [E.out]⟩
            case measure => simp [intOf]; omega
          · have hje : j = cnt L t := by
              have : ¬ j < cnt L t := fun x => he (hjc.1 x)
              omega
            clear hjc
            subst hje
            rw [Hlast.out] at bw ⊢
            have hpl : pre.length = t := by rw [← List.length_map (f := Fin.val), hpre]; simp
            obtain ⟨x, hx⟩ : ∃ x : Fin 201, x.1 = t := ⟨⟨t, hlt⟩, rfl⟩
            obtain ⟨fn, tmps, assign, body, hy, hR⟩ := hY pre x wr hJs (by omega)
            rw [hx] at hy
            have HX := Lib.hid hx; clear hx
            have Hpre := Lib.hid hpre; clear hpre hpl
            have bw2 := Hwk.out t
            gi_wp2
            refine hR.mono ?_
            rintro e W3 (⟨rfl, hJ3, hk3⟩ | ⟨rfl, hJx3⟩)
            · gi_wp2
              go_roundw
              case rel =>
                refine ⟨t + 1, pre ++ [x], by omega, by go_num, ?_, ?_, ?_, hJ3, hnx.t hk3⟩
                · simp only [carry]
                  congr 1
                  omega
                · rw [show ((t + 1 : Nat) : Int) - 1 = t by omega]
                · rw [List.map_append, Hpre.out, List.range_succ]
                  simp only [List.map_cons, List.map_nil, HX.out]
              case measure => simp [intOf]; omega
            · gi_wp2
              refine bodyPost_ret (results_none rfl _ _ _) rfl ?_
              exact ⟨⟨_, rfl⟩, .inr ⟨pre ++ [x], ⟨t, by rw [List.map_append, Hpre.out, List.range_succ]; simp only [List.map_cons, List.map_nil, HX.out]⟩, hJx3⟩⟩
        · have hjf : ¬ ((j : Int) < (L.length : Int)) := by omega
          have hje : j = cnt L t := by omega
          subst hje
          rw [Hlast.out] at bw ⊢
          have hpl : pre.length = t := by rw [← List.length_map (f := Fin.val), hpre]; simp
          obtain ⟨x, hx⟩ : ∃ x : Fin 201, x.1 = t := ⟨⟨t, hlt⟩, rfl⟩
          obtain ⟨fn, tmps, assign, body, hy, hR⟩ := hY pre x wr hJs (by omega)
          rw [hx] at hy
          have HX := Lib.hid hx; clear hx
          have Hpre := Lib.hid hpre; clear hpre hpl
          have bw2 := Hwk.out t
          gi_wp2
          refine hR.mono ?_
          rintro e W3 (⟨rfl, hJ3, hk3⟩ | ⟨rfl, hJx3⟩)
          · gi_wp2
            go_roundw
            case rel =>
              refine ⟨t + 1, pre ++ [x], by omega, by go_num, ?_, ?_, ?_, hJ3, hnx.t hk3⟩
              · simp only [carry]
                congr 1
                omega
              · rw [show ((t + 1 : Nat) : Int) - 1 = t by omega]
              · rw [List.map_append, Hpre.out, List.range_succ]
                simp only [List.map_cons, List.map_nil, HX.out]
            case measure => simp [intOf]; omega
          · gi_wp2
            refine bodyPost_ret (results_none rfl _ _ _) rfl ?_
            exact ⟨⟨_, rfl⟩, .inr ⟨pre ++ [x], ⟨t, by rw [List.map_append, Hpre.out, List.range_succ]; simp only [List.map_cons, List.map_nil, HX.out]⟩, hJx3⟩⟩
    · have hlf : ¬ ((t : Int) < 201) := by omega
      gi_wp2
      go_end0
      obtain rfl : t = 201 := by omega
      exact ⟨⟨_, rfl⟩, .inl ⟨pre, hpre, hJs⟩⟩

end Go.Proofs.Ytecoefjkobpbgaa

namespace Go.Proofs.Ytecoefjkobpbgaa
set_option linter.unusedVariables false
open Go.RowKit Go.Shelf
attribute [local go_sem] Oper.semAt_some

set_option maxHeartbeats 1000000 in
theorem workFrom0_in (F : Fence) (n : Nat) (h56 : F.fn 49) (hro : F.round = none) (A : Option Addr) (len cap : Nat) (w : World) :
    CallsIn F n Try.prog 49 #[.slice A len cap] w fun e w' => e = .returned (.func (.func 68) #[] #[.pointer (some ⟨w.heap.size, 0, none⟩)]) ∧ w' = w.alloc (.cells #[.slice A len cap] 23) := by
  refine callsIn_of_wp Try.func49 rfl h56 ?_ hro
  simp only [Try.ntmps49, List.size_toArray, List.length_cons, List.length_nil, Nat.reduceAdd, Nat.reduceSub, Array.replicate_succ, Array.replicate_zero, List.push_toArray, List.append_toArray, List.nil_append, List.cons_append]
  gi_wp2
  go_ret
  exact ⟨rfl, rfl⟩

theorem workFrom0_stops (F : Fence) (n : Nat) (h58 : F.fn 68) (hro : F.round = none) (hn : 1 ≤ n) (Bl B cap : Nat) (A : Option Addr) (L : List (Int × Int)) (hok : cOk L = true) (w : World) (hB : B ≤ w.heap.size)
    (hBl : w.heap[Bl]? = some (.cells #[.slice A L.length cap] 23 (0, 0))) (hc : Cs w B A L) :
    SeqStopsK F n Try.prog 68 #[.pointer (some ⟨Bl, 0, none⟩)] (fun x : Fin 201 => #[Value.int .i64 (x.1 : Int), .int .i64 (wk L x.1)]) (Kpt B Bl)
      (fun ys => ys.map Fin.val = List.range 201) (fun pre => ∃ k, pre.map Fin.val = List.range (k + 1)) 201 w := fun l J Jx W hW _ _ hY h0 => by
  have h1 : Bl < w.heap.size := (Array.getElem?_eq_some_iff.1 hBl).1
  exact workFrom1_in F n h58 hro hn l Bl B cap A L hok J Jx W (fun pre x W1 h hx => hY pre x W1 h (by have := x.2; omega)) ((hW.block Bl h1).trans hBl) (hc.below (hW.mono hB)) h0

theorem momentOk_no {L : List (Int × Int)} {t : Int} (h : cOk L = false) : momentOk L t = false := by simp [momentOk, h]
theorem workV_at {L : List (Int × Int)} (h : cOk L = true) (x : Fin 201) : workV L (x.1 : Int) = wk L x.1 := by
  have hx := x.2
  rw [workV_yes (by simp [momentOk, h]; omega)]; simp
theorem workV_out {L : List (Int × Int)} {t : Int} {ys : List (Fin 201)} (hy : ys.map Fin.val = List.range 201) (h : ∀ x ∈ ys, (x.1 : Int) ≠ t) : workV L t = -1 := by
  refine workV_no ?_
  refine Bool.eq_false_iff.2 fun hm => ?_
  obtain ⟨n, rfl, hn, -⟩ := momentOk_nat hm
  have hmem : n ∈ ys.map Fin.val := by rw [hy]; exact List.mem_range.2 (by omega)
  obtain ⟨x, hx, e⟩ := List.mem_map.1 hmem
  exact h x hx (by rw [e])

end Go.Proofs.Ytecoefjkobpbgaa

namespace Go.Proofs.Ytecoefjkobpbgaa
set_option linter.unusedVariables false
open Go.RowKit Go.Shelf
attribute [local go_sem] Oper.semAt_some

/-- the units with work, of the times gone through -/
def srvOf (L : List (Int × Int)) (pre : List Nat) : Int := pre.foldl (fun s t => s + (if 0 < wk L t then 1 else 0)) 0
theorem srvOf_snoc (L : List (Int × Int)) (pre : List Nat) (t : Nat) : srvOf L (pre ++ [t]) = srvOf L pre + (if 0 < wk L t then 1 else 0) := by simp [srvOf]
theorem srvOf_range (L : List (Int × Int)) (k : Nat) : srvOf L (List.range k) = srv L k := by
  induction k with
  | zero => rfl
  | succ k ih => rw [List.range_succ, srvOf_snoc, ih]; rfl
theorem srvOf_bd (L : List (Int × Int)) (pre : List Nat) : 0 ≤ srvOf L pre ∧ srvOf L pre ≤ pre.length := by
  have key : ∀ n, ∀ pre : List Nat, pre.length = n → 0 ≤ srvOf L pre ∧ srvOf L pre ≤ pre.length := by
    intro n
    induction n with
    | zero => intro pre hp; rw [List.eq_nil_of_length_eq_zero hp]; simp [srvOf]
    | succ n ih =>
      intro pre hp
      rcases List.eq_nil_or_concat pre with rfl | ⟨pre', x, rfl⟩
      · simp at hp
      · rw [List.concat_eq_append] at hp ⊢
        have i := ih pre' (by simpa using hp)
        rw [srvOf_snoc, List.length_append]
        split <;> simp <;> omega
  exact key _ pre rfl

end Go.Proofs.Ytecoefjkobpbgaa

