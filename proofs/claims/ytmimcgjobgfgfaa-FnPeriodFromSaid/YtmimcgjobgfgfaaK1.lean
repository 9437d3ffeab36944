/- spec.l3Work, spec.WorkAt, spec.ServedBy · spec.BusyOf · spec.ComeIn -/
import Derived.Test.YtmimcgjobgfgfaaB
import Derived.Test.YtmimcgjobgfgfaaO
import Derived.Test.YtmimcgjobgfgfaaM
namespace Go.Proofs.Ytmimcgjobgfgfaa
set_option linter.unusedVariables false
open Go.RowKit
attribute [local go_sem ↓] Go.wp_at_zero Go.wp_at_succ

theorem Z_workTo {L : List (Int × Int)} {n k : Nat} (h : k < n) : Z (workTo L n) k = wk L k := by simp [Z, workTo, h]

set_option maxHeartbeats 4000000 in
theorem c_l3Work (L : List (Int × Int)) (h : cOk L = true) (A : Option Addr) (c : Nat) (m : Nat) (hm : m ≤ 200) (w : World) (hA : Cs w w.heap.size A L) (hn : L.length ≤ 140737488351232) :
    Calls Try.prog 47 #[.slice A L.length c, .int .i64 m] w fun e w' => ∃ v, e = .returned v ∧ IO w' w.heap.size v (workTo L (m + 1)) ∧ Below w.heap.size w w' := by
  have Hbd := Lib.hid (fun k => @cOk_bd L k h)
  have Harr := Lib.hid (fun t j hj => @arrTo_nn L h t j hj)
  have Hwk := Lib.hid (fun t => @wk_bd L h t)
  have hlen := cOk_len h
  clear h
  go_enter Try.func47, Try.ntmps47
  go_wp2_with fail
  go_loopw [5, 6, 7] (fun o s i wr => ∃ t : Nat, t ≤ m + 1 ∧ i = .int .i64 t ∧ s = .int .i64 (carry L t) ∧ IO wr w.heap.size o (workTo L t) ∧ Below w.heap.size w wr)
    (fun _ _ i _ => m + 1 - (intOf i).toNat)
  case atStart => exact ⟨0, by omega, rfl, rfl, IO.empty _ (Nat.le_refl _), by (repeat (first | exact rfl | exact Below.refl _ _ | (with_reducible refine Below.drew ?_) | (with_reducible refine Below.drewN ?_ _) | (with_reducible refine Below.alloc ?_ ?_ _) | (with_reducible refine Below.setCell ?_ ?_ _) | (show _ ≤ _; focus (first | omega | (simp; done) | (simp; omega)))))⟩
  case round =>
    obtain ⟨t, ht, rfl, rfl, hown, hb⟩ := hrel
    have hsz := hb.size
    by_cases hlt : t ≤ m
    · have bw := Hwk.out t
      have hwc := wk_carry L t
      have bc : 0 ≤ carry L t ∧ carry L t ≤ 72 := by
        have := (Harr.out (t : Int) L.length (Nat.le_refl _)).1
        cases t with
        | zero => simp [carry]
        | succ u => have := Hwk.out u; simp only [carry]; omega
      have HWC := Lib.hid hwc
      clear hwc
      go_wp2_with fail
      go_loop [6, 8] (fun s i => ∃ j : Nat, j ≤ L.length ∧ i = .int .i64 j ∧ s = .int .i64 (carry L t + arrTo L t j))
        (fun _ i => L.length - (intOf i).toNat)
      case atStart => exact ⟨0, by omega, rfl, by simp [arrTo]⟩
      case round =>
        obtain ⟨j, hj, rfl, rfl⟩ := hrel
        by_cases hjl : j < L.length
        · obtain ⟨b, off, rfl, hlb, hc⟩ := hA (by omega)
          have c1 := (hb.cell (p := ⟨b, off + j * 2, none⟩) hlb).trans (hc j hjl).1
          have c2 := (hb.cell (p := ⟨b, off + j * 2 + 1, none⟩) hlb).trans (hc j hjl).2
          clear hc
          have b1 := Harr.out (t : Int) j (by omega)
          have b2 := Hbd.out j hjl
          by_cases he : X L j = t
          · have heb : (X L j == (t : Int)) = true := beq_iff_eq.2 he
            have E := Lib.hid (show arrTo L t (j + 1) = arrTo L t j + Y L j by simp only [arrTo]; rw [if_pos he])
            clear he
            go_wp2_with fail
            go_round
            case rel => exact ⟨j + 1, by omega, by go_num, by rw [E.out]; simp; omega⟩
            case measure => simp [intOf]; omega
          · have heb : (X L j == (t : Int)) = false := beq_eq_false_iff_ne.2 he
            have E := Lib.hid (show arrTo L t (j + 1) = arrTo L t j by simp only [arrTo]; rw [if_neg he]; omega)
            clear he
            go_wp2_with fail
            go_round
            case rel => exact ⟨j + 1, by omega, by go_num, by rw [E.out]⟩
            case measure => simp [intOf]; omega
        · have hjf : ¬ ((j : Int) < (L.length : Int)) := by omega
          have hv : carry L t + arrTo L t j = wk L t := by rw [HWC.out, show j = L.length by omega]; rfl
          rw [hv]
          clear hv
          have q5 : (workTo L t).length ≤ 1000000000000 := by rw [workTo_len]; omega
          go_wp2_with (refine app_I ?_ (.tmp 35) (.tmp 37) ?_ w.heap.size u5 (workTo L t) (wk L t) wr.heap.size ?_ ?_ ?_ ?_ ?_ ?_ ?_; rfl; rfl; rfl; exact (hown.alloc _); rfl; exact (heap_alloc_new _ _); exact q5; exact (Nat.le_trans hsz (by simp)); intro g7 cap w7 hown7 hgr7 hb7)
          go_roundw
          case rel =>
            refine ⟨t + 1, by omega, by go_num, ?_, by rw [workTo_succ]; exact hown7, ?_⟩
            · simp only [carry]
              congr 1
              split <;> omega
            · refine Below.trans ?_ hb7
              (repeat (first | exact hb | exact Below.refl _ _ | (with_reducible refine Below.drew ?_) | (with_reducible refine Below.drewN ?_ _) | (with_reducible refine Below.alloc ?_ ?_ _) | (with_reducible refine Below.setCell ?_ ?_ _) | (show _ ≤ _; focus (first | omega | (simp; done) | (simp; omega)))))
          case measure => simp [intOf]; omega
    · have hlf : ¬ ((t : Int) ≤ (m : Int)) := by omega
      go_wp2_with fail
      go_ret
      refine ⟨_, rfl, ?_, hb⟩
      rw [show m + 1 = t by omega]
      exact hown

end Go.Proofs.Ytmimcgjobgfgfaa

namespace Go.Proofs.Ytmimcgjobgfgfaa
set_option linter.unusedVariables false
open Go.RowKit
attribute [local go_sem ↓] Go.wp_at_zero Go.wp_at_succ

def rows (B : List (Int × Int)) : List (List Int) := B.map fun c => [c.1, c.2]
theorem rows_len (B : List (Int × Int)) : (rows B).length = B.length := by simp [rows]
theorem rows_app (B : List (Int × Int)) (c : Int × Int) : rows (B ++ [c]) = rows B ++ [[c.1, c.2]] := by simp [rows]
theorem rows_set (B : List (Int × Int)) (n : Nat) (c : Int × Int) : rows (B.set n c) = (rows B).set n [c.1, c.2] := by simp [rows]
theorem rows_get {B : List (Int × Int)} {k : Nat} (h : k < B.length) : (rows B).getD k [] = [X B k, Y B k] := by simp [rows, X, Y, h]
theorem heap_new2' (w : World) (o p : Obj) : ((w.alloc o).alloc p).heap[w.heap.size + 1]? = some p := by
  have h := heap_alloc_new (w.alloc o) p
  rwa [show (w.alloc o).heap.size = w.heap.size + 1 by simp] at h
theorem alloc_setLow (w : World) (o : Obj) (g k : Nat) (u : Value) (h : g < w.heap.size) : (w.alloc o).setCell ⟨g, k, none⟩ u = (w.setCell ⟨g, k, none⟩ u).alloc o := by
  simp only [World.alloc, World.setCell]
  congr 1
  apply Array.ext_getElem?
  intro i
  simp only [Array.getElem?_modify, Array.getElem?_push, Array.size_modify]
  by_cases e : i = w.heap.size
  · subst e; simp; omega
  · simp [e]
theorem IO.lit2 (w : World) {base : Nat} (hb : base ≤ w.heap.size) (x y : Int) : IO (w.alloc (.cells #[.int .i64 x, .int .i64 y] 3)) base (.slice (some ⟨w.heap.size, 0, none⟩) 2 2) [x, y] :=
  ⟨rfl, .inr ⟨w.heap.size, 2, #[.int .i64 x, .int .i64 y], rfl, hb, heap_alloc_new _ _, Nat.le_refl _, by simp [maxLen], rfl, rfl⟩⟩
theorem Mid.setOut {lo hi g k : Nat} {w1 w : World} {u : Value} (h : Mid lo hi w1 w) (hg : g = lo ∨ hi ≤ g) : Mid lo hi w1 (w.setCell ⟨g, k, none⟩ u) := fun b h1 h2 =>
  (Below.heap_setCell _ _ _ _ (by show b ≠ g; omega)).trans (h b h1 h2)
/-- a row of the busy periods: its header and its two numbers -/
theorem IOO.pair {w : World} {base : Nat} {v : Value} {B : List (Int × Int)} {vs : List Value} (h : IOO w base v (rows B) vs) {k : Nat} (hk : k < B.length) :
    ∃ ib ic, vs.getD k undef = .slice (some ⟨ib, 0, none⟩) 2 ic ∧ base ≤ ib ∧ ib < w.heap.size ∧ w.cell? ⟨ib, 0, none⟩ = some (.int .i64 (X B k)) ∧ w.cell? ⟨ib, 1, none⟩ = some (.int .i64 (Y B k)) := by
  have hi := h.inner k (by rw [rows_len]; exact hk)
  rw [rows_get hk] at hi
  obtain ⟨A, c, hv, _, hc⟩ := hi.formG
  obtain ⟨ib, rfl, h1, h2, h3⟩ := hc (by simp)
  exact ⟨ib, c, hv, h1, h2, h3 0 (by simp), h3 1 (by simp)⟩

set_option maxRecDepth 4000 in
set_option maxHeartbeats 4000000 in
theorem c_sBusyOf (L : List (Int × Int)) (A : Option Addr) (c : Nat) (w : World) (hA : Cs w w.heap.size A L) (hn : L.length ≤ 140737488351232) :
    Calls Try.prog 20 #[.slice A L.length c] w fun e w' => ∃ v, e = .returned v ∧ (∃ vs, IOO w' w.heap.size v (rows (busyP L)) vs) ∧ Below w.heap.size w w' := by
  by_cases h : cOk L = true
  · have HV := Lib.hid (busyP_yes h)
    have hlen := cOk_len h
    have H := Lib.hid h; clear h
    go_enter Try.func20, Try.ntmps20
    go_wp2_with fail
    have hb0 : Below w.heap.size w (w.alloc (.cells #[] 25)) := by (repeat (first | exact rfl | exact Below.refl _ _ | (with_reducible refine Below.drew ?_) | (with_reducible refine Below.drewN ?_ _) | (with_reducible refine Below.alloc ?_ ?_ _) | (with_reducible refine Below.setCell ?_ ?_ _) | (show _ ≤ _; focus (first | omega | (simp; done) | (simp; omega)))))
    refine (c_sCustomersOk L A c _ ((hA.below hb0).more hb0.size) hn).mono ?_
    rintro e w5 ⟨rfl, hb5⟩
    rw [H.out]
    have hbx := hb0.trans (hb5.mono hb0.size)
    have own0 := (IOO.empty w (Nat.le_refl _)).below hb5 (Nat.le_refl _)
    have hsx : w.heap.size < w5.heap.size := by have := hb5.size; simp at this; omega
    clear hb0 hb5
    go_wp2_with fail
    refine (c_l3Work L H.out A c 200 (by omega) _ ((hA.below hbx).more hbx.size) hn).mono ?_
    rintro e w1 ⟨v1, rfl, o1, hb1⟩
    obtain ⟨G, g, rfl, -, hG⟩ := o1.formG
    rw [workTo_len] at hG ⊢
    obtain ⟨gb, rfl, hgb1, hgb, hgc⟩ := hG (by omega)
    have HGC := Lib.hid hgc
    have hgbs : w.heap.size < gb := by omega
    have hby := hbx.trans (hb1.mono (by omega))
    have own1 := own0.below hb1 (Nat.le_refl _)
    have HM := Lib.hid (And.intro hgbs (And.intro hgb (show w.heap.size ≤ w1.heap.size by omega)))
    clear hG hgc o1 hb1 own0 hbx hgbs hgb hgb1 hsx
    go_wp2_with fail
    go_loopw [3, 5] (fun o i wr => ∃ (t : Nat) (vs : List Value), t ≤ 200 ∧ i = .int .i64 t ∧ IOO wr w.heap.size o (rows (busyT L t)) vs ∧ Hid (Sep w.heap.size w1.heap.size o) ∧ Hid (Mid w.heap.size w1.heap.size w1 wr) ∧ w1.heap.size ≤ wr.heap.size ∧ Below w.heap.size w wr)
      (fun _ i _ => 200 - (intOf i).toNat)
    case atStart => exact ⟨0, _, by omega, rfl, own1, Sep.lo _ _ _ _, Mid.refl _ _ _, Nat.le_refl _, hby⟩
    case round =>
      obtain ⟨t, vs, ht, rfl, hown, hsep, hmid, hz1, hb⟩ := hrel
      have hsz := hb.size
      by_cases hlt : t < 200
      · have c1 : wr.cell? ⟨gb, t, none⟩ = some (.int .i64 (wk L t)) := by
          rw [hmid.out.cell HM.out.1 HM.out.2.1, HGC.out t (by omega), Z_workTo (by omega)]
        have p1 : (0 : Int) ≤ (t : Int) := by omega
        have p2 : (t : Int) < ((200 + 1 : Nat) : Int) := by omega
        have p3 : (t : Int) < 200 := by omega
        by_cases hw : wk L t = 0
        · have hwb : (wk L t == 0) = true := beq_iff_eq.2 hw
          have E := Lib.hid (show busyT L (t + 1) = busyT L t by simp only [busyT]; rw [if_pos hw])
          clear hw
          go_wp2_with fail
          go_roundw
          case rel => exact ⟨t + 1, vs, by omega, by go_num, by rw [E.out]; exact hown, hsep, hmid, hz1, hb⟩
          case measure => simp [intOf]; omega
        · have hwb : (wk L t == 0) = false := beq_eq_false_iff_ne.2 hw
          have E := Lib.hid (show busyT L (t + 1) = busyNext (busyT L t) t by simp only [busyT]; rw [if_neg hw])
          clear hw
          have hbl := busyT_len L t
          generalize busyT L t = B at hown E hbl
          obtain ⟨O, oc, rfl, hoc, -, hO⟩ := hown.form
          rw [rows_len] at hO hown hsep ⊢
          have HO := Lib.hid hO
          have HOC := Lib.hid hoc
          clear hO hoc
          by_cases hB0 : B.length = 0
          · have hB' : B = [] := List.eq_nil_of_length_eq_zero hB0
            have E2 := Lib.hid (show rows (busyNext B t) = rows B ++ [[(t : Int), (t : Int) + 1]] by rw [hB']; rfl)
            have hq1 : (B.length : Int) < 1 := by omega
            have hq2 : (B.length : Int) - 1 < 0 := by omega
            clear hB' hB0
            have q5 : (rows B).length ≤ 1000000000 := by rw [rows_len]; omega
            have hW : Below wr.heap.size wr ((wr.alloc (.cells #[.int .i64 (t : Int), .int .i64 ((t : Int) + 1)] 3)).alloc (.cells #[.slice (some ⟨wr.heap.size, 0, none⟩) 2 2] 25)) := by (repeat (first | exact rfl | exact Below.refl _ _ | (with_reducible refine Below.drew ?_) | (with_reducible refine Below.drewN ?_ _) | (with_reducible refine Below.alloc ?_ ?_ _) | (with_reducible refine Below.setCell ?_ ?_ _) | (show _ ≤ _; focus (first | omega | (simp; done) | (simp; omega)))))
            have HU := Lib.hid (And.intro hsz (And.intro hz1 (And.intro q5 hW)))
            clear hsz hz1 q5 hW
            go_wp2_with (refine app_OO ?_ (.tmp 50) (.tmp 55) ?_ w.heap.size (.slice O B.length oc) (rows B) vs wr (.slice (some ⟨wr.heap.size, 0, none⟩) 2 2) [(t : Int), (t : Int) + 1] (wr.heap.size + 1) ?_ ?_ ?_ ?_ ?_ ?_ ?_ ?_ ?_ ?_ w.heap.size w1.heap.size w1 ?_ ?_ ?_ ?_; rfl; rfl; rfl; exact hown; exact HU.out.2.2.2; exact ((IO.lit2 wr HU.out.1 _ _).alloc _); (intro r e; simp [Value.ownBlock] at e; omega); rfl; rfl; exact (heap_new2' _ _ _); exact HU.out.2.2.1; exact (Nat.le_trans HU.out.1 HU.out.2.2.2.size); exact hsep.out; exact (hmid.out.below HU.out.2.2.2 HU.out.2.1); exact (Nat.le_trans HU.out.2.1 HU.out.2.2.2.size); intro g7 cap w7 hown7 hb70 hsep7 hmid7)
            have hz7 := hb70.size
            obtain ⟨hsz, hz1, -, hW⟩ := HU.out
            have hW2 := hW.size
            go_roundw
            case rel =>
              refine ⟨t + 1, _, by omega, by go_num, by rw [E.out, E2.out]; exact hown7, hsep7, hmid7, by omega, ?_⟩
              exact (hb.trans (hW.mono hsz)).trans hb70
            case measure => simp [intOf]; omega
          · have hpos : 0 < B.length := by omega
            obtain ⟨g0, rfl, hg0, hg0lt, hcl, hfz⟩ := HO.out hpos
            have d0 := hcl (B.length - 1) (by omega)
            obtain ⟨ib, ic, hvs, hib, hiblt, e1, e2⟩ := hown.pair (k := B.length - 1) (by omega)
            rw [hvs] at d0
            have f0 := hfz (B.length - 1)
            have k1 : (0 : Int) ≤ (B.length : Int) - 1 := by omega
            have k2 : (B.length : Int) - 1 < (B.length : Int) := by omega
            have k3 : (1 : Int) ≤ (B.length : Int) := by omega
            have k4 : (B.length : Int) ≤ 200 := by omega
            have k5 : ((B.length : Int) - 1).toNat = B.length - 1 := by omega
            have HVS := Lib.hid hvs
            clear hcl hfz hvs HO hB0
            by_cases hy : Y B (B.length - 1) = t
            · have hyb : (Y B (B.length - 1) == (t : Int)) = true := beq_iff_eq.2 hy
              have hl : lastIs B t = true := decide_eq_true ⟨hpos, hy⟩
              have E2 := Lib.hid (show rows (busyNext B t) = (rows B).set (B.length - 1) [X B (B.length - 1), (t : Int) + 1] by rw [busyNext, if_pos hl, rows_set])
              have hW : Below wr.heap.size wr (wr.alloc (.cells #[.int .i64 (X B (B.length - 1)), .int .i64 ((t : Int) + 1)] 3)) := by (repeat (first | exact rfl | exact Below.refl _ _ | (with_reducible refine Below.drew ?_) | (with_reducible refine Below.drewN ?_ _) | (with_reducible refine Below.alloc ?_ ?_ _) | (with_reducible refine Below.setCell ?_ ?_ _) | (show _ ≤ _; focus (first | omega | (simp; done) | (simp; omega)))))
              have hst := hown.store (sl := .slice (some ⟨wr.heap.size, 0, none⟩) 2 2) (ys := [X B (B.length - 1), (t : Int) + 1]) hW (IO.lit2 wr hsz _ _) (by intro r e; simp [Value.ownBlock] at e; omega) (B.length - 1) (by omega)
              have hst2 := (hmid.out.below hW hz1).setOut (g := g0) (k := B.length - 1) (u := .slice (some ⟨wr.heap.size, 0, none⟩) 2 2) (hsep.out g0 (by simp [Value.ownBlock]))
              have hst3 := (hb.trans (hW.mono hsz)).setCell (p := ⟨g0, B.length - 1, none⟩) hg0 (.slice (some ⟨wr.heap.size, 0, none⟩) 2 2)
              have hst4 : w1.heap.size ≤ ((wr.alloc (.cells #[.int .i64 (X B (B.length - 1)), .int .i64 ((t : Int) + 1)] 3)).setCell ⟨g0, B.length - 1, none⟩ (.slice (some ⟨wr.heap.size, 0, none⟩) 2 2)).heap.size := by simp [World.setCell]; omega
              rw [alloc_setLow wr _ _ _ _ hg0lt] at hst hst2 hst3 hst4
              have HS := Lib.hid (And.intro hst (And.intro hst2 (And.intro hst3 hst4)))
              clear hst hst2 hst3 hst4 hW hl hy
              go_wp2_with fail
              go_roundw
              case rel => exact ⟨t + 1, _, by omega, by go_num, by rw [E.out, E2.out]; exact HS.out.1, hsep, HS.out.2.1, HS.out.2.2.2, HS.out.2.2.1⟩
              case measure => simp [intOf]; omega
            · have hyb : (Y B (B.length - 1) == (t : Int)) = false := beq_eq_false_iff_ne.2 hy
              have hl : lastIs B t = false := decide_eq_false (fun h => hy h.2)
              have E2 := Lib.hid (show rows (busyNext B t) = rows B ++ [[(t : Int), (t : Int) + 1]] by rw [busyNext, hl, if_neg (by simp), rows_app])
              clear hl hy
              have q5 : (rows B).length ≤ 1000000000 := by rw [rows_len]; omega
              have hW : Below wr.heap.size wr ((wr.alloc (.cells #[.int .i64 (t : Int), .int .i64 ((t : Int) + 1)] 3)).alloc (.cells #[.slice (some ⟨wr.heap.size, 0, none⟩) 2 2] 25)) := by (repeat (first | exact rfl | exact Below.refl _ _ | (with_reducible refine Below.drew ?_) | (with_reducible refine Below.drewN ?_ _) | (with_reducible refine Below.alloc ?_ ?_ _) | (with_reducible refine Below.setCell ?_ ?_ _) | (show _ ≤ _; focus (first | omega | (simp; done) | (simp; omega)))))
              have HU := Lib.hid (And.intro hsz (And.intro hz1 (And.intro q5 hW)))
              clear hsz hz1 q5 hW
              go_wp2_with (refine app_OO ?_ (.tmp 50) (.tmp 55) ?_ w.heap.size (.slice (some ⟨g0, 0, none⟩) B.length oc) (rows B) vs wr (.slice (some ⟨wr.heap.size, 0, none⟩) 2 2) [(t : Int), (t : Int) + 1] (wr.heap.size + 1) ?_ ?_ ?_ ?_ ?_ ?_ ?_ ?_ ?_ ?_ w.heap.size w1.heap.size w1 ?_ ?_ ?_ ?_; rfl; rfl; rfl; exact hown; exact HU.out.2.2.2; exact ((IO.lit2 wr HU.out.1 _ _).alloc _); (intro r e; simp [Value.ownBlock] at e; omega); rfl; rfl; exact (heap_new2' _ _ _); exact HU.out.2.2.1; exact (Nat.le_trans HU.out.1 HU.out.2.2.2.size); exact hsep.out; exact (hmid.out.below HU.out.2.2.2 HU.out.2.1); exact (Nat.le_trans HU.out.2.1 HU.out.2.2.2.size); intro g7 cap w7 hown7 hb70 hsep7 hmid7)
              have hz7 := hb70.size
              obtain ⟨hsz, hz1, -, hW⟩ := HU.out
              have hW2 := hW.size
              go_roundw
              case rel =>
                refine ⟨t + 1, _, by omega, by go_num, by rw [E.out, E2.out]; exact hown7, hsep7, hmid7, by omega, ?_⟩
                exact (hb.trans (hW.mono hsz)).trans hb70
              case measure => simp [intOf]; omega
      · have hlf : ¬ ((t : Int) < 200) := by omega
        go_wp2_with fail
        go_ret
        refine ⟨_, rfl, ⟨vs, ?_⟩, hb⟩
        rw [HV.out, show (200 : Nat) = t by omega]
        exact hown
  · have hno : cOk L = false := by simpa using h
    have HV := Lib.hid (busyP_no hno)
    have H := Lib.hid hno; clear h hno
    go_enter Try.func20, Try.ntmps20
    go_wp2_with fail
    have hb0 : Below w.heap.size w (w.alloc (.cells #[] 25)) := by (repeat (first | exact rfl | exact Below.refl _ _ | (with_reducible refine Below.drew ?_) | (with_reducible refine Below.drewN ?_ _) | (with_reducible refine Below.alloc ?_ ?_ _) | (with_reducible refine Below.setCell ?_ ?_ _) | (show _ ≤ _; focus (first | omega | (simp; done) | (simp; omega)))))
    refine (c_sCustomersOk L A c _ ((hA.below hb0).more hb0.size) hn).mono ?_
    rintro e w5 ⟨rfl, hb5⟩
    rw [H.out]
    have hbx := hb0.trans (hb5.mono hb0.size)
    have own0 := (IOO.empty w (Nat.le_refl _)).below hb5 (Nat.le_refl _)
    go_wp2_with fail
    go_ret
    exact ⟨_, rfl, ⟨_, by rw [HV.out]; exact own0⟩, hbx⟩

end Go.Proofs.Ytmimcgjobgfgfaa

namespace Go.Proofs.Ytmimcgjobgfgfaa
set_option linter.unusedVariables false
open Go.RowKit
attribute [local go_sem ↓] Go.wp_at_zero Go.wp_at_succ

def perOk (L : List (Int × Int)) (t : Int) : Bool := decide (0 ≤ t ∧ t ≤ ((busyP L).length : Int) - 1)
def comeR (L : List (Int × Int)) (t : Int) : List Int := if perOk L t = true then places L (X (busyP L) t.toNat) (Y (busyP L) t.toNat) else []
theorem comeR_yes {L : List (Int × Int)} {t : Int} (h : perOk L t = true) : comeR L t = places L (X (busyP L) t.toNat) (Y (busyP L) t.toNat) := if_pos h
theorem comeR_no {L : List (Int × Int)} {t : Int} (h : perOk L t = false) : comeR L t = [] := by simp [comeR, h]
theorem perOk_nat {L : List (Int × Int)} {t : Int} (h : perOk L t = true) : ∃ n : Nat, t = n ∧ n < (busyP L).length ∧ cOk L = true := by
  have h2 : 0 ≤ t ∧ t ≤ ((busyP L).length : Int) - 1 := of_decide_eq_true h
  refine ⟨t.toNat, by omega, by omega, ?_⟩
  by_cases hc : cOk L = true
  · exact hc
  · rw [busyP_no (by simpa using hc)] at h2
    simp at h2; omega
theorem busyP_inv {L : List (Int × Int)} (h : cOk L = true) : BInv L 200 (busyP L) := by rw [busyP_yes h]; exact busyT_inv L 200
theorem busyP_len (L : List (Int × Int)) : (busyP L).length ≤ 200 := by
  unfold busyP; split
  · exact busyT_len L 200
  · simp

end Go.Proofs.Ytmimcgjobgfgfaa

