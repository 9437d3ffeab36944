/- spec.DeskNew, DeskRun (ahead of the landing) -/
import Derived.Test.YtpbmehodcllncaaK35
import Derived.Test.YtpbmehodcllncaaO8
namespace Go.Proofs.Ytpbmehodcllncaa
set_option linter.unusedVariables false
open Go.RowKit
attribute [local go_sem ↓] Go.wp_at_zero Go.wp_at_succ

def newV (L : List (Int × Int)) : KV := if cOk L = true then ⟨L, []⟩ else noK
theorem newV_yes {L : List (Int × Int)} (h : cOk L = true) : newV L = ⟨L, []⟩ := if_pos h
theorem newV_no {L : List (Int × Int)} (h : cOk L = false) : newV L = noK := by simp [newV, h]
theorem cOk_nil : cOk [] = true := by decide
theorem deskOk_new (L : List (Int × Int)) : deskOk (newV L) = true := by
  cases h : cOk L with
  | true => rw [newV_yes h]; exact deskOk_of (by simp) h (by simp)
  | false => rw [newV_no h]; exact deskOk_of (by simp [noK]) cOk_nil (by simp [noK])

set_option maxRecDepth 8000 in
set_option maxHeartbeats 4000000 in
theorem c_sDeskNew (L : List (Int × Int)) (A : Option Addr) (c : Nat) (w : World) (hA : Cs w w.heap.size A L) (hn : L.length ≤ 140737488351232) :
    Calls Try.prog 17 #[.slice A L.length c] w fun e w' => ∃ vn vp vs, e = .returned (.tuple #[.agg #[vn, vp], .bool (cOk L)]) ∧ KO w' w.heap.size vn vp (newV L) vs ∧ Below w.heap.size w w' := by
  obtain ⟨w0, hw0⟩ : ∃ w0, w.alloc (.cells #[.slice none 0 0, .slice none 0 0] 26) = w0 := ⟨_, rfl⟩
  have hz0 : w0.heap.size = w.heap.size + 1 := by rw [← hw0]; simp
  have hb0 : Below w.heap.size w w0 := by rw [← hw0]; exact (Below.refl _ w).alloc (Nat.le_refl _) _
  have bR : w0.heap[w.heap.size]? = some (.cells #[.slice none 0 0, .slice none 0 0] 26 (0, 0)) := by rw [← hw0]; exact heap_alloc_new _ _
  have HC := Lib.hid (c_sCustomersOk L A c w0 ((hA.below hb0).more (by omega)) hn)
  cases ho : cOk L with
  | false =>
    have H := Lib.hid ho
    have HV := Lib.hid (newV_no ho)
    clear ho
    go_enter Try.func17, Try.ntmps17
    go_wp2_with fail
    refine HC.out.mono ?_
    rintro e w1 ⟨rfl, hb1⟩
    rw [H.out]
    have b1 := (hb1.block w.heap.size (by omega)).trans bR
    have r0 := cell_of_row _ w.heap.size 0 _ _ _ b1
    have r1 := cell_of_row _ w.heap.size 1 _ _ _ b1
    have f0 : w1.frozen? ⟨w.heap.size, 0, none⟩ = false := unfrozen_of b1
    have f1 : w1.frozen? ⟨w.heap.size, 1, none⟩ = false := unfrozen_of b1
    clear hw0
    go_wp2_with fail
    have b7 := set2b (.slice none 0 0) (set2a (.slice none 0 0) b1)
    have k0 := cell_of_row _ w.heap.size 0 _ _ _ b7
    have k1 := cell_of_row _ w.heap.size 1 _ _ _ b7
    refine bodyPost_ret (v := .tuple #[.agg #[.slice none 0 0, .slice none 0 0], .bool false]) (by simp [results, Try.f17, go_sem, k0, k1]) rfl ?_
    exact ⟨_, _, [], rfl, by rw [HV.out]; exact KO.zero _ _, (((hb0.trans (hb1.mono (by omega))).setCell (p := ⟨w.heap.size, 0, none⟩) (Nat.le_refl _) _).setCell (p := ⟨w.heap.size, 1, none⟩) (Nat.le_refl _) _)⟩
  | true =>
    have H := Lib.hid ho
    have HV := Lib.hid (newV_yes ho)
    have hlen := cOk_len ho
    clear ho
    go_enter Try.func17, Try.ntmps17
    go_wp2_with fail
    refine HC.out.mono ?_
    rintro e w1 ⟨rfl, hb1⟩
    rw [H.out]
    have hz1 := hb1.size
    have hx1 := hb0.trans (hb1.mono (by omega))
    have hA1 := (hA.below hx1).below ((Below.refl w1.heap.size w1).alloc (Nat.le_refl _) (.cells #[] 30) |>.mono (show w.heap.size ≤ w1.heap.size by omega))
    clear hw0
    go_wp2_with (
      refine app_KC ?_ (.tmp 8) (.tmp 9) ?_ w1.heap.size (.slice (some ⟨w1.heap.size, 0, none⟩) 0 0) [] L A c w.heap.size L.length L.length ?_ ?_ ?_ ?_ ?_ ?_ ?_ ?_ ?_
      · rfl
      · rfl
      · rfl
      · exact CO.empty w1 (Nat.le_refl _)
      · rfl
      · rfl
      · simp
      · exact hA1.below (Below.refl _ _)
      · omega
      · simp
      intro G2 c2 w2 o2 hgr2 hb2
      have hx2 : Below w1.heap.size w1 w2 := ((Below.refl w1.heap.size w1).alloc (Nat.le_refl _) _).trans hb2
      have b1 := (hx2.block w.heap.size (by omega)).trans ((hb1.block w.heap.size (by omega)).trans bR)
      have r0 := cell_of_row _ w.heap.size 0 _ _ _ b1
      have r1 := cell_of_row _ w.heap.size 1 _ _ _ b1
      have f0 : w2.frozen? ⟨w.heap.size, 0, none⟩ = false := unfrozen_of b1
      have f1 : w2.frozen? ⟨w.heap.size, 1, none⟩ = false := unfrozen_of b1)
    rw [List.nil_append] at o2
    have b7 := set2b (.slice none 0 0) (set2a (.slice G2 L.length c2) b1)
    have k0 := cell_of_row _ w.heap.size 0 _ _ _ b7
    have k1 := cell_of_row _ w.heap.size 1 _ _ _ b7
    refine bodyPost_ret (v := .tuple #[.agg #[.slice G2 L.length c2, .slice none 0 0], .bool true]) (by simp [results, Try.f17, go_sem, k0, k1]) rfl ?_
    refine ⟨_, _, [], rfl, ?_, (((hx1.trans (hx2.mono (by omega))).setCell (p := ⟨w.heap.size, 0, none⟩) (Nat.le_refl _) _).setCell (p := ⟨w.heap.size, 1, none⟩) (Nat.le_refl _) _)⟩
    rw [HV.out]
    have hbo := owns_base o2
    exact ⟨((o2.grownR' (grown_set1 w2 w.heap.size 0 _) (fun r hr e => by cases e; have := hbo _ hr; omega)).grownR' (grown_set1 _ w.heap.size 1 _) (fun r hr e => by cases e; have := hbo _ hr; omega)).mono (by omega), PL.nil _ _, fun r hr e => by simp [Value.ownBlock] at e, fun j hj => by simp at hj⟩

theorem KO.keptLow {w w' : World} {base r : Nat} {vn vp : Value} {D : KV} {vs : List Value} (h : KO w base vn vp D vs) (hg : w.grownBy w' (some r)) (hr : r < base) : KO w' base vn vp D vs :=
  ⟨h.now.grownR' hg (fun k hk e => by cases e; have := owns_base h.now _ hk; omega),
    h.past.kept hg (fun k hk e => by cases e; have := (h.past.base_lt _ hk).1; omega) (fun j hj k hk e => by cases e; have := owns_base (h.past.inner j hj) _ hk; omega), h.apn, h.api⟩
/-- a desk's two slices, in sight -/
theorem KO.slices {w : World} {base : Nat} {vn vp : Value} {D : KV} {vs : List Value} (h : KO w base vn vp D vs) : ∃ A c A' c', vn = .slice A D.now.length c ∧ vp = .slice A' D.past.length c' := by
  obtain ⟨⟨A, c, e1, -, -⟩, A', c', e2, -, -⟩ := h.ks
  exact ⟨A, c, A', c', e1, e2⟩
theorem deskRun_no {D : KV} {ds : List DV} (h : runOk D ds = false) : deskRun D ds = (noK, 0) := by simp [deskRun, h]
theorem runTo_at (D : KV) {ds : List DV} {k : Nat} (h : k < ds.length) : runTo D (ds.take (k + 1)) = if (deskDo (runTo D (ds.take k)).1 (ZD ds k)).2 = true then ((deskDo (runTo D (ds.take k)).1 (ZD ds k)).1, (runTo D (ds.take k)).2 + 1) else runTo D (ds.take k) := by
  have e : ZD ds k = ds[k] := by simp [ZD, h]
  rw [e, ← runTo_snoc, List.take_append_getElem]

set_option maxRecDepth 8000 in
set_option maxHeartbeats 8000000 in
theorem c_sDeskRun (D : KV) (ds : List DV) (vn vp : Value) (A : Option Addr) (c : Nat) (w : World) (hK : Ks w w.heap.size vn vp D) (hs : SmallK D) (hE : Ds3 w w.heap.size A ds) (hn : ds.length ≤ 140737488351232) :
    Calls Try.prog 28 #[.agg #[vn, vp], .slice A ds.length c] w fun e w' => ∃ un up us, e = .returned (.tuple #[.agg #[un, up], .int .i64 (deskRun D ds).2]) ∧ KO w' w.heap.size un up (deskRun D ds).1 us ∧ Below w.heap.size w w' := by
  obtain ⟨w0, hw0⟩ : ∃ w0, (w.alloc (.cells #[vn, vp] 26)).alloc (.cells #[.slice none 0 0, .slice none 0 0] 26) = w0 := ⟨_, rfl⟩
  have hz0 : w0.heap.size = w.heap.size + 2 := by rw [← hw0]; simp
  have hb0 : Below w.heap.size w w0 := by rw [← hw0]; exact ((Below.refl _ w).alloc (Nat.le_refl _) _).alloc (by simp) _
  have bD : w0.heap[w.heap.size]? = some (.cells #[vn, vp] 26 (0, 0)) := by rw [← hw0]; exact (Below.heap_alloc _ _ _ (by simp)).trans (heap_alloc_new _ _)
  have bR : w0.heap[w.heap.size + 1]? = some (.cells #[.slice none 0 0, .slice none 0 0] 26 (0, 0)) := by rw [← hw0]; exact heap_newK _ _ _
  have hK0 := (hK.below hb0).more (show w.heap.size ≤ w0.heap.size by omega)
  have HO := Lib.hid (c_sDeskOk D vn vp w0 hK0 hs)
  have d0 := cell_of_row _ w.heap.size 0 _ _ _ bD
  have d1 := cell_of_row _ w.heap.size 1 _ _ _ bD
  cases ho : deskOk D with
  | false =>
    have HV := Lib.hid (deskRun_no (D := D) (ds := ds) (by simp [runOk, ho]))
    have H := Lib.hid ho
    clear ho hK hK0 hs
    go_enter Try.func28, Try.ntmps28
    go_wp2_with fail
    refine HO.out.mono ?_
    rintro e w1 ⟨rfl, hb1⟩
    rw [H.out]
    have b1 := (hb1.block (w.heap.size + 1) (by omega)).trans bR
    have r0 := cell_of_row _ (w.heap.size + 1) 0 _ _ _ b1
    have r1 := cell_of_row _ (w.heap.size + 1) 1 _ _ _ b1
    have f0 : w1.frozen? ⟨w.heap.size + 1, 0, none⟩ = false := unfrozen_of b1
    have f1 : w1.frozen? ⟨w.heap.size + 1, 1, none⟩ = false := unfrozen_of b1
    clear hw0
    go_wp2_with fail
    have b7 := set2b (.slice none 0 0) (set2a (.slice none 0 0) b1)
    have k0 := cell_of_row _ (w.heap.size + 1) 0 _ _ _ b7
    have k1 := cell_of_row _ (w.heap.size + 1) 1 _ _ _ b7
    refine bodyPost_ret (v := .tuple #[.agg #[.slice none 0 0, .slice none 0 0], .int .i64 0]) (by simp [results, Try.f28, go_sem, k0, k1]) rfl ?_
    exact ⟨_, _, [], by rw [HV.out], by rw [HV.out]; exact KO.zero _ _, (((hb0.trans (hb1.mono (by omega))).setCell (p := ⟨w.heap.size + 1, 0, none⟩) (by simp) _).setCell (p := ⟨w.heap.size + 1, 1, none⟩) (by simp) _)⟩
  | true =>
    have H := Lib.hid ho
    by_cases h40 : ds.length ≤ 40
    · have p40 : ¬ (40 : Int) < (ds.length : Int) := by omega
      have HV := Lib.hid (show deskRun D ds = runTo D ds from if_pos (by simp [runOk, ho, h40]))
      have HCp := Lib.hid (fun (w' : World) (hb : Below w0.heap.size w0 w') => c_sCopy D vn vp w' ((hK0.below hb).more hb.size) hs)
      obtain ⟨⟨An, cn, rfl, hcn, hN⟩, Ap, cp, rfl, hcp, hP⟩ := hK0
      clear hK hs
      go_enter Try.func28, Try.ntmps28
      go_wp2_with fail
      refine HO.out.mono ?_
      rintro e w1 ⟨rfl, hb1⟩
      rw [H.out]
      clear hw0
      have hz1 := hb1.size
      have g0 := (hb1.cell (p := ⟨w.heap.size, 0, none⟩) (show w.heap.size < w0.heap.size by omega)).trans d0
      have g1 := (hb1.cell (p := ⟨w.heap.size, 1, none⟩) (show w.heap.size < w0.heap.size by omega)).trans d1
      go_wp2_with fail
      refine (HCp.out _ hb1).mono ?_
      rintro e w2 ⟨un, up, us, rfl, hC, hb2⟩
      have hz2 := hb2.size
      have hx2 := hb1.trans (hb2.mono hz1)
      obtain ⟨Gn, gn, rfl, hgn, -⟩ := hC.now.formG
      obtain ⟨Gp, gp, rfl, hgp, hgm, -⟩ := hC.past.form
      obtain ⟨w3, hw3⟩ : ∃ w3, w2.alloc (.cells #[.slice Gn D.now.length gn, .slice Gp D.past.length gp] 26) = w3 := ⟨_, rfl⟩
      have hz3 : w2.heap.size < w3.heap.size := by rw [← hw3]; simp
      have hb3 : Below w2.heap.size w2 w3 := by rw [← hw3]; exact (Below.refl _ w2).alloc (Nat.le_refl _) _
      have bO : w3.heap[w2.heap.size]? = some (.cells #[.slice Gn D.now.length gn, .slice Gp D.past.length gp] 26 (0, 0)) := by rw [← hw3]; exact heap_alloc_new _ _
      have hx3 := hx2.trans (hb3.mono (by omega))
      have ko3 : KO w3 w1.heap.size (.slice Gn D.now.length gn) (.slice Gp D.past.length gp) D us := hC.ko.below hb3 (Nat.le_refl _)
      clear g0 g1 d0 d1 hC
      go_wp2_with fail
      have HE := Lib.hid hE
      have HR := Lib.hid (fun k (hk : k < ds.length) => runTo_at D hk)
      have HB := Lib.hid (fun k => runTo_bd D (ds.take k))
      have HOk := Lib.hid (fun k => runTo_ok H.out (ds.take k))
      clear hE hw3
      go_loopw [7, 8] (fun n i wr => ∃ (k : Nat) (xn xp : Value) (xs : List Value), k ≤ ds.length ∧ i = .int .i64 (k : Int) ∧ n = .int .i64 (runTo D (ds.take k)).2 ∧ wr.heap[w2.heap.size]? = some (.cells #[xn, xp] 26 (0, 0)) ∧ KO wr w1.heap.size xn xp (runTo D (ds.take k)).1 xs ∧ Below w2.heap.size w3 wr) (fun _ i _ => ds.length - (intOf i).toNat)
      case atStart => exact ⟨0, _, _, _, by omega, rfl, rfl, bO, ko3, Below.refl _ _⟩
      case round =>
        clear ko3 bO
        obtain ⟨k, xn, xp, xs, hk, rfl, rfl, bO, ko, hb⟩ := hrel
        have hsz := hb.size
        have hOl := (Array.getElem?_eq_some_iff.1 bO).1
        have p1 : (0 : Int) ≤ (k : Int) := by omega
        obtain ⟨X1, x1, X2, x2, rfl, rfl⟩ := ko.slices
        have q5 := cell_of_row _ w2.heap.size 0 _ _ _ bO
        have q6 := cell_of_row _ w2.heap.size 1 _ _ _ bO
        have hbw := hb0.trans ((hx3.trans (hb.mono (by omega))).mono (by omega))
        have hbd := HB.out k
        have hok := HOk.out k
        have hRk := HR.out k
        generalize hrk : runTo D (ds.take k) = rk at *
        have HRK := Lib.hid hrk
        clear hrk
        obtain ⟨Dk, nk⟩ := rk
        simp only at ko hbd hok hRk bO q5 q6
        by_cases hlt : k < ds.length
        · have p2 : (k : Int) < (ds.length : Int) := by omega
          have hRk := hRk hlt
          obtain ⟨b, off, rfl, hlb, hcc⟩ := HE.out (by omega)
          obtain ⟨y0, y1, y2⟩ := hcc k hlt
          have e0 := (hbw.cell (p := ⟨b, off + k * 3, none⟩) hlb).trans y0
          have e1 := (hbw.cell (p := ⟨b, off + k * 3 + 1, none⟩) hlb).trans y1
          have e2 := (hbw.cell (p := ⟨b, off + k * 3 + 2, none⟩) hlb).trans y2
          clear hcc y0 y1 y2
          obtain ⟨⟨dk, da, db⟩, hd⟩ : ∃ d, ZD ds k = d := ⟨_, rfl⟩
          rw [hd] at e0 e1 e2 hRk
          have HRk := Lib.hid hRk
          have HDo := Lib.hid (fun (W : World) (hbW : Below wr.heap.size wr W) => c_sDeskDo Dk (.slice X1 Dk.now.length x1) (.slice X2 Dk.past.length x2) dk da db W ((ko.ks.below hbW).more hbW.size) (small_ok hok))
          have hlen40 : nk ≤ 1000 := by have := hbd.2; rw [List.length_take] at this; omega
          have hn0 : 0 ≤ nk := hbd.1
          have HS := Lib.hid (fun (W : World) (hbW : Below wr.heap.size wr W) => show W.cell? ⟨w2.heap.size, 0, none⟩ = some (.slice X1 Dk.now.length x1) ∧ W.cell? ⟨w2.heap.size, 1, none⟩ = some (.slice X2 Dk.past.length x2) ∧ W.cell? ⟨b, off + k * 3, none⟩ = some (.int .i64 dk) ∧ W.cell? ⟨b, off + k * 3 + 1, none⟩ = some (.int .i64 da) ∧ W.cell? ⟨b, off + k * 3 + 2, none⟩ = some (.int .i64 db) from
            ⟨(hbW.cell (p := ⟨w2.heap.size, 0, none⟩) hOl).trans q5, (hbW.cell (p := ⟨w2.heap.size, 1, none⟩) hOl).trans q6, (hbW.cell (p := ⟨b, off + k * 3, none⟩) (show b < wr.heap.size by omega)).trans e0, (hbW.cell (p := ⟨b, off + k * 3 + 1, none⟩) (show b < wr.heap.size by omega)).trans e1, (hbW.cell (p := ⟨b, off + k * 3 + 2, none⟩) (show b < wr.heap.size by omega)).trans e2⟩)
          clear hRk hd hbd
          cases hdo : (deskDo Dk ⟨dk, da, db⟩).2 with
          | false =>
            have HD := Lib.hid hdo
            have HN := Lib.hid (show runTo D (ds.take (k + 1)) = (Dk, nk) by rw [HRk.out, hdo]; rfl)
            clear hdo
            go_wp2_with fail
            go_region_held3 (fun W => W.cell? ⟨w2.heap.size, 0, none⟩ = some (.slice X1 Dk.now.length x1) ∧ W.cell? ⟨w2.heap.size, 1, none⟩ = some (.slice X2 Dk.past.length x2) ∧ W.cell? ⟨b, off + k * 3, none⟩ = some (.int .i64 dk) ∧ W.cell? ⟨b, off + k * 3 + 1, none⟩ = some (.int .i64 da) ∧ W.cell? ⟨b, off + k * 3 + 2, none⟩ = some (.int .i64 db))
              (first
                | go_keep
                | exact HS.out _ hx6
                | exact HS.out _ ((Below.refl _ wr).drew.alloc (Nat.le_refl _) _)
                | exact HS.out _ (hx6.alloc hx6.size _)
                | exact HS.out _ hX)
              (first
                | (go_at_call 24; refine (HDo.out wr.drew (Below.refl _ wr).drew).mono ?_; rintro e w6 ⟨yn, yp, ys, rfl, o6, hb6⟩; obtain ⟨A5, c5, A6, c6, rfl, rfl⟩ := o6.slices; have hx6 : Below wr.heap.size wr w6 := (Below.refl _ wr).drew.trans hb6; obtain ⟨WX, hWX⟩ : ∃ WX, w6.alloc (.cells #[.slice A5 (deskDo Dk ⟨dk, da, db⟩).1.now.length c5, .slice A6 (deskDo Dk ⟨dk, da, db⟩).1.past.length c6] 26) = WX := ⟨_, rfl⟩; have bX : ∃ Bx, Bx = w6.heap.size ∧ wr.heap.size ≤ Bx ∧ WX.heap[Bx]? = some (.cells #[.slice A5 (deskDo Dk ⟨dk, da, db⟩).1.now.length c5, .slice A6 (deskDo Dk ⟨dk, da, db⟩).1.past.length c6] 26 (0, 0)) := ⟨_, rfl, hx6.size, by rw [← hWX]; exact heap_alloc_new _ _⟩; have hX : Below wr.heap.size wr WX := (by rw [← hWX]; exact hx6.alloc hx6.size _); have oX : KO WX wr.heap.size (.slice A5 (deskDo Dk ⟨dk, da, db⟩).1.now.length c5) (.slice A6 (deskDo Dk ⟨dk, da, db⟩).1.past.length c6) (deskDo Dk ⟨dk, da, db⟩).1 ys := (by rw [← hWX]; exact o6.below ((Below.refl w6.heap.size w6).alloc (Nat.le_refl _) _) (Nat.le_refl _)))
                | (go_at_call 24; refine (HDo.out (wr.drew.alloc (.cells #[.slice none 0 0, .slice none 0 0] 26)) ((Below.refl _ wr).drew.alloc (Nat.le_refl _) _)).mono ?_; rintro e w6 ⟨yn, yp, ys, rfl, o6, hb6⟩; obtain ⟨A5, c5, A6, c6, rfl, rfl⟩ := o6.slices; have hx6 : Below wr.heap.size wr w6 := ((Below.refl _ wr).drew.alloc (Nat.le_refl _) _).trans (hb6.mono (by simp)); have bx := (hb6.block wr.heap.size (by simp)).trans (heap_alloc_new wr.drew (.cells #[.slice none 0 0, .slice none 0 0] 26)); have x0 := cell_of_row _ wr.heap.size 0 _ _ _ bx; have x1' := cell_of_row _ wr.heap.size 1 _ _ _ bx; have z0 : w6.frozen? ⟨wr.heap.size, 0, none⟩ = false := unfrozen_of bx; have z1 : w6.frozen? ⟨wr.heap.size, 1, none⟩ = false := unfrozen_of bx; obtain ⟨Wa, hWa⟩ : ∃ Wa, w6.setCell ⟨wr.heap.size, 0, none⟩ (.slice A5 (deskDo Dk ⟨dk, da, db⟩).1.now.length c5) = Wa := ⟨_, rfl⟩; obtain ⟨WX, hWX⟩ : ∃ WX, Wa.setCell ⟨wr.heap.size, 1, none⟩ (.slice A6 (deskDo Dk ⟨dk, da, db⟩).1.past.length c6) = WX := ⟨_, rfl⟩; have bxa : Wa.heap[wr.heap.size]? = some (.cells #[.slice A5 (deskDo Dk ⟨dk, da, db⟩).1.now.length c5, .slice none 0 0] 26 (0, 0)) := (by rw [← hWa]; exact set2a _ bx); have x2' := cell_of_row _ wr.heap.size 1 _ _ _ bxa; have z2 : Wa.frozen? ⟨wr.heap.size, 1, none⟩ = false := unfrozen_of bxa; have bX : ∃ Bx, Bx = wr.heap.size ∧ wr.heap.size ≤ Bx ∧ WX.heap[Bx]? = some (.cells #[.slice A5 (deskDo Dk ⟨dk, da, db⟩).1.now.length c5, .slice A6 (deskDo Dk ⟨dk, da, db⟩).1.past.length c6] 26 (0, 0)) := ⟨_, rfl, Nat.le_refl _, by rw [← hWX]; exact set2b _ bxa⟩; have hgX : w6.grownBy WX (some wr.heap.size) := (by rw [← hWX, ← hWa]; exact W2_grown _ _ _ _); have hX : Below wr.heap.size wr WX := hx6.grown hgX hx6.size (fun k e => by cases e; exact Nat.le_refl _); have oX : KO WX wr.heap.size (.slice A5 (deskDo Dk ⟨dk, da, db⟩).1.now.length c5) (.slice A6 (deskDo Dk ⟨dk, da, db⟩).1.past.length c6) (deskDo Dk ⟨dk, da, db⟩).1 ys := (o6.keptLow hgX (by simp)).mono (by simp)))
            all_goals
              obtain ⟨Bx, hBx, hBl, bX⟩ := bX
              try rw [hWX]
              rw [HD.out]
              have bO7 := (hX.block w2.heap.size hOl).trans bO
              have ko7 := ko.below hX (Nat.le_refl _)
              have hb7 := hb.trans (hX.mono (by omega))
              clear hWX bX oX
              go_wp2_with fail
              go_roundw
              case rel => exact ⟨k + 1, _, _, xs, by omega, by go_num, by rw [HN.out], bO7, by rw [HN.out]; exact ko7, hb7⟩
              case measure => simp [intOf]; omega
          | true =>
            have HD := Lib.hid hdo
            have HN := Lib.hid (show runTo D (ds.take (k + 1)) = ((deskDo Dk ⟨dk, da, db⟩).1, nk + 1) by rw [HRk.out, hdo]; rfl)
            have q9 : IntKind.i64.wrap (nk + 1) = nk + 1 := IntWalk.i64_in _ (by omega)
            clear hdo
            go_wp2_with fail
            go_region_held3 (fun W => W.cell? ⟨w2.heap.size, 0, none⟩ = some (.slice X1 Dk.now.length x1) ∧ W.cell? ⟨w2.heap.size, 1, none⟩ = some (.slice X2 Dk.past.length x2) ∧ W.cell? ⟨b, off + k * 3, none⟩ = some (.int .i64 dk) ∧ W.cell? ⟨b, off + k * 3 + 1, none⟩ = some (.int .i64 da) ∧ W.cell? ⟨b, off + k * 3 + 2, none⟩ = some (.int .i64 db))
              (first
                | go_keep
                | exact HS.out _ hx6
                | exact HS.out _ ((Below.refl _ wr).drew.alloc (Nat.le_refl _) _)
                | exact HS.out _ (hx6.alloc hx6.size _)
                | exact HS.out _ hX)
              (first
                | (go_at_call 24; refine (HDo.out wr.drew (Below.refl _ wr).drew).mono ?_; rintro e w6 ⟨yn, yp, ys, rfl, o6, hb6⟩; obtain ⟨A5, c5, A6, c6, rfl, rfl⟩ := o6.slices; have hx6 : Below wr.heap.size wr w6 := (Below.refl _ wr).drew.trans hb6; obtain ⟨WX, hWX⟩ : ∃ WX, w6.alloc (.cells #[.slice A5 (deskDo Dk ⟨dk, da, db⟩).1.now.length c5, .slice A6 (deskDo Dk ⟨dk, da, db⟩).1.past.length c6] 26) = WX := ⟨_, rfl⟩; have bX : ∃ Bx, Bx = w6.heap.size ∧ wr.heap.size ≤ Bx ∧ WX.heap[Bx]? = some (.cells #[.slice A5 (deskDo Dk ⟨dk, da, db⟩).1.now.length c5, .slice A6 (deskDo Dk ⟨dk, da, db⟩).1.past.length c6] 26 (0, 0)) := ⟨_, rfl, hx6.size, by rw [← hWX]; exact heap_alloc_new _ _⟩; have hX : Below wr.heap.size wr WX := (by rw [← hWX]; exact hx6.alloc hx6.size _); have oX : KO WX wr.heap.size (.slice A5 (deskDo Dk ⟨dk, da, db⟩).1.now.length c5) (.slice A6 (deskDo Dk ⟨dk, da, db⟩).1.past.length c6) (deskDo Dk ⟨dk, da, db⟩).1 ys := (by rw [← hWX]; exact o6.below ((Below.refl w6.heap.size w6).alloc (Nat.le_refl _) _) (Nat.le_refl _)))
                | (go_at_call 24; refine (HDo.out (wr.drew.alloc (.cells #[.slice none 0 0, .slice none 0 0] 26)) ((Below.refl _ wr).drew.alloc (Nat.le_refl _) _)).mono ?_; rintro e w6 ⟨yn, yp, ys, rfl, o6, hb6⟩; obtain ⟨A5, c5, A6, c6, rfl, rfl⟩ := o6.slices; have hx6 : Below wr.heap.size wr w6 := ((Below.refl _ wr).drew.alloc (Nat.le_refl _) _).trans (hb6.mono (by simp)); have bx := (hb6.block wr.heap.size (by simp)).trans (heap_alloc_new wr.drew (.cells #[.slice none 0 0, .slice none 0 0] 26)); have x0 := cell_of_row _ wr.heap.size 0 _ _ _ bx; have x1' := cell_of_row _ wr.heap.size 1 _ _ _ bx; have z0 : w6.frozen? ⟨wr.heap.size, 0, none⟩ = false := unfrozen_of bx; have z1 : w6.frozen? ⟨wr.heap.size, 1, none⟩ = false := unfrozen_of bx; obtain ⟨Wa, hWa⟩ : ∃ Wa, w6.setCell ⟨wr.heap.size, 0, none⟩ (.slice A5 (deskDo Dk ⟨dk, da, db⟩).1.now.length c5) = Wa := ⟨_, rfl⟩; obtain ⟨WX, hWX⟩ : ∃ WX, Wa.setCell ⟨wr.heap.size, 1, none⟩ (.slice A6 (deskDo Dk ⟨dk, da, db⟩).1.past.length c6) = WX := ⟨_, rfl⟩; have bxa : Wa.heap[wr.heap.size]? = some (.cells #[.slice A5 (deskDo Dk ⟨dk, da, db⟩).1.now.length c5, .slice none 0 0] 26 (0, 0)) := (by rw [← hWa]; exact set2a _ bx); have x2' := cell_of_row _ wr.heap.size 1 _ _ _ bxa; have z2 : Wa.frozen? ⟨wr.heap.size, 1, none⟩ = false := unfrozen_of bxa; have bX : ∃ Bx, Bx = wr.heap.size ∧ wr.heap.size ≤ Bx ∧ WX.heap[Bx]? = some (.cells #[.slice A5 (deskDo Dk ⟨dk, da, db⟩).1.now.length c5, .slice A6 (deskDo Dk ⟨dk, da, db⟩).1.past.length c6] 26 (0, 0)) := ⟨_, rfl, Nat.le_refl _, by rw [← hWX]; exact set2b _ bxa⟩; have hgX : w6.grownBy WX (some wr.heap.size) := (by rw [← hWX, ← hWa]; exact W2_grown _ _ _ _); have hX : Below wr.heap.size wr WX := hx6.grown hgX hx6.size (fun k e => by cases e; exact Nat.le_refl _); have oX : KO WX wr.heap.size (.slice A5 (deskDo Dk ⟨dk, da, db⟩).1.now.length c5) (.slice A6 (deskDo Dk ⟨dk, da, db⟩).1.past.length c6) (deskDo Dk ⟨dk, da, db⟩).1 ys := (o6.keptLow hgX (by simp)).mono (by simp)))
            all_goals
              obtain ⟨Bx, hBx, hBl, bX⟩ := bX
              try rw [hWX]
              rw [HD.out]
              have bO7 := (hX.block w2.heap.size hOl).trans bO
              have ko7 := ko.below hX (Nat.le_refl _)
              have hb7 := hb.trans (hX.mono (by omega))
              subst hBx
              have hWX0 := hWX
              clear hWX
              have v0 := cell_of_row _ _ 0 _ _ _ bX
              have v1 := cell_of_row _ _ 1 _ _ _ bX
              obtain ⟨Wb, hWb⟩ : ∃ Wb, WX.setCell ⟨w2.heap.size, 0, none⟩ (.slice A5 (deskDo Dk ⟨dk, da, db⟩).1.now.length c5) = Wb := ⟨_, rfl⟩
              obtain ⟨WO, hWO⟩ : ∃ WO, Wb.setCell ⟨w2.heap.size, 1, none⟩ (.slice A6 (deskDo Dk ⟨dk, da, db⟩).1.past.length c6) = WO := ⟨_, rfl⟩
              have bOb : Wb.heap[w2.heap.size]? = some (.cells #[(.slice A5 (deskDo Dk ⟨dk, da, db⟩).1.now.length c5), .slice X2 Dk.past.length x2] 26 (0, 0)) := by rw [← hWb]; exact set2a _ bO7
              have t0 := cell_of_row _ w2.heap.size 0 _ _ _ bO7
              have t1 := cell_of_row _ w2.heap.size 1 _ _ _ bOb
              have s0 : WX.frozen? ⟨w2.heap.size, 0, none⟩ = false := unfrozen_of bO7
              have s1 : Wb.frozen? ⟨w2.heap.size, 1, none⟩ = false := unfrozen_of bOb
              have bO8 : WO.heap[w2.heap.size]? = some (.cells #[(.slice A5 (deskDo Dk ⟨dk, da, db⟩).1.now.length c5), (.slice A6 (deskDo Dk ⟨dk, da, db⟩).1.past.length c6)] 26 (0, 0)) := by rw [← hWO]; exact set2b _ bOb
              have hgO : WX.grownBy WO (some w2.heap.size) := by rw [← hWO, ← hWb]; exact W2_grown _ _ _ _
              have ko8 : KO WO w1.heap.size (.slice A5 (deskDo Dk ⟨dk, da, db⟩).1.now.length c5) (.slice A6 (deskDo Dk ⟨dk, da, db⟩).1.past.length c6) (deskDo Dk ⟨dk, da, db⟩).1 ys := (oX.keptLow hgO hOl).mono (by omega)
              have hb8 : Below w2.heap.size w3 WO := hb7.grown hgO (by have := hb7.size; omega) (fun k e => by cases e; exact Nat.le_refl _)
              have HK8 := Lib.hid bO8
              have HK9 := Lib.hid ko8
              clear bX oX bO7 bOb bO8 hgO ko8 ko7 hWX0 HDo
              go_wp2_with fail
              go_roundw
              case rel => exact ⟨k + 1, _, _, ys, by omega, by go_num, by rw [HN.out], HK8.out, by rw [HN.out]; exact HK9.out, hb8⟩
              case measure => simp [intOf]; omega
        · have p2 : ¬ (k : Int) < (ds.length : Int) := by omega
          have hkl : ds.take k = ds := List.take_of_length_le (by omega)
          have HV2 := Lib.hid (show deskRun D ds = (Dk, nk) by rw [HV.out, ← hkl]; exact HRK.out)
          have bRR := (hb.block (w.heap.size + 1) (by omega)).trans ((hx3.block (w.heap.size + 1) (by omega)).trans bR)
          obtain ⟨Wb, hWb⟩ : ∃ Wb, wr.setCell ⟨w.heap.size + 1, 0, none⟩ (.slice X1 Dk.now.length x1) = Wb := ⟨_, rfl⟩
          obtain ⟨WO, hWO⟩ : ∃ WO, Wb.setCell ⟨w.heap.size + 1, 1, none⟩ (.slice X2 Dk.past.length x2) = WO := ⟨_, rfl⟩
          have bOb : Wb.heap[w.heap.size + 1]? = some (.cells #[.slice X1 Dk.now.length x1, .slice none 0 0] 26 (0, 0)) := by rw [← hWb]; exact set2a _ bRR
          have t0 := cell_of_row _ (w.heap.size + 1) 0 _ _ _ bRR
          have t1 := cell_of_row _ (w.heap.size + 1) 1 _ _ _ bOb
          have s0 : wr.frozen? ⟨w.heap.size + 1, 0, none⟩ = false := unfrozen_of bRR
          have s1 : Wb.frozen? ⟨w.heap.size + 1, 1, none⟩ = false := unfrozen_of bOb
          have HB8 : Hid (WO.heap[w.heap.size + 1]? = some (.cells #[.slice X1 Dk.now.length x1, .slice X2 Dk.past.length x2] 26 (0, 0))) := by rw [← hWO]; exact set2b _ bOb
          have hgO : wr.grownBy WO (some (w.heap.size + 1)) := by rw [← hWO, ← hWb]; exact W2_grown _ _ _ _
          have HK := Lib.hid ((ko.keptLow hgO (by omega)).mono (show w.heap.size ≤ w1.heap.size by omega))
          have HW := Lib.hid (hbw.grown hgO (by omega) (fun k e => by cases e; omega))
          clear bRR bOb hgO ko hbw bO hRk hbd hkl
          go_wp2_with fail
          have b7 := HB8.out
          have k0 := cell_of_row _ (w.heap.size + 1) 0 _ _ _ b7
          have k1 := cell_of_row _ (w.heap.size + 1) 1 _ _ _ b7
          refine bodyPost_ret (v := .tuple #[.agg #[.slice X1 Dk.now.length x1, .slice X2 Dk.past.length x2], .int .i64 nk]) (by simp [results, Try.f28, go_sem, k0, k1]) rfl ?_
          exact ⟨_, _, by rw [HV2.out], ⟨xs, by rw [HV2.out]; exact HK.out⟩, HW.out⟩
    · have p40 : (40 : Int) < (ds.length : Int) := by omega
      have HV := Lib.hid (deskRun_no (D := D) (ds := ds) (by simp [runOk, h40]))
      clear ho hK hK0 hs
      go_enter Try.func28, Try.ntmps28
      go_wp2_with fail
      refine HO.out.mono ?_
      rintro e w1 ⟨rfl, hb1⟩
      rw [H.out]
      have b1 := (hb1.block (w.heap.size + 1) (by omega)).trans bR
      have r0 := cell_of_row _ (w.heap.size + 1) 0 _ _ _ b1
      have r1 := cell_of_row _ (w.heap.size + 1) 1 _ _ _ b1
      have f0 : w1.frozen? ⟨w.heap.size + 1, 0, none⟩ = false := unfrozen_of b1
      have f1 : w1.frozen? ⟨w.heap.size + 1, 1, none⟩ = false := unfrozen_of b1
      clear hw0
      go_wp2_with fail
      have b7 := set2b (.slice none 0 0) (set2a (.slice none 0 0) b1)
      have k0 := cell_of_row _ (w.heap.size + 1) 0 _ _ _ b7
      have k1 := cell_of_row _ (w.heap.size + 1) 1 _ _ _ b7
      refine bodyPost_ret (v := .tuple #[.agg #[.slice none 0 0, .slice none 0 0], .int .i64 0]) (by simp [results, Try.f28, go_sem, k0, k1]) rfl ?_
      exact ⟨_, _, [], by rw [HV.out], by rw [HV.out]; exact KO.zero _ _, (((hb0.trans (hb1.mono (by omega))).setCell (p := ⟨w.heap.size + 1, 0, none⟩) (by simp) _).setCell (p := ⟨w.heap.size + 1, 1, none⟩) (by simp) _)⟩

end Go.Proofs.Ytpbmehodcllncaa

