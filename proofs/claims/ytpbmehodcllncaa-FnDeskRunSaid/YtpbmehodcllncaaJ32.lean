/- walks of the laws of chapter 12, third part: FnDeskRun -/
import Derived.Test.YtpbmehodcllncaaJ31
import Derived.Test.YtpbmehodcllncaaI14
import Derived.Deep.CutRange
namespace Go.Proofs.Ytpbmehodcllncaa
set_option linter.unusedVariables false
open Go.RowKit
attribute [local go_sem ↓] Go.wp_at_zero Go.wp_at_succ

theorem Ds3.take {w : World} {B : Nat} {A : Option Addr} {L : List DV} (h : Ds3 w B A L) (m : Nat) : Ds3 w B A (L.take m) := by
  intro hn
  rw [List.length_take] at hn
  obtain ⟨b, off, rfl, hlt, hc⟩ := h (by omega)
  refine ⟨b, off, rfl, hlt, fun k hk => ?_⟩
  rw [List.length_take] at hk
  have e : ZD (L.take m) k = ZD L k := by simp [ZD, List.getD_eq_getElem?_getD, List.getElem?_take_of_lt (show k < m by omega)]
  rw [e]
  exact hc k (by omega)
theorem Ds3.drop {w : World} {B b off : Nat} {L : List DV} (h : Ds3 w B (some ⟨b, off, none⟩) L) (m : Nat) : Ds3 w B (some ⟨b, off + m * 3, none⟩) (L.drop m) := by
  intro hn
  rw [List.length_drop] at hn
  obtain ⟨b2, off2, e, hlt, hc⟩ := h (by omega)
  injection e with e
  injection e with e1 e2 _
  subst e1 e2
  refine ⟨b, off + m * 3, rfl, hlt, fun k hk => ?_⟩
  rw [List.length_drop] at hk
  have e : ZD (L.drop m) k = ZD L (m + k) := by simp [ZD, List.getD_eq_getElem?_getD]
  rw [e, show off + m * 3 + k * 3 = off + (m + k) * 3 by omega]
  exact hc (m + k) (by omega)
theorem EO.formE {w : World} {base : Nat} {v : Value} {L : List DV} (h : EO w base v L) : ∃ A c, v = .slice A L.length c ∧ L.length ≤ c ∧ ((A = none ∧ c = 0) ∨ ∃ g, A = some ⟨g, 0, none⟩) ∧ Ds3 w w.heap.size A L := by
  obtain ⟨A, c, e, h1, -, h2⟩ := h.form
  refine ⟨A, c, e, h1, ?_, h2⟩
  rcases h.2 with ⟨e2, -⟩ | ⟨g, cap, cur, e2, -⟩
  · rw [e2] at e; injection e with e3 e4 e5; exact .inl ⟨e3.symm, e5.symm⟩
  · rw [e2] at e; injection e with e3 e4 e5; exact .inr ⟨g, e3.symm⟩
theorem run_small {D : KV} {ds : List DV} (hs : SmallK D) : SmallK (deskRun D ds).1 := by
  cases h : runOk D ds with
  | true =>
    rw [show deskRun D ds = runTo D ds from if_pos h]
    simp only [runOk, Bool.and_eq_true] at h
    exact small_ok (runTo_ok h.1 ds)
  | false => rw [deskRun_no h]; exact small_zero
theorem run_ok {D : KV} {ds : List DV} (h : runOk D ds = true) : deskOk (deskRun D ds).1 = true := by
  rw [show deskRun D ds = runTo D ds from if_pos h]
  simp only [runOk, Bool.and_eq_true] at h
  exact runTo_ok h.1 ds
theorem run_bd (D : KV) (ds : List DV) (hl : ds.length ≤ 41) : 0 ≤ (deskRun D ds).2 ∧ (deskRun D ds).2 ≤ 41 := by
  cases h : runOk D ds with
  | true =>
    rw [show deskRun D ds = runTo D ds from if_pos h]
    have := runTo_bd D ds
    omega
  | false => rw [deskRun_no h]; simp

set_option maxRecDepth 8000 in
set_option maxHeartbeats 8000000 in
theorem w_FnDeskRun (A : Option Addr) (n c : Nat) (w : World) (h : Bs w w.heap.size A n) (hc : n ≤ c) :
    Calls Try.prog 6 #[.slice A n c] w fun e w' => e = .returned (.bool true) ∧ Below w.heap.size w w' := by
  by_cases hn : n ≤ 1048576
  · go_enter Try.func6, Try.ntmps6
    go_wp2_with fail
    refine (c_DrawDeskRun A n c _ h hn hc).mono ?_
    rintro e w1 ⟨vn, vp, D, v, ds, rfl, hD, o1, hl, hb1⟩
    have hs1 := hb1.size
    obtain ⟨X1, x1, X2, x2, rfl, rfl⟩ := hD.now.slices
    obtain ⟨G, gc, rfl, hgc, hgs, hG⟩ := o1.formE
    obtain ⟨w2, hw2, hz2, hb2, HC2⟩ := desk_laid w1 (.slice X1 D.now.length x1) (.slice X2 D.past.length x2)
    have hsm := hD.small
    have k2 := hD.now.up hb2
    have g2 := (hG.below hb2).more hb2.size
    have hx2 := hb1.trans (hb2.mono hs1)
    have HCd := Lib.hid HC2
    obtain ⟨q0, q1⟩ := HCd.out _ (Below.refl _ w2)
    have HD1 := Lib.hid (c_iDeskRun D ds _ _ G gc w2 k2 hsm g2 hgc (by omega))
    have hbd := run_bd D ds hl
    clear h hD hb1 hb2 o1 hG
    go_wp2_with fail
    clear hw2
    refine HD1.out.mono ?_
    rintro e w4 ⟨xn, xp, xs, rfl, o4, hb4⟩
    obtain ⟨Y1, y1, Y2, y2, rfl, rfl⟩ := o4.slices
    have smX := run_small (ds := ds) hsm
    obtain ⟨w5, hw5, hz5, hb5, HC5⟩ := desk_laid w4 (.slice Y1 (deskRun D ds).1.now.length y1) (.slice Y2 (deskRun D ds).1.past.length y2)
    have hb25 : Below w2.heap.size w2 w5 := hb4.trans (hb5.mono hb4.size)
    have kx5 := o4.ks.up hb5
    have k5 := k2.up hb25
    have g5 := (g2.below hb25).more hb25.size
    have HC5 := Lib.hid HC5
    have HD2 := Lib.hid (c_sDeskRun D ds _ _ G gc w5 k5 hsm g5 (by omega))
    obtain ⟨q5, q6⟩ := HCd.out _ hb25
    clear q0 q1 HD1 o4 hb4 hb5 k2 g2
    go_wp2_with fail
    clear hw5 q5 q6
    refine HD2.out.mono ?_
    rintro e w6 ⟨zn, zp, zs, rfl, o6, hb6⟩
    obtain ⟨Z1, z1, Z2, z2, rfl, rfl⟩ := o6.slices
    obtain ⟨w7, hw7, hz7, hb7, HC7⟩ := desk_laid w6 (.slice Z1 (deskRun D ds).1.now.length z1) (.slice Z2 (deskRun D ds).1.past.length z2)
    have hb57 : Below w5.heap.size w5 w7 := hb6.trans (hb7.mono hb6.size)
    have kz7 := o6.ks.up hb7
    have k7 := k5.up hb57
    have kx7 := kx5.up hb57
    have g7 := (g5.below hb57).more hb57.size
    have hb27 := hb25.trans (hb57.mono hb25.size)
    have HC7 := Lib.hid HC7
    have HS7 := Lib.hid (c_sameDesk _ _ _ _ _ _ w7 kx7 kz7 smX smX)
    obtain ⟨q0, q1⟩ := HC5.out _ hb57
    obtain ⟨q2, q3⟩ := HC7.out _ (Below.refl _ w7)
    clear HD2 o6 hb6 hb7 kx5 k5 g5
    go_wp2_with fail
    clear hw7 q0 q1 q2 q3
    refine HS7.out.mono ?_
    rintro e w8 ⟨rfl, hb8⟩
    rw [eqK_self]
    have hb28 := hb27.trans (hb8.mono hb27.size)
    have hb58 := hb57.trans (hb8.mono hb57.size)
    have k8 := k7.up hb8
    have kx8 := kx7.up hb8
    have g8 := (g7.below hb8).more hb8.size
    have hx8 := hx2.trans (hb28.mono (by have := hx2.size; omega))
    have hne : ((deskRun D ds).2 != (deskRun D ds).2) = false := by simp
    have HOk := Lib.hid (c_sDeskOk D _ _ w8 k8 hsm)
    obtain ⟨q0, q1⟩ := HCd.out _ hb28
    clear HS7 HC7 kz7 hb8 k7 kx7 g7
    go_wp2_with fail
    refine HOk.out.mono ?_
    rintro e w9 ⟨rfl, hb9⟩
    have hb59 := hb58.trans (hb9.mono hb58.size)
    have hb29 := hb28.trans (hb9.mono hb28.size)
    have k9 := k8.up hb9
    have kx9 := kx8.up hb9
    have g9 := (g8.below hb9).more hb9.size
    have hx9 := hx8.trans (hb9.mono hx8.size)
    clear q0 q1 HOk k8 kx8 g8 hb9 hb57 hb25
    by_cases hok : deskOk D = true ∧ ds.length ≤ 40
    · have hrun : runOk D ds = true := by simp [runOk, hok.1, hok.2]
      obtain ⟨m, hm⟩ : ∃ m, ds.length / 2 = m := ⟨_, rfl⟩
      have hm2 : m ≤ ds.length := by omega
      have hparts := Lib.hid (deskRun_parts hrun m)
      have HXok := Lib.hid (run_ok hrun)
      have h40 : ¬ (40 : Int) < (ds.length : Int) := by omega
      have H1 := Lib.hid hok.1
      have hqm : Int.tdiv (ds.length : Int) 2 = (m : Int) := by rw [Int.tdiv_eq_ediv_of_nonneg (by omega)]; omega
      have qw : IntKind.i64.wrap (m : Int) = (m : Int) := IntWalk.i64_in _ (by omega)
      have p0 : (0 : Int) ≤ (m : Int) := by omega
      have p1 : (m : Int) ≤ (ds.length : Int) := by omega
      have p2 : (m : Int) ≤ (gc : Int) := by omega
      have p3 : (ds.length : Int) ≤ (gc : Int) := by omega
      have hl1 : (ds.take m).length = m := by rw [List.length_take]; omega
      have hl2 : (ds.drop m).length = ds.length - m := List.length_drop
      have HCd := Lib.hid (fun W (hb : Below w9.heap.size w9 W) => HCd.out W (hb29.trans (hb.mono hb29.size)))
      have HR1 := Lib.hid (fun W (hb : Below w9.heap.size w9 W) => show Calls Try.prog 27 #[.agg #[.slice X1 D.now.length x1, .slice X2 D.past.length x2], .slice G m gc] W fun e w' => ∃ un up us, e = .returned (.tuple #[.agg #[un, up], .int .i64 (deskRun D (ds.take m)).2]) ∧ KO w' W.heap.size un up (deskRun D (ds.take m)).1 us ∧ Below W.heap.size W w' from by
        have K := c_iDeskRun D (ds.take m) _ _ G gc W (k9.up hb) hsm (((g9.take m).below hb).more hb.size) (by omega) (by omega)
        rw [hl1] at K
        exact K)
      have sm1 := run_small (ds := ds.take m) hsm
      have bd1 := run_bd D (ds.take m) (by omega)
      have HX9 := Lib.hid hx9
      have H5 := Lib.hid (fun W (hb : Below w9.heap.size w9 W) => HC5.out W (hb59.trans (hb.mono hb59.size)))
      have hx9s := hx9.size
      have HL1 := Lib.hid hl1
      have HGC := Lib.hid (And.intro hgc hm2)
      have HL2 := Lib.hid hl2
      have HMZ := Lib.hid (show 0 < ds.length → m < ds.length by omega)
      clear hl1 hl2 hm
      clear hok hb28 hb29 hb58 hb59 hx8 hx9 hx2 hrun
      rw [H1.out]
      generalize hR1 : deskRun D (ds.take m) = R1 at HR1 sm1 bd1 hparts
      have HRR := Lib.hid hR1
      clear hR1
      go_upto_region 11 with fail
      go_cut [10, 11] from 63 to 70 (fun p10 p11 wy => ∃ (Bx : Nat) (un up : Value), p10 = .pointer (some ⟨Bx, 0, none⟩) ∧ p11 = .int .i64 R1.2 ∧ (∀ W, Below wy.heap.size wy W → W.cell? ⟨Bx, 0, none⟩ = some un ∧ W.cell? ⟨Bx, 1, none⟩ = some up) ∧ Ks wy wy.heap.size un up R1.1 ∧ Below w9.heap.size w9 wy)
      case first =>
        obtain ⟨Vd, hVd⟩ : ∃ z, w9.drew = z := ⟨_, rfl⟩
        have hbVd : Below w9.heap.size w9 Vd := by rw [← hVd]; exact (Below.refl _ w9).drew
        have hzd := hbVd.size
        obtain ⟨Vz, hVz⟩ : ∃ z, Vd.alloc (.cells #[.slice none 0 0, .slice none 0 0] 26) = z := ⟨_, rfl⟩
        have hbVz : Below w9.heap.size w9 Vz := by rw [← hVz]; exact hbVd.alloc hbVd.size _
        have hzz : Vz.heap.size = Vd.heap.size + 1 := by rw [← hVz]; simp
        have bz : Vz.heap[Vd.heap.size]? = some (.cells #[.slice none 0 0, .slice none 0 0] 26 (0, 0)) := by rw [← hVz]; exact heap_alloc_new _ _
        obtain ⟨l0, l1⟩ := HCd.out w9 (Below.refl _ _)
        obtain ⟨l2, l3⟩ := HCd.out Vd hbVd
        obtain ⟨l4, l5⟩ := HCd.out Vz hbVz
        go_region_with (first
                | (go_at_call 27; (with_reducible refine (HR1.out Vd hbVd).mono ?_); rintro e w6 ⟨yn, yp, ys, rfl, o6, hb6⟩; obtain ⟨A5, c5, A6, c6, rfl, rfl⟩ := o6.slices; have hx6 : Below w9.heap.size w9 w6 := hbVd.trans (hb6.mono hbVd.size); obtain ⟨WX, hWX⟩ : ∃ WX, w6.alloc (.cells #[(.slice A5 R1.1.now.length c5), (.slice A6 R1.1.past.length c6)] 26) = WX := ⟨_, rfl⟩; have hb7 : Below w6.heap.size w6 WX := (by rw [← hWX]; exact (Below.refl _ w6).alloc (Nat.le_refl _) _); have hX : Below w9.heap.size w9 WX := hx6.trans (hb7.mono hx6.size); have kX : Ks WX WX.heap.size (.slice A5 R1.1.now.length c5) (.slice A6 R1.1.past.length c6) R1.1 := o6.ks.up hb7; have b7 : WX.heap[w6.heap.size]? = some (.cells #[(.slice A5 R1.1.now.length c5), (.slice A6 R1.1.past.length c6)] 26 (0, 0)) := (by rw [← hWX]; exact heap_alloc_new _ _); have bX : ∃ Bx, Bx = w6.heap.size ∧ ∀ W, Below WX.heap.size WX W → W.cell? ⟨Bx, 0, none⟩ = some (.slice A5 R1.1.now.length c5) ∧ W.cell? ⟨Bx, 1, none⟩ = some (.slice A6 R1.1.past.length c6) := ⟨_, rfl, fun W hb => ⟨(two_at ((hb.block w6.heap.size (by have := (Array.getElem?_eq_some_iff.1 b7).1; omega)).trans b7)).1, (two_at ((hb.block w6.heap.size (by have := (Array.getElem?_eq_some_iff.1 b7).1; omega)).trans b7)).2.1⟩⟩; have hL7 := HCd.out w6 hx6)
                | (go_at_call 27; (with_reducible refine (HR1.out Vz hbVz).mono ?_); rintro e w6 ⟨yn, yp, ys, rfl, o6, hb6⟩; obtain ⟨A5, c5, A6, c6, rfl, rfl⟩ := o6.slices; have hx6 : Below w9.heap.size w9 w6 := hbVz.trans (hb6.mono hbVz.size); have bx := (hb6.block Vd.heap.size (by omega)).trans bz; have x0' := cell_of_row _ Vd.heap.size 0 _ _ _ bx; have x1' := cell_of_row _ Vd.heap.size 1 _ _ _ bx; have z0 : w6.frozen? ⟨Vd.heap.size, 0, none⟩ = false := unfrozen_of bx; have z1 : w6.frozen? ⟨Vd.heap.size, 1, none⟩ = false := unfrozen_of bx; obtain ⟨Wa, hWa⟩ : ∃ Wa, w6.setCell ⟨Vd.heap.size, 0, none⟩ (.slice A5 R1.1.now.length c5) = Wa := ⟨_, rfl⟩; obtain ⟨WX, hWX⟩ : ∃ WX, Wa.setCell ⟨Vd.heap.size, 1, none⟩ (.slice A6 R1.1.past.length c6) = WX := ⟨_, rfl⟩; have bxa : Wa.heap[Vd.heap.size]? = some (.cells #[(.slice A5 R1.1.now.length c5), .slice none 0 0] 26 (0, 0)) := (by rw [← hWa]; exact set2a _ bx); have x2' := cell_of_row _ Vd.heap.size 1 _ _ _ bxa; have z2 : Wa.frozen? ⟨Vd.heap.size, 1, none⟩ = false := unfrozen_of bxa; have b7 : WX.heap[Vd.heap.size]? = some (.cells #[(.slice A5 R1.1.now.length c5), (.slice A6 R1.1.past.length c6)] 26 (0, 0)) := (by rw [← hWX]; exact set2b _ bxa); have hgZ : w6.grownBy WX (some Vd.heap.size) := (by rw [← hWX, ← hWa]; exact W2_grown _ _ _ _); have hX : Below w9.heap.size w9 WX := hx6.grown hgZ (by have := hx6.size; omega) (fun k e => by cases e; exact hbVd.size); have kX : Ks WX WX.heap.size (.slice A5 R1.1.now.length c5) (.slice A6 R1.1.past.length c6) R1.1 := (o6.keptLow hgZ (by omega)).ks; have bX : ∃ Bx, Bx = Vd.heap.size ∧ ∀ W, Below WX.heap.size WX W → W.cell? ⟨Bx, 0, none⟩ = some (.slice A5 R1.1.now.length c5) ∧ W.cell? ⟨Bx, 1, none⟩ = some (.slice A6 R1.1.past.length c6) := ⟨_, rfl, fun W hb => ⟨(two_at ((hb.block Vd.heap.size (by have := (Array.getElem?_eq_some_iff.1 b7).1; omega)).trans b7)).1, (two_at ((hb.block Vd.heap.size (by have := (Array.getElem?_eq_some_iff.1 b7).1; omega)).trans b7)).2.1⟩⟩; have hL7 := HCd.out w6 hx6))
        all_goals
          obtain ⟨Bx, hBx, HBx⟩ := bX
          subst hBx
          try go_wp2_with fail
          go_meet
          case rel => exact ⟨_, _, _, rfl, rfl, HBx, kX, hX⟩
      case rest =>
        clear HR1
        obtain ⟨Ba, an, ap, rfl, rfl, HCa, ka, hba⟩ := hcut
        obtain ⟨A1, a1, A2, a2, rfl, rfl⟩ := ka.slices
        have HCa := Lib.hid HCa
        have g10 := (g9.below hba).more hba.size
        obtain ⟨V10, hVV⟩ : ∃ z, z = wc := ⟨_, rfl⟩
        subst hVV
        have HBA := Lib.hid hba
        clear hba
        by_cases hz : ds.length = 0
        · obtain rfl := List.eq_nil_of_length_eq_zero hz
          have hm0 : m = 0 := by have := HGC.out.2; simp at this; exact this
          subst hm0
          have HR2 := Lib.hid (fun (A' : Option Addr) (c' : Nat) W (hb : Below V10.heap.size V10 W) => show Calls Try.prog 27 #[.agg #[.slice A1 R1.1.now.length a1, .slice A2 R1.1.past.length a2], .slice A' 0 c'] W fun e w' => ∃ un up us, e = .returned (.tuple #[.agg #[un, up], .int .i64 (deskRun R1.1 ([] : List DV)).2]) ∧ KO w' W.heap.size un up (deskRun R1.1 []).1 us ∧ Below W.heap.size W w' from
            c_iDeskRun R1.1 [] _ _ A' c' W (ka.up hb) sm1 (fun h => by simp at h) (by simp) (by simp))
          have sm2 := run_small (ds := []) sm1
          have bd2 := run_bd R1.1 [] (by simp)
          have hparts := Lib.hid (show (deskRun R1.1 []).1 = (deskRun D []).1 ∧ R1.2 + (deskRun R1.1 []).2 = (deskRun D []).2 from hparts.out)
          generalize hR2 : deskRun R1.1 [] = R2 at HR2 sm2 bd2 hparts
          have HRS := Lib.hid hR2
          clear hR2 hz
          rcases hgs with ⟨rfl, rfl⟩ | ⟨gb, rfl⟩
          · go_upto_region 12 with fail
            go_cut [12, 13] from 71 to 78 (fun p12 p13 wy => ∃ (Bx : Nat) (un up : Value), p12 = .pointer (some ⟨Bx, 0, none⟩) ∧ p13 = .int .i64 R2.2 ∧ (∀ W, Below wy.heap.size wy W → W.cell? ⟨Bx, 0, none⟩ = some un ∧ W.cell? ⟨Bx, 1, none⟩ = some up) ∧ Ks wy wy.heap.size un up R2.1 ∧ Below V10.heap.size V10 wy)
            case first =>
              obtain ⟨Vd, hVd⟩ : ∃ z, V10.drew = z := ⟨_, rfl⟩
              have hbVd : Below V10.heap.size V10 Vd := by rw [← hVd]; exact (Below.refl _ V10).drew
              have hzd := hbVd.size
              obtain ⟨Vz, hVz⟩ : ∃ z, Vd.alloc (.cells #[.slice none 0 0, .slice none 0 0] 26) = z := ⟨_, rfl⟩
              have hbVz : Below V10.heap.size V10 Vz := by rw [← hVz]; exact hbVd.alloc hbVd.size _
              have hzz : Vz.heap.size = Vd.heap.size + 1 := by rw [← hVz]; simp
              have bz : Vz.heap[Vd.heap.size]? = some (.cells #[.slice none 0 0, .slice none 0 0] 26 (0, 0)) := by rw [← hVz]; exact heap_alloc_new _ _
              obtain ⟨l0, l1⟩ := HCa.out V10 (Below.refl _ _)
              obtain ⟨l2, l3⟩ := HCa.out Vd hbVd
              obtain ⟨l4, l5⟩ := HCa.out Vz hbVz
              go_region_with (first
                      | (go_at_call 27; (with_reducible refine (HR2.out _ _ Vd hbVd).mono ?_); rintro e w6 ⟨yn, yp, ys, rfl, o6, hb6⟩; obtain ⟨A5, c5, A6, c6, rfl, rfl⟩ := o6.slices; have hx6 : Below V10.heap.size V10 w6 := hbVd.trans (hb6.mono hbVd.size); obtain ⟨WX, hWX⟩ : ∃ WX, w6.alloc (.cells #[(.slice A5 R2.1.now.length c5), (.slice A6 R2.1.past.length c6)] 26) = WX := ⟨_, rfl⟩; have hb7 : Below w6.heap.size w6 WX := (by rw [← hWX]; exact (Below.refl _ w6).alloc (Nat.le_refl _) _); have hX : Below V10.heap.size V10 WX := hx6.trans (hb7.mono hx6.size); have kX : Ks WX WX.heap.size (.slice A5 R2.1.now.length c5) (.slice A6 R2.1.past.length c6) R2.1 := o6.ks.up hb7; have b7 : WX.heap[w6.heap.size]? = some (.cells #[(.slice A5 R2.1.now.length c5), (.slice A6 R2.1.past.length c6)] 26 (0, 0)) := (by rw [← hWX]; exact heap_alloc_new _ _); have bX : ∃ Bx, Bx = w6.heap.size ∧ ∀ W, Below WX.heap.size WX W → W.cell? ⟨Bx, 0, none⟩ = some (.slice A5 R2.1.now.length c5) ∧ W.cell? ⟨Bx, 1, none⟩ = some (.slice A6 R2.1.past.length c6) := ⟨_, rfl, fun W hb => ⟨(two_at ((hb.block w6.heap.size (by have := (Array.getElem?_eq_some_iff.1 b7).1; omega)).trans b7)).1, (two_at ((hb.block w6.heap.size (by have := (Array.getElem?_eq_some_iff.1 b7).1; omega)).trans b7)).2.1⟩⟩; have hL7 := HCa.out w6 hx6)
                      | (go_at_call 27; (with_reducible refine (HR2.out _ _ Vz hbVz).mono ?_); rintro e w6 ⟨yn, yp, ys, rfl, o6, hb6⟩; obtain ⟨A5, c5, A6, c6, rfl, rfl⟩ := o6.slices; have hx6 : Below V10.heap.size V10 w6 := hbVz.trans (hb6.mono hbVz.size); have bx := (hb6.block Vd.heap.size (by omega)).trans bz; have x0' := cell_of_row _ Vd.heap.size 0 _ _ _ bx; have x1' := cell_of_row _ Vd.heap.size 1 _ _ _ bx; have z0 : w6.frozen? ⟨Vd.heap.size, 0, none⟩ = false := unfrozen_of bx; have z1 : w6.frozen? ⟨Vd.heap.size, 1, none⟩ = false := unfrozen_of bx; obtain ⟨Wa, hWa⟩ : ∃ Wa, w6.setCell ⟨Vd.heap.size, 0, none⟩ (.slice A5 R2.1.now.length c5) = Wa := ⟨_, rfl⟩; obtain ⟨WX, hWX⟩ : ∃ WX, Wa.setCell ⟨Vd.heap.size, 1, none⟩ (.slice A6 R2.1.past.length c6) = WX := ⟨_, rfl⟩; have bxa : Wa.heap[Vd.heap.size]? = some (.cells #[(.slice A5 R2.1.now.length c5), .slice none 0 0] 26 (0, 0)) := (by rw [← hWa]; exact set2a _ bx); have x2' := cell_of_row _ Vd.heap.size 1 _ _ _ bxa; have z2 : Wa.frozen? ⟨Vd.heap.size, 1, none⟩ = false := unfrozen_of bxa; have b7 : WX.heap[Vd.heap.size]? = some (.cells #[(.slice A5 R2.1.now.length c5), (.slice A6 R2.1.past.length c6)] 26 (0, 0)) := (by rw [← hWX]; exact set2b _ bxa); have hgZ : w6.grownBy WX (some Vd.heap.size) := (by rw [← hWX, ← hWa]; exact W2_grown _ _ _ _); have hX : Below V10.heap.size V10 WX := hx6.grown hgZ (by have := hx6.size; omega) (fun k e => by cases e; exact hbVd.size); have kX : Ks WX WX.heap.size (.slice A5 R2.1.now.length c5) (.slice A6 R2.1.past.length c6) R2.1 := (o6.keptLow hgZ (by omega)).ks; have bX : ∃ Bx, Bx = Vd.heap.size ∧ ∀ W, Below WX.heap.size WX W → W.cell? ⟨Bx, 0, none⟩ = some (.slice A5 R2.1.now.length c5) ∧ W.cell? ⟨Bx, 1, none⟩ = some (.slice A6 R2.1.past.length c6) := ⟨_, rfl, fun W hb => ⟨(two_at ((hb.block Vd.heap.size (by have := (Array.getElem?_eq_some_iff.1 b7).1; omega)).trans b7)).1, (two_at ((hb.block Vd.heap.size (by have := (Array.getElem?_eq_some_iff.1 b7).1; omega)).trans b7)).2.1⟩⟩; have hL7 := HCa.out w6 hx6))
              all_goals
                obtain ⟨Bx, hBx, HBx⟩ := bX
                subst hBx
                try go_wp2_with fail
                go_meet
                case rel => exact ⟨_, _, _, rfl, rfl, HBx, kX, hX⟩
            case rest =>
            obtain ⟨Bc, cn, cp, rfl, rfl, HCc, kc, hbc⟩ := hcut
            obtain ⟨C1, c1, C2, c2, rfl, rfl⟩ := kc.slices
            have HCc := Lib.hid HCc
            have hba2 := HBA.out.trans (hbc.mono HBA.out.size)
            have kxc := kx9.up hba2
            have HP := hparts.out
            have hsum : IntKind.i64.wrap (R1.2 + R2.2) = R1.2 + R2.2 := IntWalk.i64_in _ (by omega)
            have heq : (R1.2 + R2.2 == (deskRun D []).2) = true := beq_iff_eq.2 HP.2
            have HEQ := Lib.hid (show eqK R2.1 (deskRun D []).1 = true by rw [HP.1]; exact eqK_self _)
            have HOX := Lib.hid (c_iDeskOk (deskRun D []).1 _ _ wc kxc smX)
            rw [HXok.out] at HOX
            have HSX := Lib.hid (fun W (hb : Below wc.heap.size wc W) => c_sameDesk R2.1 (deskRun D []).1 _ _ _ _ W (kc.up hb) (kxc.up hb) sm2 smX)
            have H5c := Lib.hid (fun W (hb : Below wc.heap.size wc W) => H5.out W (hba2.trans (hb.mono hba2.size)))
            obtain ⟨q0, q1⟩ := H5c.out _ (Below.refl _ wc)
            have HX := Lib.hid (HX9.out.trans (hba2.mono HX9.out.size))
            clear HP hparts kc hbc kxc hba2
            go_wp2_with fail
            refine HOX.out.mono ?_
            rintro e w13 ⟨rfl, hb13⟩
            clear q0 q1
            obtain ⟨q0, q1⟩ := H5c.out _ hb13
            obtain ⟨q2, q3⟩ := HCc.out _ hb13
            go_wp2_with fail
            refine (HSX.out _ hb13).mono ?_
            rintro e w14 ⟨rfl, hb14⟩
            rw [HEQ.out]
            have hb134 := hb13.trans (hb14.mono hb13.size)
            clear q0 q1 q2 q3
            go_wp2_with fail
            refine (c_alive _).mono ?_
            rintro e w15 ⟨rfl, hb15⟩
            go_wp2_with fail
            go_ret
            exact ⟨rfl, HX.out.trans ((hb134.trans (hb15.mono hb134.size)).mono HX.out.size)⟩
          · rcases Nat.eq_zero_or_pos gc with rfl | hgp
            · go_upto_region 12 with fail
              go_cut [12, 13] from 71 to 78 (fun p12 p13 wy => ∃ (Bx : Nat) (un up : Value), p12 = .pointer (some ⟨Bx, 0, none⟩) ∧ p13 = .int .i64 R2.2 ∧ (∀ W, Below wy.heap.size wy W → W.cell? ⟨Bx, 0, none⟩ = some un ∧ W.cell? ⟨Bx, 1, none⟩ = some up) ∧ Ks wy wy.heap.size un up R2.1 ∧ Below V10.heap.size V10 wy)
              case first =>
                obtain ⟨Vd, hVd⟩ : ∃ z, V10.drew = z := ⟨_, rfl⟩
                have hbVd : Below V10.heap.size V10 Vd := by rw [← hVd]; exact (Below.refl _ V10).drew
                have hzd := hbVd.size
                obtain ⟨Vz, hVz⟩ : ∃ z, Vd.alloc (.cells #[.slice none 0 0, .slice none 0 0] 26) = z := ⟨_, rfl⟩
                have hbVz : Below V10.heap.size V10 Vz := by rw [← hVz]; exact hbVd.alloc hbVd.size _
                have hzz : Vz.heap.size = Vd.heap.size + 1 := by rw [← hVz]; simp
                have bz : Vz.heap[Vd.heap.size]? = some (.cells #[.slice none 0 0, .slice none 0 0] 26 (0, 0)) := by rw [← hVz]; exact heap_alloc_new _ _
                obtain ⟨l0, l1⟩ := HCa.out V10 (Below.refl _ _)
                obtain ⟨l2, l3⟩ := HCa.out Vd hbVd
                obtain ⟨l4, l5⟩ := HCa.out Vz hbVz
                go_region_with (first
                        | (go_at_call 27; (with_reducible refine (HR2.out _ _ Vd hbVd).mono ?_); rintro e w6 ⟨yn, yp, ys, rfl, o6, hb6⟩; obtain ⟨A5, c5, A6, c6, rfl, rfl⟩ := o6.slices; have hx6 : Below V10.heap.size V10 w6 := hbVd.trans (hb6.mono hbVd.size); obtain ⟨WX, hWX⟩ : ∃ WX, w6.alloc (.cells #[(.slice A5 R2.1.now.length c5), (.slice A6 R2.1.past.length c6)] 26) = WX := ⟨_, rfl⟩; have hb7 : Below w6.heap.size w6 WX := (by rw [← hWX]; exact (Below.refl _ w6).alloc (Nat.le_refl _) _); have hX : Below V10.heap.size V10 WX := hx6.trans (hb7.mono hx6.size); have kX : Ks WX WX.heap.size (.slice A5 R2.1.now.length c5) (.slice A6 R2.1.past.length c6) R2.1 := o6.ks.up hb7; have b7 : WX.heap[w6.heap.size]? = some (.cells #[(.slice A5 R2.1.now.length c5), (.slice A6 R2.1.past.length c6)] 26 (0, 0)) := (by rw [← hWX]; exact heap_alloc_new _ _); have bX : ∃ Bx, Bx = w6.heap.size ∧ ∀ W, Below WX.heap.size WX W → W.cell? ⟨Bx, 0, none⟩ = some (.slice A5 R2.1.now.length c5) ∧ W.cell? ⟨Bx, 1, none⟩ = some (.slice A6 R2.1.past.length c6) := ⟨_, rfl, fun W hb => ⟨(two_at ((hb.block w6.heap.size (by have := (Array.getElem?_eq_some_iff.1 b7).1; omega)).trans b7)).1, (two_at ((hb.block w6.heap.size (by have := (Array.getElem?_eq_some_iff.1 b7).1; omega)).trans b7)).2.1⟩⟩; have hL7 := HCa.out w6 hx6)
                        | (go_at_call 27; (with_reducible refine (HR2.out _ _ Vz hbVz).mono ?_); rintro e w6 ⟨yn, yp, ys, rfl, o6, hb6⟩; obtain ⟨A5, c5, A6, c6, rfl, rfl⟩ := o6.slices; have hx6 : Below V10.heap.size V10 w6 := hbVz.trans (hb6.mono hbVz.size); have bx := (hb6.block Vd.heap.size (by omega)).trans bz; have x0' := cell_of_row _ Vd.heap.size 0 _ _ _ bx; have x1' := cell_of_row _ Vd.heap.size 1 _ _ _ bx; have z0 : w6.frozen? ⟨Vd.heap.size, 0, none⟩ = false := unfrozen_of bx; have z1 : w6.frozen? ⟨Vd.heap.size, 1, none⟩ = false := unfrozen_of bx; obtain ⟨Wa, hWa⟩ : ∃ Wa, w6.setCell ⟨Vd.heap.size, 0, none⟩ (.slice A5 R2.1.now.length c5) = Wa := ⟨_, rfl⟩; obtain ⟨WX, hWX⟩ : ∃ WX, Wa.setCell ⟨Vd.heap.size, 1, none⟩ (.slice A6 R2.1.past.length c6) = WX := ⟨_, rfl⟩; have bxa : Wa.heap[Vd.heap.size]? = some (.cells #[(.slice A5 R2.1.now.length c5), .slice none 0 0] 26 (0, 0)) := (by rw [← hWa]; exact set2a _ bx); have x2' := cell_of_row _ Vd.heap.size 1 _ _ _ bxa; have z2 : Wa.frozen? ⟨Vd.heap.size, 1, none⟩ = false := unfrozen_of bxa; have b7 : WX.heap[Vd.heap.size]? = some (.cells #[(.slice A5 R2.1.now.length c5), (.slice A6 R2.1.past.length c6)] 26 (0, 0)) := (by rw [← hWX]; exact set2b _ bxa); have hgZ : w6.grownBy WX (some Vd.heap.size) := (by rw [← hWX, ← hWa]; exact W2_grown _ _ _ _); have hX : Below V10.heap.size V10 WX := hx6.grown hgZ (by have := hx6.size; omega) (fun k e => by cases e; exact hbVd.size); have kX : Ks WX WX.heap.size (.slice A5 R2.1.now.length c5) (.slice A6 R2.1.past.length c6) R2.1 := (o6.keptLow hgZ (by omega)).ks; have bX : ∃ Bx, Bx = Vd.heap.size ∧ ∀ W, Below WX.heap.size WX W → W.cell? ⟨Bx, 0, none⟩ = some (.slice A5 R2.1.now.length c5) ∧ W.cell? ⟨Bx, 1, none⟩ = some (.slice A6 R2.1.past.length c6) := ⟨_, rfl, fun W hb => ⟨(two_at ((hb.block Vd.heap.size (by have := (Array.getElem?_eq_some_iff.1 b7).1; omega)).trans b7)).1, (two_at ((hb.block Vd.heap.size (by have := (Array.getElem?_eq_some_iff.1 b7).1; omega)).trans b7)).2.1⟩⟩; have hL7 := HCa.out w6 hx6))
                all_goals
                  obtain ⟨Bx, hBx, HBx⟩ := bX
                  subst hBx
                  try go_wp2_with fail
                  go_meet
                  case rel => exact ⟨_, _, _, rfl, rfl, HBx, kX, hX⟩
              case rest =>
              obtain ⟨Bc, cn, cp, rfl, rfl, HCc, kc, hbc⟩ := hcut
              obtain ⟨C1, c1, C2, c2, rfl, rfl⟩ := kc.slices
              have HCc := Lib.hid HCc
              have hba2 := HBA.out.trans (hbc.mono HBA.out.size)
              have kxc := kx9.up hba2
              have HP := hparts.out
              have hsum : IntKind.i64.wrap (R1.2 + R2.2) = R1.2 + R2.2 := IntWalk.i64_in _ (by omega)
              have heq : (R1.2 + R2.2 == (deskRun D []).2) = true := beq_iff_eq.2 HP.2
              have HEQ := Lib.hid (show eqK R2.1 (deskRun D []).1 = true by rw [HP.1]; exact eqK_self _)
              have HOX := Lib.hid (c_iDeskOk (deskRun D []).1 _ _ wc kxc smX)
              rw [HXok.out] at HOX
              have HSX := Lib.hid (fun W (hb : Below wc.heap.size wc W) => c_sameDesk R2.1 (deskRun D []).1 _ _ _ _ W (kc.up hb) (kxc.up hb) sm2 smX)
              have H5c := Lib.hid (fun W (hb : Below wc.heap.size wc W) => H5.out W (hba2.trans (hb.mono hba2.size)))
              obtain ⟨q0, q1⟩ := H5c.out _ (Below.refl _ wc)
              have HX := Lib.hid (HX9.out.trans (hba2.mono HX9.out.size))
              clear HP hparts kc hbc kxc hba2
              go_wp2_with fail
              refine HOX.out.mono ?_
              rintro e w13 ⟨rfl, hb13⟩
              clear q0 q1
              obtain ⟨q0, q1⟩ := H5c.out _ hb13
              obtain ⟨q2, q3⟩ := HCc.out _ hb13
              go_wp2_with fail
              refine (HSX.out _ hb13).mono ?_
              rintro e w14 ⟨rfl, hb14⟩
              rw [HEQ.out]
              have hb134 := hb13.trans (hb14.mono hb13.size)
              clear q0 q1 q2 q3
              go_wp2_with fail
              refine (c_alive _).mono ?_
              rintro e w15 ⟨rfl, hb15⟩
              go_wp2_with fail
              go_ret
              exact ⟨rfl, HX.out.trans ((hb134.trans (hb15.mono hb134.size)).mono HX.out.size)⟩
            · have hgp2 : (0 : Int) < (gc : Int) := by omega
              go_upto_region 12 with fail
              go_cut [12, 13] from 71 to 78 (fun p12 p13 wy => ∃ (Bx : Nat) (un up : Value), p12 = .pointer (some ⟨Bx, 0, none⟩) ∧ p13 = .int .i64 R2.2 ∧ (∀ W, Below wy.heap.size wy W → W.cell? ⟨Bx, 0, none⟩ = some un ∧ W.cell? ⟨Bx, 1, none⟩ = some up) ∧ Ks wy wy.heap.size un up R2.1 ∧ Below V10.heap.size V10 wy)
              case first =>
                obtain ⟨Vd, hVd⟩ : ∃ z, V10.drew = z := ⟨_, rfl⟩
                have hbVd : Below V10.heap.size V10 Vd := by rw [← hVd]; exact (Below.refl _ V10).drew
                have hzd := hbVd.size
                obtain ⟨Vz, hVz⟩ : ∃ z, Vd.alloc (.cells #[.slice none 0 0, .slice none 0 0] 26) = z := ⟨_, rfl⟩
                have hbVz : Below V10.heap.size V10 Vz := by rw [← hVz]; exact hbVd.alloc hbVd.size _
                have hzz : Vz.heap.size = Vd.heap.size + 1 := by rw [← hVz]; simp
                have bz : Vz.heap[Vd.heap.size]? = some (.cells #[.slice none 0 0, .slice none 0 0] 26 (0, 0)) := by rw [← hVz]; exact heap_alloc_new _ _
                obtain ⟨l0, l1⟩ := HCa.out V10 (Below.refl _ _)
                obtain ⟨l2, l3⟩ := HCa.out Vd hbVd
                obtain ⟨l4, l5⟩ := HCa.out Vz hbVz
                go_region_with (first
                        | (go_at_call 27; (with_reducible refine (HR2.out _ _ Vd hbVd).mono ?_); rintro e w6 ⟨yn, yp, ys, rfl, o6, hb6⟩; obtain ⟨A5, c5, A6, c6, rfl, rfl⟩ := o6.slices; have hx6 : Below V10.heap.size V10 w6 := hbVd.trans (hb6.mono hbVd.size); obtain ⟨WX, hWX⟩ : ∃ WX, w6.alloc (.cells #[(.slice A5 R2.1.now.length c5), (.slice A6 R2.1.past.length c6)] 26) = WX := ⟨_, rfl⟩; have hb7 : Below w6.heap.size w6 WX := (by rw [← hWX]; exact (Below.refl _ w6).alloc (Nat.le_refl _) _); have hX : Below V10.heap.size V10 WX := hx6.trans (hb7.mono hx6.size); have kX : Ks WX WX.heap.size (.slice A5 R2.1.now.length c5) (.slice A6 R2.1.past.length c6) R2.1 := o6.ks.up hb7; have b7 : WX.heap[w6.heap.size]? = some (.cells #[(.slice A5 R2.1.now.length c5), (.slice A6 R2.1.past.length c6)] 26 (0, 0)) := (by rw [← hWX]; exact heap_alloc_new _ _); have bX : ∃ Bx, Bx = w6.heap.size ∧ ∀ W, Below WX.heap.size WX W → W.cell? ⟨Bx, 0, none⟩ = some (.slice A5 R2.1.now.length c5) ∧ W.cell? ⟨Bx, 1, none⟩ = some (.slice A6 R2.1.past.length c6) := ⟨_, rfl, fun W hb => ⟨(two_at ((hb.block w6.heap.size (by have := (Array.getElem?_eq_some_iff.1 b7).1; omega)).trans b7)).1, (two_at ((hb.block w6.heap.size (by have := (Array.getElem?_eq_some_iff.1 b7).1; omega)).trans b7)).2.1⟩⟩; have hL7 := HCa.out w6 hx6)
                        | (go_at_call 27; (with_reducible refine (HR2.out _ _ Vz hbVz).mono ?_); rintro e w6 ⟨yn, yp, ys, rfl, o6, hb6⟩; obtain ⟨A5, c5, A6, c6, rfl, rfl⟩ := o6.slices; have hx6 : Below V10.heap.size V10 w6 := hbVz.trans (hb6.mono hbVz.size); have bx := (hb6.block Vd.heap.size (by omega)).trans bz; have x0' := cell_of_row _ Vd.heap.size 0 _ _ _ bx; have x1' := cell_of_row _ Vd.heap.size 1 _ _ _ bx; have z0 : w6.frozen? ⟨Vd.heap.size, 0, none⟩ = false := unfrozen_of bx; have z1 : w6.frozen? ⟨Vd.heap.size, 1, none⟩ = false := unfrozen_of bx; obtain ⟨Wa, hWa⟩ : ∃ Wa, w6.setCell ⟨Vd.heap.size, 0, none⟩ (.slice A5 R2.1.now.length c5) = Wa := ⟨_, rfl⟩; obtain ⟨WX, hWX⟩ : ∃ WX, Wa.setCell ⟨Vd.heap.size, 1, none⟩ (.slice A6 R2.1.past.length c6) = WX := ⟨_, rfl⟩; have bxa : Wa.heap[Vd.heap.size]? = some (.cells #[(.slice A5 R2.1.now.length c5), .slice none 0 0] 26 (0, 0)) := (by rw [← hWa]; exact set2a _ bx); have x2' := cell_of_row _ Vd.heap.size 1 _ _ _ bxa; have z2 : Wa.frozen? ⟨Vd.heap.size, 1, none⟩ = false := unfrozen_of bxa; have b7 : WX.heap[Vd.heap.size]? = some (.cells #[(.slice A5 R2.1.now.length c5), (.slice A6 R2.1.past.length c6)] 26 (0, 0)) := (by rw [← hWX]; exact set2b _ bxa); have hgZ : w6.grownBy WX (some Vd.heap.size) := (by rw [← hWX, ← hWa]; exact W2_grown _ _ _ _); have hX : Below V10.heap.size V10 WX := hx6.grown hgZ (by have := hx6.size; omega) (fun k e => by cases e; exact hbVd.size); have kX : Ks WX WX.heap.size (.slice A5 R2.1.now.length c5) (.slice A6 R2.1.past.length c6) R2.1 := (o6.keptLow hgZ (by omega)).ks; have bX : ∃ Bx, Bx = Vd.heap.size ∧ ∀ W, Below WX.heap.size WX W → W.cell? ⟨Bx, 0, none⟩ = some (.slice A5 R2.1.now.length c5) ∧ W.cell? ⟨Bx, 1, none⟩ = some (.slice A6 R2.1.past.length c6) := ⟨_, rfl, fun W hb => ⟨(two_at ((hb.block Vd.heap.size (by have := (Array.getElem?_eq_some_iff.1 b7).1; omega)).trans b7)).1, (two_at ((hb.block Vd.heap.size (by have := (Array.getElem?_eq_some_iff.1 b7).1; omega)).trans b7)).2.1⟩⟩; have hL7 := HCa.out w6 hx6))
                all_goals
                  obtain ⟨Bx, hBx, HBx⟩ := bX
                  subst hBx
                  try go_wp2_with fail
                  go_meet
                  case rel => exact ⟨_, _, _, rfl, rfl, HBx, kX, hX⟩
              case rest =>
              obtain ⟨Bc, cn, cp, rfl, rfl, HCc, kc, hbc⟩ := hcut
              obtain ⟨C1, c1, C2, c2, rfl, rfl⟩ := kc.slices
              have HCc := Lib.hid HCc
              have hba2 := HBA.out.trans (hbc.mono HBA.out.size)
              have kxc := kx9.up hba2
              have HP := hparts.out
              have hsum : IntKind.i64.wrap (R1.2 + R2.2) = R1.2 + R2.2 := IntWalk.i64_in _ (by omega)
              have heq : (R1.2 + R2.2 == (deskRun D []).2) = true := beq_iff_eq.2 HP.2
              have HEQ := Lib.hid (show eqK R2.1 (deskRun D []).1 = true by rw [HP.1]; exact eqK_self _)
              have HOX := Lib.hid (c_iDeskOk (deskRun D []).1 _ _ wc kxc smX)
              rw [HXok.out] at HOX
              have HSX := Lib.hid (fun W (hb : Below wc.heap.size wc W) => c_sameDesk R2.1 (deskRun D []).1 _ _ _ _ W (kc.up hb) (kxc.up hb) sm2 smX)
              have H5c := Lib.hid (fun W (hb : Below wc.heap.size wc W) => H5.out W (hba2.trans (hb.mono hba2.size)))
              obtain ⟨q0, q1⟩ := H5c.out _ (Below.refl _ wc)
              have HX := Lib.hid (HX9.out.trans (hba2.mono HX9.out.size))
              clear HP hparts kc hbc kxc hba2
              go_wp2_with fail
              refine HOX.out.mono ?_
              rintro e w13 ⟨rfl, hb13⟩
              clear q0 q1
              obtain ⟨q0, q1⟩ := H5c.out _ hb13
              obtain ⟨q2, q3⟩ := HCc.out _ hb13
              go_wp2_with fail
              refine (HSX.out _ hb13).mono ?_
              rintro e w14 ⟨rfl, hb14⟩
              rw [HEQ.out]
              have hb134 := hb13.trans (hb14.mono hb13.size)
              clear q0 q1 q2 q3
              go_wp2_with fail
              refine (c_alive _).mono ?_
              rintro e w15 ⟨rfl, hb15⟩
              go_wp2_with fail
              go_ret
              exact ⟨rfl, HX.out.trans ((hb134.trans (hb15.mono hb134.size)).mono HX.out.size)⟩
        · have HMZ' := HMZ.out (by omega)
          obtain ⟨gb, go, rfl, hgl, hgcc⟩ := g10 (by omega)
          have hgm := HGC.out
          have p4 : (m : Int) < (gc : Int) := by omega
          have p5 : ((ds.length : Int) - (m : Int)).toNat = ds.length - m := by omega
          have p6 : (m : Int) ≤ (ds.length : Int) := by omega
          have p7 : (ds.length : Int) ≤ (gc : Int) := by omega
          have p8 : (0 : Int) ≤ (m : Int) := by omega
          have HR2 := Lib.hid (fun W (hb : Below V10.heap.size V10 W) => show Calls Try.prog 27 #[.agg #[.slice A1 R1.1.now.length a1, .slice A2 R1.1.past.length a2], .slice (some ⟨gb, go + m * 3, none⟩) (ds.length - m) (gc - m)] W fun e w' => ∃ un up us, e = .returned (.tuple #[.agg #[un, up], .int .i64 (deskRun R1.1 (ds.drop m)).2]) ∧ KO w' W.heap.size un up (deskRun R1.1 (ds.drop m)).1 us ∧ Below W.heap.size W w' from by
            have K := c_iDeskRun R1.1 (ds.drop m) _ _ (some ⟨gb, go + m * 3, none⟩) (gc - m) W (ka.up hb) sm1 (((show Ds3 V10 V10.heap.size (some ⟨gb, go, none⟩) ds from fun _ => ⟨gb, go, rfl, hgl, hgcc⟩).drop m).below hb |>.more hb.size) (by have := HL2.out; have := HGC.out; omega) (by have := HL2.out; have := HGC.out; omega)
            rw [HL2.out] at K
            exact K)
          have sm2 := run_small (ds := ds.drop m) sm1
          have bd2 := run_bd R1.1 (ds.drop m) (by have := HL2.out; have := HGC.out; omega)
          generalize hR2 : deskRun R1.1 (ds.drop m) = R2 at HR2 sm2 bd2 hparts
          have HRS := Lib.hid hR2
          clear hR2
          go_upto_region 12 with fail
          go_cut [12, 13] from 71 to 78 (fun p12 p13 wy => ∃ (Bx : Nat) (un up : Value), p12 = .pointer (some ⟨Bx, 0, none⟩) ∧ p13 = .int .i64 R2.2 ∧ (∀ W, Below wy.heap.size wy W → W.cell? ⟨Bx, 0, none⟩ = some un ∧ W.cell? ⟨Bx, 1, none⟩ = some up) ∧ Ks wy wy.heap.size un up R2.1 ∧ Below V10.heap.size V10 wy)
          case first =>
            obtain ⟨Vd, hVd⟩ : ∃ z, V10.drew = z := ⟨_, rfl⟩
            have hbVd : Below V10.heap.size V10 Vd := by rw [← hVd]; exact (Below.refl _ V10).drew
            have hzd := hbVd.size
            obtain ⟨Vz, hVz⟩ : ∃ z, Vd.alloc (.cells #[.slice none 0 0, .slice none 0 0] 26) = z := ⟨_, rfl⟩
            have hbVz : Below V10.heap.size V10 Vz := by rw [← hVz]; exact hbVd.alloc hbVd.size _
            have hzz : Vz.heap.size = Vd.heap.size + 1 := by rw [← hVz]; simp
            have bz : Vz.heap[Vd.heap.size]? = some (.cells #[.slice none 0 0, .slice none 0 0] 26 (0, 0)) := by rw [← hVz]; exact heap_alloc_new _ _
            obtain ⟨l0, l1⟩ := HCa.out V10 (Below.refl _ _)
            obtain ⟨l2, l3⟩ := HCa.out Vd hbVd
            obtain ⟨l4, l5⟩ := HCa.out Vz hbVz
            go_region_with (first
                    | (go_at_call 27; (with_reducible refine (HR2.out Vd hbVd).mono ?_); rintro e w6 ⟨yn, yp, ys, rfl, o6, hb6⟩; obtain ⟨A5, c5, A6, c6, rfl, rfl⟩ := o6.slices; have hx6 : Below V10.heap.size V10 w6 := hbVd.trans (hb6.mono hbVd.size); obtain ⟨WX, hWX⟩ : ∃ WX, w6.alloc (.cells #[(.slice A5 R2.1.now.length c5), (.slice A6 R2.1.past.length c6)] 26) = WX := ⟨_, rfl⟩; have hb7 : Below w6.heap.size w6 WX := (by rw [← hWX]; exact (Below.refl _ w6).alloc (Nat.le_refl _) _); have hX : Below V10.heap.size V10 WX := hx6.trans (hb7.mono hx6.size); have kX : Ks WX WX.heap.size (.slice A5 R2.1.now.length c5) (.slice A6 R2.1.past.length c6) R2.1 := o6.ks.up hb7; have b7 : WX.heap[w6.heap.size]? = some (.cells #[(.slice A5 R2.1.now.length c5), (.slice A6 R2.1.past.length c6)] 26 (0, 0)) := (by rw [← hWX]; exact heap_alloc_new _ _); have bX : ∃ Bx, Bx = w6.heap.size ∧ ∀ W, Below WX.heap.size WX W → W.cell? ⟨Bx, 0, none⟩ = some (.slice A5 R2.1.now.length c5) ∧ W.cell? ⟨Bx, 1, none⟩ = some (.slice A6 R2.1.past.length c6) := ⟨_, rfl, fun W hb => ⟨(two_at ((hb.block w6.heap.size (by have := (Array.getElem?_eq_some_iff.1 b7).1; omega)).trans b7)).1, (two_at ((hb.block w6.heap.size (by have := (Array.getElem?_eq_some_iff.1 b7).1; omega)).trans b7)).2.1⟩⟩; have hL7 := HCa.out w6 hx6)
                    | (go_at_call 27; (with_reducible refine (HR2.out Vz hbVz).mono ?_); rintro e w6 ⟨yn, yp, ys, rfl, o6, hb6⟩; obtain ⟨A5, c5, A6, c6, rfl, rfl⟩ := o6.slices; have hx6 : Below V10.heap.size V10 w6 := hbVz.trans (hb6.mono hbVz.size); have bx := (hb6.block Vd.heap.size (by omega)).trans bz; have x0' := cell_of_row _ Vd.heap.size 0 _ _ _ bx; have x1' := cell_of_row _ Vd.heap.size 1 _ _ _ bx; have z0 : w6.frozen? ⟨Vd.heap.size, 0, none⟩ = false := unfrozen_of bx; have z1 : w6.frozen? ⟨Vd.heap.size, 1, none⟩ = false := unfrozen_of bx; obtain ⟨Wa, hWa⟩ : ∃ Wa, w6.setCell ⟨Vd.heap.size, 0, none⟩ (.slice A5 R2.1.now.length c5) = Wa := ⟨_, rfl⟩; obtain ⟨WX, hWX⟩ : ∃ WX, Wa.setCell ⟨Vd.heap.size, 1, none⟩ (.slice A6 R2.1.past.length c6) = WX := ⟨_, rfl⟩; have bxa : Wa.heap[Vd.heap.size]? = some (.cells #[(.slice A5 R2.1.now.length c5), .slice none 0 0] 26 (0, 0)) := (by rw [← hWa]; exact set2a _ bx); have x2' := cell_of_row _ Vd.heap.size 1 _ _ _ bxa; have z2 : Wa.frozen? ⟨Vd.heap.size, 1, none⟩ = false := unfrozen_of bxa; have b7 : WX.heap[Vd.heap.size]? = some (.cells #[(.slice A5 R2.1.now.length c5), (.slice A6 R2.1.past.length c6)] 26 (0, 0)) := (by rw [← hWX]; exact set2b _ bxa); have hgZ : w6.grownBy WX (some Vd.heap.size) := (by rw [← hWX, ← hWa]; exact W2_grown _ _ _ _); have hX : Below V10.heap.size V10 WX := hx6.grown hgZ (by have := hx6.size; omega) (fun k e => by cases e; exact hbVd.size); have kX : Ks WX WX.heap.size (.slice A5 R2.1.now.length c5) (.slice A6 R2.1.past.length c6) R2.1 := (o6.keptLow hgZ (by omega)).ks; have bX : ∃ Bx, Bx = Vd.heap.size ∧ ∀ W, Below WX.heap.size WX W → W.cell? ⟨Bx, 0, none⟩ = some (.slice A5 R2.1.now.length c5) ∧ W.cell? ⟨Bx, 1, none⟩ = some (.slice A6 R2.1.past.length c6) := ⟨_, rfl, fun W hb => ⟨(two_at ((hb.block Vd.heap.size (by have := (Array.getElem?_eq_some_iff.1 b7).1; omega)).trans b7)).1, (two_at ((hb.block Vd.heap.size (by have := (Array.getElem?_eq_some_iff.1 b7).1; omega)).trans b7)).2.1⟩⟩; have hL7 := HCa.out w6 hx6))
            all_goals
              obtain ⟨Bx, hBx, HBx⟩ := bX
              subst hBx
              try go_wp2_with fail
              go_meet
              case rel => exact ⟨_, _, _, rfl, rfl, HBx, kX, hX⟩
          case rest =>
            obtain ⟨Bc, cn, cp, rfl, rfl, HCc, kc, hbc⟩ := hcut
            obtain ⟨C1, c1, C2, c2, rfl, rfl⟩ := kc.slices
            have HCc := Lib.hid HCc
            have hba2 := HBA.out.trans (hbc.mono HBA.out.size)
            have kxc := kx9.up hba2
            have HP := hparts.out
            have hsum : IntKind.i64.wrap (R1.2 + R2.2) = R1.2 + R2.2 := IntWalk.i64_in _ (by omega)
            have heq : (R1.2 + R2.2 == (deskRun D ds).2) = true := beq_iff_eq.2 HP.2
            have HEQ := Lib.hid (show eqK R2.1 (deskRun D ds).1 = true by rw [HP.1]; exact eqK_self _)
            have HOX := Lib.hid (c_iDeskOk (deskRun D ds).1 _ _ wc kxc smX)
            rw [HXok.out] at HOX
            have HSX := Lib.hid (fun W (hb : Below wc.heap.size wc W) => c_sameDesk R2.1 (deskRun D ds).1 _ _ _ _ W (kc.up hb) (kxc.up hb) sm2 smX)
            have H5c := Lib.hid (fun W (hb : Below wc.heap.size wc W) => H5.out W (hba2.trans (hb.mono hba2.size)))
            obtain ⟨q0, q1⟩ := H5c.out _ (Below.refl _ wc)
            have HX := Lib.hid (HX9.out.trans (hba2.mono HX9.out.size))
            clear HP hparts kc hbc kxc hba2
            go_wp2_with fail
            refine HOX.out.mono ?_
            rintro e w13 ⟨rfl, hb13⟩
            clear q0 q1
            obtain ⟨q0, q1⟩ := H5c.out _ hb13
            obtain ⟨q2, q3⟩ := HCc.out _ hb13
            go_wp2_with fail
            refine (HSX.out _ hb13).mono ?_
            rintro e w14 ⟨rfl, hb14⟩
            rw [HEQ.out]
            have hb134 := hb13.trans (hb14.mono hb13.size)
            clear q0 q1 q2 q3
            go_wp2_with fail
            refine (c_alive _).mono ?_
            rintro e w15 ⟨rfl, hb15⟩
            go_wp2_with fail
            go_ret
            exact ⟨rfl, HX.out.trans ((hb134.trans (hb15.mono hb134.size)).mono HX.out.size)⟩
    · have hrun : runOk D ds = false := by
        cases h : runOk D ds with
        | false => rfl
        | true => simp only [runOk, Bool.and_eq_true, decide_eq_true_eq] at h; exact (hok h).elim
      have hR := deskRun_no hrun
      have HE := Lib.hid (show eqK (deskRun D ds).1 noK = true by rw [hR]; exact eqK_self _)
      have hz : ((deskRun D ds).2 == 0) = true := by rw [hR]; rfl
      have HN := Lib.hid (c_noDesk _ _ _ w9 kx9 smX)
      obtain ⟨q0, q1⟩ := HC5.out _ hb59
      have hx9s := hx9.size
      clear hR hrun k9 g9 hb28 hb29 hb58 hb59
      cases ho : deskOk D with
      | false =>
        go_wp2_with fail
        refine HN.out.mono ?_
        rintro e w10 ⟨rfl, hb10⟩
        rw [HE.out]
        have hx10 := hx9.trans (hb10.mono hx9.size)
        go_wp2_with fail
        refine (c_alive _).mono ?_
        rintro e w11 ⟨rfl, hb11⟩
        go_wp2_with fail
        go_ret
        exact ⟨rfl, hx10.trans (hb11.mono hx10.size)⟩
      | true =>
        have h40 : (40 : Int) < (ds.length : Int) := by
          have : ¬ ds.length ≤ 40 := fun h => hok ⟨ho, h⟩
          omega
        go_wp2_with fail
        refine HN.out.mono ?_
        rintro e w10 ⟨rfl, hb10⟩
        rw [HE.out]
        have hx10 := hx9.trans (hb10.mono hx9.size)
        go_wp2_with fail
        refine (c_alive _).mono ?_
        rintro e w11 ⟨rfl, hb11⟩
        go_wp2_with fail
        go_ret
        exact ⟨rfl, hx10.trans (hb11.mono hx10.size)⟩
  · have hn' : (1048576 : Int) < (n : Int) := by omega
    go_enter Try.func6, Try.ntmps6
    go_wp2_with fail
    go_ret
    exact ⟨rfl, Below.refl _ _⟩

end Go.Proofs.Ytpbmehodcllncaa

