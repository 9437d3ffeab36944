/- draws of desks and deeds: DrawDeskOk, DrawDeskNew, l20Deeds, DrawDeedText (ahead of the landing) -/
import Derived.Test.YtpbmehodcllncaaI12
namespace Go.Proofs.Ytpbmehodcllncaa
set_option linter.unusedVariables false
open Go.RowKit
attribute [local go_sem ↓] Go.wp_at_zero Go.wp_at_succ


set_option maxHeartbeats 1000000 in
theorem c_DrawDeskNew (A : Option Addr) (n c : Nat) (w : World) (h : Bs w w.heap.size A n) (hn : n ≤ 1048576) (hc : n ≤ c) :
    Calls Try.prog 15 #[.slice A n c] w fun e w' => ∃ L v, e = .returned v ∧ CO w' w.heap.size v L ∧ L.length ≤ 9 ∧ bdL L ∧ Below w.heap.size w w' := by
  go_enter Try.func15, Try.ntmps15
  go_wp2_with fail
  refine (c_l20Open A n c _ h hn hc).mono ?_
  rintro e w1 ⟨r, rfl, hr, hb1⟩
  have hs1 := hb1.size
  have hrb := hr.1
  go_wp2_with fail
  refine (c_l20Customers w.heap.size r 0 3 _ hr (by omega) (by omega) (by omega)).mono ?_
  rintro e w2 ⟨L, v, rfl, hv, hl, hbd, hg, -⟩
  go_wp2_with fail
  go_ret
  exact ⟨L, v, rfl, hv.mono hs1, hl, hbd, hb1.trans (below_grown hg hrb hs1)⟩



theorem Bs.upto {w w' : World} {B B' : Nat} {A : Option Addr} {n : Nat} (h : Bs w B A n) (hb : Below B w w') (hB : B ≤ B') : Bs w' B' A n := by
  intro hn
  obtain ⟨b, off, e, hlt, hc⟩ := (h.keep fun k hk => hb.block k hk) hn
  exact ⟨b, off, e, by omega, hc⟩

set_option maxHeartbeats 2000000 in
theorem c_DrawDeskOk (A : Option Addr) (n c : Nat) (w : World) (h : Bs w w.heap.size A n) (hn : n ≤ 1048576) (hc : n ≤ c) :
    Calls Try.prog 11 #[.slice A n c] w fun e w' => ∃ vn vp D, e = .returned (.agg #[vn, vp]) ∧ DskP w' w.heap.size vn vp D ∧ Below w.heap.size w w' := by
  obtain ⟨w0, hw0⟩ : ∃ w0, w.alloc (.cells #[.slice none 0 0, .slice none 0 0] 26) = w0 := ⟨_, rfl⟩
  have hz0 : w0.heap.size = w.heap.size + 1 := by rw [← hw0]; simp
  have hb0 : Below w.heap.size w w0 := by rw [← hw0]; exact (Below.refl _ w).alloc (Nat.le_refl _) _
  have bR : w0.heap[w.heap.size]? = some (.cells #[.slice none 0 0, .slice none 0 0] 26 (0, 0)) := by rw [← hw0]; exact heap_alloc_new _ _
  have h0 : Bs w0 w0.heap.size A n := h.upto hb0 (by omega)
  clear h
  go_enter Try.func11, Try.ntmps11
  go_wp2_with fail
  clear hw0
  refine (c_l20Open A n c _ h0 hn hc).mono ?_
  rintro e w1 ⟨r, rfl, hr, hb1⟩
  have hs1 := hb1.size
  have hrb := hr.1
  have hrl := hr.2.1
  have b1 := (hb1.block w.heap.size (by omega)).trans bR
  have hx1 := hb0.trans (hb1.mono (by omega))
  clear bR h0 hb1
  go_wp2_with fail
  refine (c_l20Desk w0.heap.size r 0 2 _ hr (by omega) (by omega) (by omega)).mono ?_
  rintro e w2 ⟨vn, vp, D, rfl, hD, hg2, -⟩
  have b2 := blk1 hg2 (show r ≠ w.heap.size by omega) b1
  have hx2 := hx1.trans (below_grown hg2 (show w.heap.size ≤ r by omega) (by omega))
  have hs2 := hg2.size
  obtain ⟨X1, x1, X2, x2, rfl, rfl⟩ := hD.now.slices
  obtain ⟨r0, r1, f0, f1⟩ := two_at b2
  obtain ⟨Wb, hWb⟩ : ∃ Wb, w2.setCell ⟨w.heap.size, 0, none⟩ (.slice X1 D.now.length x1) = Wb := ⟨_, rfl⟩
  obtain ⟨WO, hWO⟩ : ∃ WO, Wb.setCell ⟨w.heap.size, 1, none⟩ (.slice X2 D.past.length x2) = WO := ⟨_, rfl⟩
  have e3 : Wb.heap[w.heap.size]? = some (.cells #[.slice X1 D.now.length x1, .slice none 0 0] 26 (0, 0)) := by rw [← hWb]; exact set2a _ b2
  have r2 := cell_of_row _ w.heap.size 1 _ _ _ e3
  have f2 : Wb.frozen? ⟨w.heap.size, 1, none⟩ = false := unfrozen_of e3
  have HF : Hid (WO.heap[w.heap.size]? = some (.cells #[.slice X1 D.now.length x1, .slice X2 D.past.length x2] 26 (0, 0))) := by rw [← hWO]; exact Lib.hid (set2b _ e3)
  have hgO : w2.grownBy WO (some w.heap.size) := by rw [← hWO, ← hWb]; exact W2_grown _ _ _ _
  have HD := Lib.hid ((hD.low hgO (by omega)).mono (show w.heap.size ≤ w1.heap.size by omega))
  have HX := Lib.hid (hx2.grown hgO (by omega) (fun k e => by cases e; exact Nat.le_refl _))
  clear b2 b1 hg2 hD hgO hx1 hx2 hr e3
  go_wp2_with fail
  have k0 := cell_of_row _ w.heap.size 0 _ _ _ HF.out
  have k1 := cell_of_row _ w.heap.size 1 _ _ _ HF.out
  refine bodyPost_ret (v := .agg #[.slice X1 D.now.length x1, .slice X2 D.past.length x2]) (by simp [results, Try.f11, go_sem, k0, k1]) rfl ?_
  exact ⟨_, _, D, rfl, HD.out, HX.out⟩

theorem EO.grownR {w w' : World} {base : Nat} {row : Option Nat} {v : Value} {L : List DV} (h : EO w base v L) (hg : w.grownBy w' row) (hr : ∀ r, row = some r → r < base) : EO w' base v L := by
  refine ⟨h.1, ?_⟩
  have hl := owns_lt h
  rcases h.2 with h2 | ⟨g, cap, cur, rfl, hgb, hh, rest⟩
  · exact .inl h2
  · have := hl g (by simp [Value.ownBlock])
    exact .inr ⟨g, cap, cur, rfl, hgb, by rw [hg.block g (by omega) (fun e => by have := hr _ e.symm; omega)]; exact hh, rest⟩

set_option maxRecDepth 8000 in
set_option maxHeartbeats 4000000 in
theorem c_l20Deeds (base r p : Nat) (L : List (Int × Int)) (A : Option Addr) (c : Nat) (w : World) (h : Rd w base r p) (hp : p ≤ 800000000) (hL : L.length ≤ 1000) (hbd : bdX L)
    (hA : ∀ W, w.grownBy W (some r) → Cs W W.heap.size A L) :
    Calls Try.prog 58 #[.pointer (some ⟨r, 0, none⟩), .slice A L.length c] w fun e w' => ∃ v ds, e = .returned v ∧ EO w' w.heap.size v ds ∧ ds.length ≤ 5 ∧ w.grownBy w' (some r) ∧ ∃ p', p' ≤ p + 60 ∧ Rd w' base r p' := by
  have hrw := h.2.1
  have hbr := h.1
  have hb0 : Below w.heap.size w (w.alloc (.cells #[] 40)) := (Below.refl _ w).alloc (Nat.le_refl _) _
  have g0 : w.grownBy (w.alloc (.cells #[] 40)) (some r) := World.grownBy_alloc _ _ _
  have o0 : EO (w.alloc (.cells #[] 40)) w.heap.size (.slice (some ⟨w.heap.size, 0, none⟩) 0 0) [] := EO.empty _ (Nat.le_refl _)
  have HA := Lib.hid hA
  clear hA
  go_enter Try.func58, Try.ntmps58
  go_wp2_with fail
  ((with_reducible refine (c_pickI base r p 6 _ (h.keepB hb0 hrw (by omega)) (by omega) (by omega) (by omega)).mono ?_))
  rintro e w1 ⟨x, hx, rfl, hg1, hr1⟩
  have g1 := g0.trans hg1
  have o1 : EO w1 w.heap.size (.slice (some ⟨w.heap.size, 0, none⟩) 0 0) [] := o0.grownR hg1 (fun k e => by cases e; omega)
  clear g0 o0 hg1 hb0 h
  go_wp2_with fail
  go_loopw [5, 6] (fun v kv wr => ∃ (k q : Nat) (ds : List DV), kv = .int .i64 (k : Int) ∧ k + ds.length ≤ 5 ∧ q + 10 * k ≤ p + 51 ∧ EO wr w.heap.size v ds ∧ w.grownBy wr (some r) ∧ Rd wr base r q) (fun _ kv _ => (intOf kv).toNat)
  case atStart => exact ⟨x, p + 1, [], rfl, by simp; omega, by omega, o1, g1, hr1⟩
  case round =>
    clear g1 o1 hr1
    obtain ⟨k, q, ds, rfl, hk, hq, own, gr, rd⟩ := hrel
    have hsr := gr.size
    by_cases hk0 : 0 < k
    · have HL := Lib.hid (c_l20Deed base r q L A c wr rd (by omega) hL hbd (fun W hg => HA.out W (gr.trans hg)))
      go_wp2_with fail
      refine HL.out.mono ?_
      rintro e w5 ⟨dk, da, db, rfl, hdk, hda, hdb, hg5, q5, hq5, hr5⟩
      have g5 := gr.trans hg5
      have o5 := own.grownR hg5 (fun k e => by cases e; omega)
      have hs5 := g5.size
      clear gr own hg5 rd HL
      go_wp2_with (refine app_E ?_ (.tmp 14) (.tmp 18) ?_ w.heap.size u5 ds dk da db w5.heap.size ?_ ?_ ?_ ?_ ?_ ?_ ?_; rfl; rfl; rfl; exact (o5.alloc _); rfl; exact (heap_alloc_new _ _); omega; (first | omega | (simp; omega)); intro g cap w6 hown6 hgr6 hb6)
      have hb6' : Below w.heap.size w5 w6 := Below.trans (by (repeat (first | exact rfl | exact Below.refl _ _ | (with_reducible refine Below.drew ?_) | (with_reducible refine Below.drewN ?_ _) | (with_reducible refine Below.alloc ?_ ?_ _) | (with_reducible refine Below.setCell ?_ ?_ _) | (show _ ≤ _; focus (first | omega | (simp; done) | (simp; omega)))))) hb6
      have g6 := grown_thenB g5 hb6'
      have r6 := hr5.keepB hb6' hrw (by omega)
      go_wp2_with fail
      go_roundw
      case rel => exact ⟨k - 1, q5, ds ++ [⟨dk, da, db⟩], by go_num, by simp; omega, by omega, by simpa using hown6, g6, r6⟩
      case measure => simp [intOf]; omega
    · go_wp2_with fail
      go_ret
      exact ⟨_, ds, rfl, own, by omega, gr, q, by omega, rd⟩

set_option maxHeartbeats 1000000 in
theorem c_l20OpenB (A : Option Addr) (n c : Nat) (w : World) (B : Nat) (h : Bs w B A n) (hB : B ≤ w.heap.size) (hn : n ≤ 1048576) (hc : n ≤ c) :
    Calls Try.prog 44 #[.slice A n c] w fun e w' => ∃ r, e = .returned (.pointer (some ⟨r, 0, none⟩)) ∧ Rd w' B r 0 ∧ w.heap.size ≤ r ∧ Below w.heap.size w w' := by
  by_cases h2 : n ≤ 2000
  · go_enter Try.func44, Try.ntmps44
    go_wp2
    go_ret
    refine ⟨w.heap.size, rfl, ⟨hB, by simp, A, n, c, h2, heap_alloc_new _ _, h.keep fun k hk => Below.heap_alloc _ _ _ (Nat.lt_of_lt_of_le hk hB)⟩, Nat.le_refl _, by (repeat (first | exact rfl | exact Below.refl _ _ | (with_reducible refine Below.drew ?_) | (with_reducible refine Below.drewN ?_ _) | (with_reducible refine Below.alloc ?_ ?_ _) | (with_reducible refine Below.setCell ?_ ?_ _) | (show _ ≤ _; focus (first | omega | (simp; done) | (simp; omega)))))⟩
  · go_enter Try.func44, Try.ntmps44
    go_wp2
    go_ret
    refine ⟨w.heap.size, rfl, ⟨hB, by simp, A, 2000, c, by omega, heap_alloc_new _ _, fun _ => ?_⟩, Nat.le_refl _, by (repeat (first | exact rfl | exact Below.refl _ _ | (with_reducible refine Below.drew ?_) | (with_reducible refine Below.drewN ?_ _) | (with_reducible refine Below.alloc ?_ ?_ _) | (with_reducible refine Below.setCell ?_ ?_ _) | (show _ ≤ _; focus (first | omega | (simp; done) | (simp; omega)))))⟩
    obtain ⟨b, off, rfl, hlt, hcc⟩ := (h.keep (w' := w.alloc (.cells #[.slice A 2000 c, .int .i64 0] 97)) fun k hk => Below.heap_alloc _ _ _ (Nat.lt_of_lt_of_le hk hB)) (by omega)
    exact ⟨b, off, rfl, hlt, fun k hk => hcc k (by omega)⟩

theorem Rd.other {w w' : World} {base r R p : Nat} (h : Rd w base r p) (hg : w.grownBy w' (some R)) (hr : R ≠ r) (hb : base ≤ R) : Rd w' base r p := by
  obtain ⟨h1, h2, A, n, c, hn, hh, hb'⟩ := h
  exact ⟨h1, Nat.lt_of_lt_of_le h2 hg.size, A, n, c, hn, (hg.block r h2 (by simp; omega)).trans hh, hb'.keep fun k hk => hg.block k (by omega) (by simp; omega)⟩

set_option maxRecDepth 8000 in
set_option maxHeartbeats 4000000 in
theorem c_DrawDeskDo (A : Option Addr) (n c : Nat) (w : World) (h : Bs w w.heap.size A n) (hn : n ≤ 1048576) (hc : n ≤ c) :
    Calls Try.prog 22 #[.slice A n c] w fun e w' => ∃ vn vp D k a b, e = .returned (.tuple #[.agg #[vn, vp], .agg #[.int .i64 k, .int .i64 a, .int .i64 b]]) ∧ DskP w' w.heap.size vn vp D ∧ (0 ≤ k ∧ k ≤ 9) ∧ (-1000 ≤ a ∧ a ≤ 1000) ∧ (-1000 ≤ b ∧ b ≤ 1000) ∧ Below w.heap.size w w' := by
  obtain ⟨w0, hw0⟩ : ∃ w0, (w.alloc (.cells #[.slice none 0 0, .slice none 0 0] 26)).alloc (.cells #[.int .i64 0, .int .i64 0, .int .i64 0] 40) = w0 := ⟨_, rfl⟩
  have hz0 : w0.heap.size = w.heap.size + 2 := by rw [← hw0]; simp
  have hb0 : Below w.heap.size w w0 := by rw [← hw0]; exact ((Below.refl _ w).alloc (Nat.le_refl _) _).alloc (by simp) _
  have bR : w0.heap[w.heap.size]? = some (.cells #[.slice none 0 0, .slice none 0 0] 26 (0, 0)) := by rw [← hw0]; exact (Below.heap_alloc _ _ _ (by simp)).trans (heap_alloc_new _ _)
  have bE : w0.heap[w.heap.size + 1]? = some (.cells #[.int .i64 0, .int .i64 0, .int .i64 0] 40 (0, 0)) := by rw [← hw0]; exact heap_newK _ _ _
  have h0 : Bs w0 w.heap.size A n := h.upto hb0 (Nat.le_refl _)
  clear h
  go_enter Try.func22, Try.ntmps22
  go_wp2_with fail
  clear hw0
  refine (c_l20OpenB A n c _ w.heap.size h0 (by omega) hn hc).mono ?_
  rintro e w1 ⟨r, rfl, hr, hrz, hb1⟩
  have hs1 := hb1.size
  have hrb := hr.1
  have hrl := hr.2.1
  have b1 := (hb1.block w.heap.size (by omega)).trans bR
  have c1 := (hb1.block (w.heap.size + 1) (by omega)).trans bE
  have hx1 := hb0.trans (hb1.mono (by omega))
  clear bR bE h0 hb1
  go_wp2_with fail
  refine (c_l20Desk w.heap.size r 0 12 _ hr (by omega) (by omega) (by omega)).mono ?_
  rintro e w2 ⟨vn, vp, D, rfl, hD, hg2, p2, hp2, hr2⟩
  have b2 := blk1 hg2 (show r ≠ w.heap.size by omega) b1
  have c2 := blk1 hg2 (show r ≠ w.heap.size + 1 by omega) c1
  have hx2 := hx1.trans (below_grown hg2 (show w.heap.size ≤ r by omega) (by omega))
  have hs2 := hg2.size
  obtain ⟨X1, x1, X2, x2, rfl, rfl⟩ := hD.now.slices
  obtain ⟨w3, hw3⟩ : ∃ w3, w2.alloc (.cells #[.slice X1 D.now.length x1, .slice X2 D.past.length x2] 26) = w3 := ⟨_, rfl⟩
  have hz3 : w3.heap.size = w2.heap.size + 1 := by rw [← hw3]; simp
  have hb3 : Below w2.heap.size w2 w3 := by rw [← hw3]; exact (Below.refl _ w2).alloc (Nat.le_refl _) _
  have bD : w3.heap[w2.heap.size]? = some (.cells #[.slice X1 D.now.length x1, .slice X2 D.past.length x2] 26 (0, 0)) := by rw [← hw3]; exact heap_alloc_new _ _
  have hD3 := hD.below hb3 (Nat.le_refl _)
  have r3 := hr2.keepB hb3 (by omega) (by omega)
  have b3 := (hb3.block w.heap.size (by omega)).trans b2
  have c3 := (hb3.block (w.heap.size + 1) (by omega)).trans c2
  have hx3 := hx2.trans (hb3.mono (by omega))
  obtain ⟨wd, hwd⟩ : ∃ z, w3.drew = z := ⟨_, rfl⟩
  have hbd : Below w3.heap.size w3 wd := by rw [← hwd]; exact (Below.refl _ w3).drew
  have hzd := hbd.size
  have bDd := (hbd.block w2.heap.size (by omega)).trans bD
  have bd := (hbd.block w.heap.size (by omega)).trans b3
  have cd := (hbd.block (w.heap.size + 1) (by omega)).trans c3
  have rd := r3.keepB hbd (by omega) (by omega)
  have hDd := hD3.below hbd (Nat.le_refl _)
  have hxd := hx3.trans (hbd.mono (by omega))
  obtain ⟨q0, q1, -, -⟩ := two_at bDd
  obtain ⟨q2, q3, -, -⟩ := two_at bD
  clear hb3 hb0 hx1 hx2 hx3 b1 c1 b2 c2 hr hr2 hg2 hD
  go_wp2_with fail
  clear hw3
  obtain ⟨Sa, hSa⟩ : ∃ z, wd.setCell ⟨w.heap.size, 0, none⟩ (.slice X1 D.now.length x1) = z := ⟨_, rfl⟩; obtain ⟨Sb, hSb⟩ : ∃ z, Sa.setCell ⟨w.heap.size, 1, none⟩ (.slice X2 D.past.length x2) = z := ⟨_, rfl⟩; have sa : Sa.heap[w.heap.size]? = some (.cells #[(.slice X1 D.now.length x1), .slice none 0 0] 26 (0, 0)) := (by rw [← hSa]; exact set2a _ bd); have s : Sb.heap[w.heap.size]? = some (.cells #[(.slice X1 D.now.length x1), (.slice X2 D.past.length x2)] 26 (0, 0)) := (by rw [← hSb]; exact set2b _ sa); have s1 := (two_at bd).1; have s2 := (two_at bd).2.2.1; have s3 := (two_at sa).2.1; have s4 := (two_at sa).2.2.2; have sg : wd.grownBy Sb (some w.heap.size) := (by rw [← hSb, ← hSa]; exact W2_grown _ _ _ _)
  have cs := blk1 sg (show w.heap.size ≠ w.heap.size + 1 by omega) cd
  have rs : Rd Sb w.heap.size r p2 := rd.other sg (by omega) (Nat.le_refl _)
  have hDs := hDd.low sg (show w.heap.size < w1.heap.size by omega)
  go_region_with (first
    | (go_at_call 51; (with_reducible refine (c_l20Deed w.heap.size r p2 D.now X1 x1 wd rd (by omega) hDd.len hDd.bd (hDd.cs (by omega)).2).mono ?_); rintro e w5 ⟨dk, da, db, rfl, hdk, hda, hdb, hg5, q5, hq5, hr5⟩; have u5 := (two_at (blk1 hg5 (show r ≠ w2.heap.size by omega) bDd)).1; have u6 := (two_at (blk1 hg5 (show r ≠ w2.heap.size by omega) bDd)).2.1; have b5 := blk1 hg5 (show r ≠ w.heap.size by omega) bd; have c5 := blk1 hg5 (show r ≠ w.heap.size + 1 by omega) cd; have hD5 := hDd.low hg5 (show r < w1.heap.size by omega); have hx5 := hxd.trans (below_grown hg5 (show w.heap.size ≤ r by omega) (by omega)); obtain ⟨Wa, hWa⟩ : ∃ z, w5.setCell ⟨w.heap.size, 0, none⟩ (.slice X1 D.now.length x1) = z := ⟨_, rfl⟩; obtain ⟨Wb, hWb⟩ : ∃ z, Wa.setCell ⟨w.heap.size, 1, none⟩ (.slice X2 D.past.length x2) = z := ⟨_, rfl⟩; have ma : Wa.heap[w.heap.size]? = some (.cells #[(.slice X1 D.now.length x1), .slice none 0 0] 26 (0, 0)) := (by rw [← hWa]; exact set2a _ b5); have m : Wb.heap[w.heap.size]? = some (.cells #[(.slice X1 D.now.length x1), (.slice X2 D.past.length x2)] 26 (0, 0)) := (by rw [← hWb]; exact set2b _ ma); have m1 := (two_at b5).1; have m2 := (two_at b5).2.2.1; have m3 := (two_at ma).2.1; have m4 := (two_at ma).2.2.2; have mg : w5.grownBy Wb (some w.heap.size) := (by rw [← hWb, ← hWa]; exact W2_grown _ _ _ _); have c6 := blk1 mg (show w.heap.size ≠ w.heap.size + 1 by omega) c5; obtain ⟨Wc, hWc⟩ : ∃ z, Wb.setCell ⟨(w.heap.size + 1), 0, none⟩ (.int .i64 dk) = z := ⟨_, rfl⟩; obtain ⟨Wd, hWd⟩ : ∃ z, Wc.setCell ⟨(w.heap.size + 1), 1, none⟩ (.int .i64 da) = z := ⟨_, rfl⟩; obtain ⟨We, hWe⟩ : ∃ z, Wd.setCell ⟨(w.heap.size + 1), 2, none⟩ (.int .i64 db) = z := ⟨_, rfl⟩; have nna : Wc.heap[(w.heap.size + 1)]? = some (.cells #[(.int .i64 dk), .int .i64 0, .int .i64 0] 40 (0, 0)) := (by rw [← hWc]; exact set3a _ c6); have nnb : Wd.heap[(w.heap.size + 1)]? = some (.cells #[(.int .i64 dk), (.int .i64 da), .int .i64 0] 40 (0, 0)) := (by rw [← hWd]; exact set3b _ nna); have nn : We.heap[(w.heap.size + 1)]? = some (.cells #[(.int .i64 dk), (.int .i64 da), (.int .i64 db)] 40 (0, 0)) := (by rw [← hWe]; exact set3c _ nnb); have nn1 := cell_of_row _ (w.heap.size + 1) 0 _ _ _ c6; have nn2 : Wb.frozen? ⟨(w.heap.size + 1), 0, none⟩ = false := unfrozen_of c6; have nn3 := cell_of_row _ (w.heap.size + 1) 1 _ _ _ nna; have nn4 : Wc.frozen? ⟨(w.heap.size + 1), 1, none⟩ = false := unfrozen_of nna; have nn5 := cell_of_row _ (w.heap.size + 1) 2 _ _ _ nnb; have nn6 : Wd.frozen? ⟨(w.heap.size + 1), 2, none⟩ = false := unfrozen_of nnb; have nng : Wb.grownBy We (some (w.heap.size + 1)) := (by rw [← hWe, ← hWd, ← hWc]; exact ((grown_set1 _ _ _ _).trans (grown_set1 _ _ _ _)).trans (grown_set1 _ _ _ _)); have m7 := blk1 nng (show w.heap.size + 1 ≠ w.heap.size by omega) m; obtain ⟨Va, hVa⟩ : ∃ z, w5.setCell ⟨(w.heap.size + 1), 0, none⟩ (.int .i64 dk) = z := ⟨_, rfl⟩; obtain ⟨Vb, hVb⟩ : ∃ z, Va.setCell ⟨(w.heap.size + 1), 1, none⟩ (.int .i64 da) = z := ⟨_, rfl⟩; obtain ⟨Vc, hVc⟩ : ∃ z, Vb.setCell ⟨(w.heap.size + 1), 2, none⟩ (.int .i64 db) = z := ⟨_, rfl⟩; have oa : Va.heap[(w.heap.size + 1)]? = some (.cells #[(.int .i64 dk), .int .i64 0, .int .i64 0] 40 (0, 0)) := (by rw [← hVa]; exact set3a _ c5); have ob : Vb.heap[(w.heap.size + 1)]? = some (.cells #[(.int .i64 dk), (.int .i64 da), .int .i64 0] 40 (0, 0)) := (by rw [← hVb]; exact set3b _ oa); have o : Vc.heap[(w.heap.size + 1)]? = some (.cells #[(.int .i64 dk), (.int .i64 da), (.int .i64 db)] 40 (0, 0)) := (by rw [← hVc]; exact set3c _ ob); have o1 := cell_of_row _ (w.heap.size + 1) 0 _ _ _ c5; have o2 : w5.frozen? ⟨(w.heap.size + 1), 0, none⟩ = false := unfrozen_of c5; have o3 := cell_of_row _ (w.heap.size + 1) 1 _ _ _ oa; have o4 : Va.frozen? ⟨(w.heap.size + 1), 1, none⟩ = false := unfrozen_of oa; have o5 := cell_of_row _ (w.heap.size + 1) 2 _ _ _ ob; have o6 : Vb.frozen? ⟨(w.heap.size + 1), 2, none⟩ = false := unfrozen_of ob; have og : w5.grownBy Vc (some (w.heap.size + 1)) := (by rw [← hVc, ← hVb, ← hVa]; exact ((grown_set1 _ _ _ _).trans (grown_set1 _ _ _ _)).trans (grown_set1 _ _ _ _)); have b6 := blk1 og (show w.heap.size + 1 ≠ w.heap.size by omega) b5; obtain ⟨Vd, hVd⟩ : ∃ z, Vc.setCell ⟨w.heap.size, 0, none⟩ (.slice X1 D.now.length x1) = z := ⟨_, rfl⟩; obtain ⟨Ve, hVe⟩ : ∃ z, Vd.setCell ⟨w.heap.size, 1, none⟩ (.slice X2 D.past.length x2) = z := ⟨_, rfl⟩; have ta : Vd.heap[w.heap.size]? = some (.cells #[(.slice X1 D.now.length x1), .slice none 0 0] 26 (0, 0)) := (by rw [← hVd]; exact set2a _ b6); have t : Ve.heap[w.heap.size]? = some (.cells #[(.slice X1 D.now.length x1), (.slice X2 D.past.length x2)] 26 (0, 0)) := (by rw [← hVe]; exact set2b _ ta); have t1 := (two_at b6).1; have t2 := (two_at b6).2.2.1; have t3 := (two_at ta).2.1; have t4 := (two_at ta).2.2.2; have tg : Vc.grownBy Ve (some w.heap.size) := (by rw [← hVe, ← hVd]; exact W2_grown _ _ _ _); have o7 := blk1 tg (show w.heap.size ≠ w.heap.size + 1 by omega) o; have hDW := (hD5.low mg (by omega)).low nng (show w.heap.size + 1 < w1.heap.size by omega); have hDV := (hD5.low og (show w.heap.size + 1 < w1.heap.size by omega)).low tg (by omega); have z5 := World.grownBy.size hg5; have zm := World.grownBy.size mg; have zo := World.grownBy.size og; have hXW := (hx5.grown mg (by omega) (fun k e => by cases e; exact Nat.le_refl _)).grown nng (by omega) (fun k e => by cases e; omega); have hXV := (hx5.grown og (by omega) (fun k e => by cases e; omega)).grown tg (by omega) (fun k e => by cases e; exact Nat.le_refl _))
    | (go_at_call 51; (with_reducible refine (c_l20Deed w.heap.size r p2 D.now X1 x1 Sb rs (by omega) hDs.len hDs.bd (hDs.cs (by omega)).2).mono ?_); rintro e w5 ⟨dk, da, db, rfl, hdk, hda, hdb, hg5, q5, hq5, hr5⟩; have m5 := blk1 hg5 (show r ≠ w.heap.size by omega) s; have c5 := blk1 hg5 (show r ≠ w.heap.size + 1 by omega) cs; have hD5 := hDs.low hg5 (show r < w1.heap.size by omega); obtain ⟨Wc, hWc⟩ : ∃ z, w5.setCell ⟨(w.heap.size + 1), 0, none⟩ (.int .i64 dk) = z := ⟨_, rfl⟩; obtain ⟨Wd, hWd⟩ : ∃ z, Wc.setCell ⟨(w.heap.size + 1), 1, none⟩ (.int .i64 da) = z := ⟨_, rfl⟩; obtain ⟨We, hWe⟩ : ∃ z, Wd.setCell ⟨(w.heap.size + 1), 2, none⟩ (.int .i64 db) = z := ⟨_, rfl⟩; have nna : Wc.heap[(w.heap.size + 1)]? = some (.cells #[(.int .i64 dk), .int .i64 0, .int .i64 0] 40 (0, 0)) := (by rw [← hWc]; exact set3a _ c5); have nnb : Wd.heap[(w.heap.size + 1)]? = some (.cells #[(.int .i64 dk), (.int .i64 da), .int .i64 0] 40 (0, 0)) := (by rw [← hWd]; exact set3b _ nna); have nn : We.heap[(w.heap.size + 1)]? = some (.cells #[(.int .i64 dk), (.int .i64 da), (.int .i64 db)] 40 (0, 0)) := (by rw [← hWe]; exact set3c _ nnb); have nn1 := cell_of_row _ (w.heap.size + 1) 0 _ _ _ c5; have nn2 : w5.frozen? ⟨(w.heap.size + 1), 0, none⟩ = false := unfrozen_of c5; have nn3 := cell_of_row _ (w.heap.size + 1) 1 _ _ _ nna; have nn4 : Wc.frozen? ⟨(w.heap.size + 1), 1, none⟩ = false := unfrozen_of nna; have nn5 := cell_of_row _ (w.heap.size + 1) 2 _ _ _ nnb; have nn6 : Wd.frozen? ⟨(w.heap.size + 1), 2, none⟩ = false := unfrozen_of nnb; have nng : w5.grownBy We (some (w.heap.size + 1)) := (by rw [← hWe, ← hWd, ← hWc]; exact ((grown_set1 _ _ _ _).trans (grown_set1 _ _ _ _)).trans (grown_set1 _ _ _ _)); have m7 := blk1 nng (show w.heap.size + 1 ≠ w.heap.size by omega) m5; have hDW := hD5.low nng (show w.heap.size + 1 < w1.heap.size by omega); have z5 := World.grownBy.size hg5; have zs := World.grownBy.size sg; have hXW := ((hxd.grown sg (by omega) (fun k e => by cases e; exact Nat.le_refl _)).trans (below_grown hg5 (show w.heap.size ≤ r by omega) (by have := World.grownBy.size sg; omega))).grown nng (by have := World.grownBy.size sg; have := World.grownBy.size hg5; omega) (fun k e => by cases e; omega)))
  all_goals go_wp2_with fail
  all_goals first
    | (have k0 := cell_of_row _ w.heap.size 0 _ _ _ m7; have k1 := cell_of_row _ w.heap.size 1 _ _ _ m7; have k2 := cell_of_row _ (w.heap.size + 1) 0 _ _ _ nn; have k3 := cell_of_row _ (w.heap.size + 1) 1 _ _ _ nn; have k4 := cell_of_row _ (w.heap.size + 1) 2 _ _ _ nn; refine bodyPost_ret (v := .tuple #[.agg #[(.slice X1 D.now.length x1), (.slice X2 D.past.length x2)], .agg #[.int .i64 dk, .int .i64 da, .int .i64 db]]) (by simp [results, Try.f22, go_sem, k0, k1, k2, k3, k4]) rfl ?_; exact ⟨_, _, D, dk, da, db, rfl, hDW.mono (by omega), hdk, hda, hdb, hXW⟩)
    | (have k0 := cell_of_row _ w.heap.size 0 _ _ _ t; have k1 := cell_of_row _ w.heap.size 1 _ _ _ t; have k2 := cell_of_row _ (w.heap.size + 1) 0 _ _ _ o7; have k3 := cell_of_row _ (w.heap.size + 1) 1 _ _ _ o7; have k4 := cell_of_row _ (w.heap.size + 1) 2 _ _ _ o7; refine bodyPost_ret (v := .tuple #[.agg #[(.slice X1 D.now.length x1), (.slice X2 D.past.length x2)], .agg #[.int .i64 dk, .int .i64 da, .int .i64 db]]) (by simp [results, Try.f22, go_sem, k0, k1, k2, k3, k4]) rfl ?_; exact ⟨_, _, D, dk, da, db, rfl, hDV.mono (by omega), hdk, hda, hdb, hXV⟩)

end Go.Proofs.Ytpbmehodcllncaa

