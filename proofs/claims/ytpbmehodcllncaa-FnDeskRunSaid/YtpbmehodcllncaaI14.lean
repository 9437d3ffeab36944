/- draws of desks and deeds, second part: DrawDeskRun, DrawDeedText, l20Spoil, DrawReadDeed (ahead of the landing) -/
import Derived.Test.YtpbmehodcllncaaI13
namespace Go.Proofs.Ytpbmehodcllncaa
set_option linter.unusedVariables false
open Go.RowKit
attribute [local go_sem ↓] Go.wp_at_zero Go.wp_at_succ

theorem infoE2 : (Try.prog.info? 40).map (fun i => (i.zero, i.size, i.bytes)) = some (some (.agg #[.int .i64 0, .int .i64 0, .int .i64 0]), 3, 24) := by kernel_rfl
def z41 : Array Value := madeCells #[.int .i64 0, .int .i64 0, .int .i64 0] (41 * 3)
theorem z41_list : z41.toList = flatD (List.replicate 41 ⟨0, 0, 0⟩) := by kernel_rfl
theorem run_make41 (W : World) : (Instr.makeSlice 45 (.int .i64 41) (.int .i64 41)).run Try.prog W = .ok (.slice (some ⟨W.heap.size, 0, none⟩) 41 41) (W.alloc (.cells z41 40)) := by
  obtain ⟨i0, hi, hz0, hz1, hz2⟩ := info_parts infoE2
  have := run_make (P := Try.prog) W 45 40 i0 _ Try.underlying45 hi hz0 .i64 .i64 41 41 (by omega) (by omega) (by rw [hz2]; omega) (by omega)
  rw [hz1] at this
  exact this
theorem EO.made (W : World) {base : Nat} (h : base ≤ W.heap.size) : EO (W.alloc (.cells z41 40)) base (.slice (some ⟨W.heap.size, 0, none⟩) 41 41) (List.replicate 41 ⟨0, 0, 0⟩) := by
  refine ⟨by simp [flatD_len], .inr ⟨W.heap.size, 41, z41, by simp, h, heap_alloc_new _ _, by simp, by simp [maxLen], by simp [z41, size_madeCells], ?_⟩⟩
  rw [← z41_list]
  exact List.take_of_length_le (by simp [z41, size_madeCells])

set_option maxRecDepth 8000 in
set_option maxHeartbeats 4000000 in
theorem c_DrawDeskRun (A : Option Addr) (n c : Nat) (w : World) (h : Bs w w.heap.size A n) (hn : n ≤ 1048576) (hc : n ≤ c) :
    Calls Try.prog 26 #[.slice A n c] w fun e w' => ∃ vn vp D v ds, e = .returned (.tuple #[.agg #[vn, vp], v]) ∧ DskP w' w.heap.size vn vp D ∧ EO w' w.heap.size v ds ∧ ds.length ≤ 41 ∧ Below w.heap.size w w' := by
  obtain ⟨w0, hw0⟩ : ∃ w0, w.alloc (.cells #[.slice none 0 0, .slice none 0 0] 26) = w0 := ⟨_, rfl⟩
  have hz0 : w0.heap.size = w.heap.size + 1 := by rw [← hw0]; simp
  have hb0 : Below w.heap.size w w0 := by rw [← hw0]; exact (Below.refl _ w).alloc (Nat.le_refl _) _
  have bR : w0.heap[w.heap.size]? = some (.cells #[.slice none 0 0, .slice none 0 0] 26 (0, 0)) := by rw [← hw0]; exact heap_alloc_new _ _
  have h0 : Bs w0 w.heap.size A n := h.upto hb0 (Nat.le_refl _)
  clear h
  go_enter Try.func26, Try.ntmps26
  go_wp2_with fail
  clear hw0
  refine (c_l20OpenB A n c _ w.heap.size h0 (by omega) hn hc).mono ?_
  rintro e w1 ⟨r, rfl, hr, hrz, hb1⟩
  have hs1 := hb1.size
  have hrb := hr.1
  have hrl := hr.2.1
  have b1 := (hb1.block w.heap.size (by omega)).trans bR
  have hx1 := hb0.trans (hb1.mono (by omega))
  clear bR h0 hb1
  go_wp2_with fail
  refine (c_l20Desk w.heap.size r 0 12 _ hr (by omega) (by omega) (by omega)).mono ?_
  rintro e w2 ⟨vn, vp, D, rfl, hD, hg2, p2, hp2, hr2⟩
  have b2 := blk1 hg2 (show r ≠ w.heap.size by omega) b1
  have hx2 := hx1.trans (below_grown hg2 (show w.heap.size ≤ r by omega) (by omega))
  have hs2 := hg2.size
  obtain ⟨X1, x1, X2, x2, rfl, rfl⟩ := hD.now.slices
  obtain ⟨w3, hw3⟩ : ∃ w3, w2.alloc (.cells #[.slice X1 D.now.length x1, .slice X2 D.past.length x2] 26) = w3 := ⟨_, rfl⟩
  have hz3 : w3.heap.size = w2.heap.size + 1 := by rw [← hw3]; simp
  have hb3 : Below w2.heap.size w2 w3 := by rw [← hw3]; exact (Below.refl _ w2).alloc (Nat.le_refl _) _
  have bD : w3.heap[w2.heap.size]? = some (.cells #[.slice X1 D.now.length x1, .slice X2 D.past.length x2] 26 (0, 0)) := by rw [← hw3]; exact heap_alloc_new _ _
  have hD3 := hD.below hb3 (Nat.le_refl _)
  have r3 := hr2.keepB hb3 (by omega) (by omega)
  have b3 := (hb3.block w.heap.size (by omega)).trans b2
  have hx3 := hx2.trans (hb3.mono (by omega))
  have hs3 := hb3.size
  clear hb3 hb0 hx1 hx2 b1 b2 hr hr2 hg2 hD
  go_wp2_with fail
  clear hw3
  refine (c_odd w.heap.size r p2 30 _ r3 (by omega) (by omega) (by omega)).mono ?_
  rintro e w4 ⟨o, rfl, hg4, hr4⟩
  have b4 := blk1 hg4 (show r ≠ w.heap.size by omega) b3
  have d4 := blk1 hg4 (show r ≠ w2.heap.size by omega) bD
  have hD4 := hD3.low hg4 (by omega)
  have hx4 := hx3.trans (below_grown hg4 (show w.heap.size ≤ r by omega) (by omega))
  have hs4 := hg4.size
  obtain ⟨q2, q3, -, -⟩ := two_at d4
  clear b3 bD hD3 r3 hx3 hg4
  cases o with
  | true =>
    obtain ⟨r0, r1, f0, f1⟩ := two_at b4
    have hmk := run_make41
    obtain ⟨wd, hwd⟩ : ∃ z, w4.drew = z := ⟨_, rfl⟩
    have hbd : Below w4.heap.size w4 wd := by rw [← hwd]; exact (Below.refl _ w4).drew
    have hzd := hbd.size
    have bd := (hbd.block w.heap.size (by omega)).trans b4
    have dd := (hbd.block w2.heap.size (by omega)).trans d4
    have hDd := hD4.below hbd (Nat.le_refl _)
    have hxd := hx4.trans (hbd.mono (by omega))
    have v0 := (two_at dd).1
    have v1 := (two_at dd).2.1
    obtain ⟨wm, hwm⟩ : ∃ z, wd.alloc (.cells z41 40) = z := ⟨_, rfl⟩
    have hbm : Below wd.heap.size wd wm := by rw [← hwm]; exact (Below.refl _ wd).alloc (Nat.le_refl _) _
    have hzm := hbm.size
    have oM : EO wm wd.heap.size (.slice (some ⟨wd.heap.size, 0, none⟩) 41 41) (List.replicate 41 ⟨0, 0, 0⟩) := by rw [← hwm]; exact EO.made _ (Nat.le_refl _)
    have bm := (hbm.block w.heap.size (by omega)).trans bd
    have dm := (hbm.block w2.heap.size (by omega)).trans dd
    have v2 := (two_at dm).1
    have v3 := (two_at dm).2.1
    obtain ⟨Sa, hSa⟩ : ∃ z, wm.setCell ⟨w.heap.size, 0, none⟩ (.slice X1 D.now.length x1) = z := ⟨_, rfl⟩
    obtain ⟨Sb, hSb⟩ : ∃ z, Sa.setCell ⟨w.heap.size, 1, none⟩ (.slice X2 D.past.length x2) = z := ⟨_, rfl⟩
    have sa : Sa.heap[w.heap.size]? = some (.cells #[(.slice X1 D.now.length x1), .slice none 0 0] 26 (0, 0)) := by rw [← hSa]; exact set2a _ bm
    have s : Sb.heap[w.heap.size]? = some (.cells #[(.slice X1 D.now.length x1), (.slice X2 D.past.length x2)] 26 (0, 0)) := by rw [← hSb]; exact set2b _ sa
    have s1 := (two_at bm).1
    have s2 := (two_at bm).2.2.1
    have s3 := (two_at sa).2.1
    have s4 := (two_at sa).2.2.2
    have sg : wm.grownBy Sb (some w.heap.size) := by rw [← hSb, ← hSa]; exact W2_grown _ _ _ _
    obtain ⟨Ta, hTa⟩ : ∃ z, wd.setCell ⟨w.heap.size, 0, none⟩ (.slice X1 D.now.length x1) = z := ⟨_, rfl⟩
    obtain ⟨Tb, hTb⟩ : ∃ z, Ta.setCell ⟨w.heap.size, 1, none⟩ (.slice X2 D.past.length x2) = z := ⟨_, rfl⟩
    have ta : Ta.heap[w.heap.size]? = some (.cells #[(.slice X1 D.now.length x1), .slice none 0 0] 26 (0, 0)) := by rw [← hTa]; exact set2a _ bd
    have t : Tb.heap[w.heap.size]? = some (.cells #[(.slice X1 D.now.length x1), (.slice X2 D.past.length x2)] 26 (0, 0)) := by rw [← hTb]; exact set2b _ ta
    have t1 := (two_at bd).1
    have t2 := (two_at bd).2.2.1
    have t3 := (two_at ta).2.1
    have t4 := (two_at ta).2.2.2
    have tg : wd.grownBy Tb (some w.heap.size) := by rw [← hTb, ← hTa]; exact W2_grown _ _ _ _
    have zt := World.grownBy.size tg
    have zs := World.grownBy.size sg
    obtain ⟨Tm, hTm⟩ : ∃ z, Tb.alloc (.cells z41 40) = z := ⟨_, rfl⟩
    have hbt : Below Tb.heap.size Tb Tm := by rw [← hTm]; exact (Below.refl _ Tb).alloc (Nat.le_refl _) _
    have tm := (hbt.block w.heap.size (by omega)).trans t
    have oT : EO Tm w.heap.size (.slice (some ⟨Tb.heap.size, 0, none⟩) 41 41) (List.replicate 41 ⟨0, 0, 0⟩) := by rw [← hTm]; exact EO.made _ (by omega)
    have oS : EO Sb w.heap.size (.slice (some ⟨wd.heap.size, 0, none⟩) 41 41) (List.replicate 41 ⟨0, 0, 0⟩) := (oM.grownR sg (fun k e => by cases e; omega)).mono (by omega)
    have hDS := (hDd.below hbm (Nat.le_refl _)).low sg (show w.heap.size < w1.heap.size by omega)
    have hDT := (hDd.low tg (show w.heap.size < w1.heap.size by omega)).below hbt (Nat.le_refl _)
    have hXS := (hxd.trans (hbm.mono (by omega))).grown sg (by omega) (fun k e => by cases e; exact Nat.le_refl _)
    have hXT := (hxd.grown tg (by omega) (fun k e => by cases e; exact Nat.le_refl _)).trans (hbt.mono (by omega))
    clear hbm hbt hbd bd dd bm dm hxd hDd oM
    go_wp2_with fail
    go_region
    all_goals go_wp2_with fail
    all_goals first
      | (have k0 := cell_of_row _ w.heap.size 0 _ _ _ tm; have k1 := cell_of_row _ w.heap.size 1 _ _ _ tm; refine bodyPost_ret (v := .tuple #[.agg #[(.slice X1 D.now.length x1), (.slice X2 D.past.length x2)], .slice (some ⟨Tb.heap.size, 0, none⟩) 41 41]) (by simp [results, Try.f26, go_sem, k0, k1]) rfl ?_; exact ⟨_, _, D, _, (List.replicate 41 ⟨0, 0, 0⟩), rfl, hDT.mono (by omega), oT, by first | (simp; done) | omega, hXT⟩)
      | (have k0 := cell_of_row _ w.heap.size 0 _ _ _ s; have k1 := cell_of_row _ w.heap.size 1 _ _ _ s; refine bodyPost_ret (v := .tuple #[.agg #[(.slice X1 D.now.length x1), (.slice X2 D.past.length x2)], .slice (some ⟨wd.heap.size, 0, none⟩) 41 41]) (by simp [results, Try.f26, go_sem, k0, k1]) rfl ?_; exact ⟨_, _, D, _, (List.replicate 41 ⟨0, 0, 0⟩), rfl, hDS.mono (by omega), oS, by first | (simp; done) | omega, hXS⟩)
  | false =>
    obtain ⟨wd, hwd⟩ : ∃ z, w4.drew = z := ⟨_, rfl⟩
    have hbd : Below w4.heap.size w4 wd := by rw [← hwd]; exact (Below.refl _ w4).drew
    have hzd := hbd.size
    have bd := (hbd.block w.heap.size (by omega)).trans b4
    have dd := (hbd.block w2.heap.size (by omega)).trans d4
    have hDd := hD4.below hbd (Nat.le_refl _)
    have hxd := hx4.trans (hbd.mono (by omega))
    have rd := hr4.keepB hbd (by omega) (by omega)
    have v0 := (two_at dd).1
    have v1 := (two_at dd).2.1
    obtain ⟨Ta, hTa⟩ : ∃ z, wd.setCell ⟨w.heap.size, 0, none⟩ (.slice X1 D.now.length x1) = z := ⟨_, rfl⟩
    obtain ⟨Tb, hTb⟩ : ∃ z, Ta.setCell ⟨w.heap.size, 1, none⟩ (.slice X2 D.past.length x2) = z := ⟨_, rfl⟩
    have ta : Ta.heap[w.heap.size]? = some (.cells #[(.slice X1 D.now.length x1), .slice none 0 0] 26 (0, 0)) := (by rw [← hTa]; exact set2a _ bd)
    have t : Tb.heap[w.heap.size]? = some (.cells #[(.slice X1 D.now.length x1), (.slice X2 D.past.length x2)] 26 (0, 0)) := (by rw [← hTb]; exact set2b _ ta)
    have t1 := (two_at bd).1
    have t2 := (two_at bd).2.2.1
    have t3 := (two_at ta).2.1
    have t4 := (two_at ta).2.2.2
    have tg : wd.grownBy Tb (some w.heap.size) := (by rw [← hTb, ← hTa]; exact W2_grown _ _ _ _)
    have zt := World.grownBy.size tg
    have rs : Rd Tb w.heap.size r (p2 + 1) := rd.other tg (by omega) (Nat.le_refl _)
    have hDs := hDd.low tg (show w.heap.size < w1.heap.size by omega)
    have hXs := hxd.grown tg (by omega) (fun k e => by cases e; exact Nat.le_refl _)
    clear hbd
    go_wp2_with fail
    go_region_with (first
      | (go_at_call 58; (with_reducible refine (c_l20Deeds w.heap.size r (p2 + 1) D.now X1 x1 wd rd (by omega) hDd.len hDd.bd (hDd.cs (by omega)).2).mono ?_); rintro e w5 ⟨v5, ds, rfl, o5, hl5, hg5, q5, hq5, hr5⟩; have z5 := World.grownBy.size hg5; have u5 := (two_at (blk1 hg5 (show r ≠ w2.heap.size by omega) dd)).1; have u6 := (two_at (blk1 hg5 (show r ≠ w2.heap.size by omega) dd)).2.1; have b5 := blk1 hg5 (show r ≠ w.heap.size by omega) bd; obtain ⟨Wa, hWa⟩ : ∃ z, w5.setCell ⟨w.heap.size, 0, none⟩ (.slice X1 D.now.length x1) = z := ⟨_, rfl⟩; obtain ⟨Wb, hWb⟩ : ∃ z, Wa.setCell ⟨w.heap.size, 1, none⟩ (.slice X2 D.past.length x2) = z := ⟨_, rfl⟩; have ma : Wa.heap[w.heap.size]? = some (.cells #[(.slice X1 D.now.length x1), .slice none 0 0] 26 (0, 0)) := (by rw [← hWa]; exact set2a _ b5); have m : Wb.heap[w.heap.size]? = some (.cells #[(.slice X1 D.now.length x1), (.slice X2 D.past.length x2)] 26 (0, 0)) := (by rw [← hWb]; exact set2b _ ma); have m1 := (two_at b5).1; have m2 := (two_at b5).2.2.1; have m3 := (two_at ma).2.1; have m4 := (two_at ma).2.2.2; have mg : w5.grownBy Wb (some w.heap.size) := (by rw [← hWb, ← hWa]; exact W2_grown _ _ _ _); have hDW := (hDd.low hg5 (show r < w1.heap.size by omega)).low mg (show w.heap.size < w1.heap.size by omega); have oW := Lib.hid ((o5.grownR mg (fun k e => by cases e; omega)).mono (show w.heap.size ≤ wd.heap.size by omega)); have hXW := (hxd.trans (below_grown hg5 (show w.heap.size ≤ r by omega) (by omega))).grown mg (by omega) (fun k e => by cases e; exact Nat.le_refl _))
      | (go_at_call 58; (with_reducible refine (c_l20Deeds w.heap.size r (p2 + 1) D.now X1 x1 Tb rs (by omega) hDs.len hDs.bd (hDs.cs (by omega)).2).mono ?_); rintro e w5 ⟨v5, ds, rfl, o5, hl5, hg5, q5, hq5, hr5⟩; have z5 := World.grownBy.size hg5; have m := blk1 hg5 (show r ≠ w.heap.size by omega) t; have hDW := hDs.low hg5 (show r < w1.heap.size by omega); have oW := Lib.hid (o5.mono (show w.heap.size ≤ Tb.heap.size by omega)); have hXW := hXs.trans (below_grown hg5 (show w.heap.size ≤ r by omega) (by omega))))
    all_goals go_wp2_with fail
    all_goals (have k0 := cell_of_row _ w.heap.size 0 _ _ _ m; have k1 := cell_of_row _ w.heap.size 1 _ _ _ m; refine bodyPost_ret (v := .tuple #[.agg #[(.slice X1 D.now.length x1), (.slice X2 D.past.length x2)], v5]) (by simp [results, Try.f26, go_sem, k0, k1]) rfl ?_; exact ⟨_, _, D, _, ds, rfl, hDW.mono (by omega), oW.out, by first | (simp; done) | omega, hXW⟩)

def lit6 : Array Value := #[.string (bs []), .string (bs [48]), .string (bs [32]), .string (bs [10]), .string (bs [45]), .string (bs [98, 97, 99, 107])]
theorem lit6_val (x : Nat) (hx : (x : Int) < 6) : ∃ y : ByteArray, y.size ≤ 4 ∧ ∀ (W : World) (b : Nat), W.heap[b]? = some (.cells lit6 9 (0, 0)) → W.cell? ⟨b, x, none⟩ = some (.string y) := by
  rcases (show x = 0 ∨ x = 1 ∨ x = 2 ∨ x = 3 ∨ x = 4 ∨ x = 5 by omega) with rfl | rfl | rfl | rfl | rfl | rfl
  · exact ⟨bs [], by simp [bs_size], fun W b h => cell_of_row W b 0 _ _ _ h⟩
  · exact ⟨bs [48], by simp [bs_size], fun W b h => cell_of_row W b 1 _ _ _ h⟩
  · exact ⟨bs [32], by simp [bs_size], fun W b h => cell_of_row W b 2 _ _ _ h⟩
  · exact ⟨bs [10], by simp [bs_size], fun W b h => cell_of_row W b 3 _ _ _ h⟩
  · exact ⟨bs [45], by simp [bs_size], fun W b h => cell_of_row W b 4 _ _ _ h⟩
  · exact ⟨bs [98, 97, 99, 107], by simp [bs_size], fun W b h => cell_of_row W b 5 _ _ _ h⟩

theorem deedL_len (d : DV) : (deedL d).length ≤ 20 := by
  have h2 : ∀ n : Int, 0 ≤ n → n ≤ 99 → (numL n.toNat).length ≤ 2 := fun n h0 h1 => numL_len 1 n.toNat (by omega)
  rcases deed_ways d with h | ⟨-, ha, hb, h⟩ | ⟨-, ha, -, h⟩ | ⟨-, ha, -, h⟩ | ⟨-, h⟩ | ⟨-, h⟩
  · rw [h]; simp
  · have := h2 d.a ha.1 ha.2
    have := h2 d.b hb.1 hb.2
    rw [h]; simp [wCome]; omega
  · have := h2 d.a ha.1 ha.2
    rw [h]; simp [wNeed]; omega
  · have := h2 d.a ha.1 ha.2
    rw [h]; simp [wLater]; omega
  · rw [h]; simp [wGo]
  · rw [h]; simp [wBack]

end Go.Proofs.Ytpbmehodcllncaa

