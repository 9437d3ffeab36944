/- impl.NeedingMore, spec.NeedingMore -/
import Derived.Test.YtpbmehodcllncaaS6
import Derived.Test.YtpbmehodcllncaaC
import Derived.Test.YtpbmehodcllncaaX
import Derived.Lib.SliceRun
namespace Go.Proofs.Ytpbmehodcllncaa
set_option linter.unusedVariables false
open Go.RowKit
attribute [local go_sem ↓] Go.wp_at_zero Go.wp_at_succ

theorem flatC_news {w : World} {b off : Nat} {L : List (Int × Int)} (h : Cells w b off L) : ∀ j u, (flatC L)[j]? = some u → w.cell? ((⟨b, off, none⟩ : Addr).add j) = some u := by
  intro j u hj
  have hjl : j < L.length * 2 := by have := (List.getElem?_eq_some_iff.1 hj).1; rwa [flatC_len] at this
  have e : (⟨b, off, none⟩ : Addr).add j = ⟨b, off + j, none⟩ := by by_cases e : j = 0 <;> simp [Addr.add, e]
  rw [e]
  have hf := flatC_at L (j / 2) (by omega)
  have hc := h (j / 2) (by omega)
  by_cases hp : j % 2 = 0
  · have e2 : j = j / 2 * 2 := by omega
    rw [e2, hf.1] at hj
    rw [e2, hc.1, ← hj]
  · have e2 : j = j / 2 * 2 + 1 := by omega
    rw [e2, hf.2] at hj
    rw [e2, ← Nat.add_assoc, hc.2, ← hj]
theorem flatC_one (L : List (Int × Int)) : ∀ u ∈ flatC L, u.oneCell' = true := by
  intro u hu
  simp only [flatC, List.mem_flatMap] at hu
  obtain ⟨c, _, hc⟩ := hu
  simp at hc
  rcases hc with rfl | rfl <;> rfl
theorem flatC_append (L M : List (Int × Int)) : flatC (L ++ M) = flatC L ++ flatC M := by simp [flatC]

section
variable {w : World}
/-- out = append(out, customers...), in a region in the text's order -/
theorem app_CC {ops : Array Oper} {rest : List Oper} {o : Oper} {a : Act} {Q : Exit → Act → World → Prop} (hgd : o.guard = none) (s x : Operand)
    (ho : o.op = .call { callee := .builtin .append, args := #[s, x], argTypes := #[23, 23] })
    (base : Nat) (v : Value) (M L : List (Int × Int)) (b off c : Nat) (hs : a.eval s = v) (hown : CO w base v M) (hx : a.eval x = .slice (some ⟨b, off, none⟩) L.length c)
    (hc : Cells w b off L) (hp : 0 < L.length) (hlen : M.length + L.length ≤ 1000000000000) (hbase : base ≤ w.heap.size)
    (h : ∀ g cap w', CO w' base (.slice (some ⟨g, 0, none⟩) (M.length + L.length) cap) (M ++ L) → w.grownBy w' v.ownBlock → Below base w w' → wpList Try.prog ops Q rest (a.put o.dst (.slice (some ⟨g, 0, none⟩) (M.length + L.length) cap)) w') :
    wpList Try.prog ops Q (o :: rest) a w := by
  obtain ⟨i0, hi, hz0, hz1, hz2⟩ := info_parts infoC
  refine wpList_append_lies w hgd s x _ ho base 30 i0 _ 2 16 Try.underlying23 hi hz0 hz1 hz2 rfl (by decide) v M.length _ hs hown
    ⟨b, off, none⟩ L.length c (flatC L) hx (flatC_len L) (flatC_news hc) (flatC_one L) hp (by simp only [maxLen]; omega) (by omega) hbase _ rfl ?_
  intro g cap w' h1 h2 _ _
  exact h g cap w' (by simpa [CO, flatC_append] using h1) h2 ((Below.refl _ _).grown h2 hbase (owns_base hown))
end

theorem CO.store1 {w : World} {base g n c : Nat} {M : List (Int × Int)} (h : CO w base (.slice (some ⟨g, 0, none⟩) n c) M) (k : Nat) (hk : k < M.length) (y : Int) :
    CO (w.setCell ⟨g, k * 2 + 1, none⟩ (.int .i64 y)) base (.slice (some ⟨g, 0, none⟩) n c) (M.set k (X M k, y)) := by
  have hn := h.cells.1
  subst hn
  have h2 := (World.ownsRow.stored (g := g) (cap := c) h (k * 2 + 1) (.int .i64 y)).1
  unfold CO
  rw [flatC_set, List.length_set]
  have e : (flatC M).set (k * 2) (.int .i64 (X M k)) = flatC M := by
    have := (flatC_at M k hk).1
    apply List.ext_getElem?
    intro i
    rw [List.getElem?_set]
    split
    · rename_i e; subst e
      split
      · exact this.symm
      · rename_i e2; rw [flatC_len] at e2; omega
    · rfl
  rw [e]
  exact h2

set_option maxHeartbeats 2000000 in
theorem c_clone (L : List (Int × Int)) (A : Option Addr) (c : Nat) (w : World) (hA : Cs w w.heap.size A L) (hp : 0 < L.length) (hn : L.length ≤ 1048576) :
    Calls Try.prog 49 #[.slice A L.length c] w fun e w' => ∃ g cap, e = .returned (.slice (some ⟨g, 0, none⟩) L.length cap) ∧ CO w' w.heap.size (.slice (some ⟨g, 0, none⟩) L.length cap) L ∧ Below w.heap.size w w' := by
  obtain ⟨b, off, rfl, hlb, hc⟩ := hA hp
  have hb0 : Below w.heap.size w (w.alloc (.cells #[] 30)) := by (repeat (first | exact rfl | exact Below.refl _ _ | (with_reducible refine Below.drew ?_) | (with_reducible refine Below.drewN ?_ _) | (with_reducible refine Below.alloc ?_ ?_ _) | (with_reducible refine Below.setCell ?_ ?_ _) | (show _ ≤ _; focus (first | omega | (simp; done) | (simp; omega)))))
  have hc0 : Cells (w.alloc (.cells #[] 30)) b off L := fun k hk => ⟨(hb0.cell (p := ⟨b, _, none⟩) hlb).trans (hc k hk).1, (hb0.cell (p := ⟨b, _, none⟩) hlb).trans (hc k hk).2⟩
  have HC := Lib.hid hc0
  clear hc hc0
  have hnil := Lib.run_eql_slice_nil (P := Try.prog) w 23 30 (some ⟨b, off, none⟩) L.length c 0 0 Try.underlying23
  go_enter Try.func49, Try.ntmps49
  go_wp2_with (refine app_CC ?_ (.tmp 5) (.tmp 6) ?_ w.heap.size (.slice (some ⟨w.heap.size, 0, none⟩) 0 0) [] L b off c ?_ ?_ ?_ ?_ ?_ ?_ ?_ ?_; rfl; rfl; rfl; exact (CO.empty w (Nat.le_refl _)); rfl; exact HC.out; exact hp; (simp; omega); (simp); intro g7 cap w7 hown7 hgr7 hb7)
  go_ret
  rw [List.length_nil, Nat.zero_add] at *
  exact ⟨g7, cap, rfl, hown7, Below.trans hb0 hb7⟩

theorem moreOk_yes {L : List (Int × Int)} {n : Nat} (h : placeOk L n = true) (hq : cOk (moreL L n) = true) : moreOk L (n : Int) = true := by simp [moreOk, h, hq]
theorem moreOk_no {L : List (Int × Int)} {n : Nat} (hq : cOk (moreL L n) = false) : moreOk L (n : Int) = false := by simp [moreOk, hq]
theorem moreOk_no' {L : List (Int × Int)} {t : Int} (h : placeOk L t = false) : moreOk L t = false := by simp [moreOk, h]

set_option maxHeartbeats 4000000 in
theorem c_iNeedingMore (L : List (Int × Int)) (A : Option Addr) (c : Nat) (t : Int) (w : World) (hA : Cs w w.heap.size A L) (hn : L.length ≤ 140737488351232) :
    Calls Try.prog 86 #[.slice A L.length c, .int .i64 t] w fun e w' => ∃ v, e = .returned (laterV v (moreOk L t)) ∧ CO w' w.heap.size v (moreR L t) ∧ Below w.heap.size w w' := by
  by_cases hp : placeOk L t = true
  · obtain ⟨n, rfl, hnl, h⟩ := placeOk_nat hp
    have ht' : decide ((0 : Int) ≤ (n : Int) ∧ (n : Int) ≤ (L.length : Int) - 1) = true := by simp; omega
    have hlen := cOk_len h
    have bd := cOk_bd h hnl
    have HP := Lib.hid hp
    have H := Lib.hid h; clear h hp
    have k1 : (0 : Int) ≤ (n : Int) := by omega
    have k2 : (n : Int) < (L.length : Int) := by omega
    go_enter Try.func86, Try.ntmps86
    go_wp2_with fail
    refine (c_iCustomersOk L A c _ hA hn).mono ?_
    rintro e w1 ⟨rfl, hb1⟩
    rw [H.out]
    go_wp2_with fail
    refine (c_isPlace L A c _ _ hn).mono ?_
    rintro e w' ⟨rfl, rfl⟩
    rw [ht']
    clear ht'
    have hs1 := hb1.size
    go_wp2_with fail
    refine (c_clone L A c _ ((hA.below hb1).more hs1) (by omega) (by omega)).mono ?_
    rintro e w2 ⟨g, d, rfl, o2, hb2⟩
    obtain ⟨-, hcl, hfz⟩ := o2.cells
    have c1 := (hcl n hnl).2
    have f1 := hfz (n * 2 + 1)
    clear hcl hfz
    have hg := owns_base o2 g (by simp [Value.ownBlock])
    have hs2 := hb2.size
    have o3 := o2.store1 n hnl (Y L n + 1)
    have hb3 : Below w.heap.size w (w2.setCell ⟨g, n * 2 + 1, none⟩ (.int .i64 (Y L n + 1))) := (hb1.trans (hb2.mono hs1)).setCell (p := ⟨g, n * 2 + 1, none⟩) (by show w.heap.size ≤ g; omega) _
    have hz3 : (w2.setCell ⟨g, n * 2 + 1, none⟩ (.int .i64 (Y L n + 1))).heap.size = w2.heap.size := by simp [World.setCell]
    have hI := o3.isOf.2
    have K := c_iCustomersOk (moreL L n) (some ⟨g, 0, none⟩) d (w2.setCell ⟨g, n * 2 + 1, none⟩ (.int .i64 (Y L n + 1))) hI (by rw [moreL_len]; omega)
    rw [moreL_len] at K
    have HK := Lib.hid K
    have HB3 := Lib.hid hb3; have HO3 := Lib.hid o3; have HZ3 := Lib.hid hz3
    clear K hI hb3 o3 hz3 o2 hb2
    go_wp2_with fail
    refine HK.out.mono ?_
    rintro e w4 ⟨rfl, hb4⟩
    have hb5 := HB3.out.trans (hb4.mono (by rw [HZ3.out]; omega))
    by_cases hq : cOk (moreL L n) = true
    · have HQ := Lib.hid hq; clear hq
      have HM := Lib.hid (moreOk_yes HP.out HQ.out)
      rw [HQ.out]
      go_wp2_with fail
      go_ret2
      refine ⟨.slice (some ⟨g, 0, none⟩) L.length d, ?_, ?_, hb5⟩
      · rw [HM.out]; rfl
      · rw [moreR_yes HM.out]; exact (HO3.out.below hb4 (Nat.le_refl _)).mono hs1
    · have hq' : cOk (moreL L n) = false := by simpa using hq
      have HQ := Lib.hid hq'; clear hq hq'
      have HM := Lib.hid (moreOk_no HQ.out)
      rw [HQ.out]
      go_wp2_with fail
      go_ret2
      refine ⟨.slice none 0 0, ?_, ?_, hb5⟩
      · rw [HM.out]; rfl
      · rw [moreR_no HM.out]; exact CO.nil _ _
  · have hpn : placeOk L t = false := by simpa using hp
    have HM := Lib.hid (moreOk_no' hpn)
    by_cases h : cOk L = true
    · have ht' : decide (0 ≤ t ∧ t ≤ (L.length : Int) - 1) = false := by simpa [placeOk, h] using hpn
      have H := Lib.hid h; clear h hp hpn
      go_enter Try.func86, Try.ntmps86
      go_wp2_with fail
      refine (c_iCustomersOk L A c _ hA hn).mono ?_
      rintro e w1 ⟨rfl, hb1⟩
      rw [H.out]
      go_wp2_with fail
      refine (c_isPlace L A c _ _ hn).mono ?_
      rintro e w' ⟨rfl, rfl⟩
      rw [ht']
      clear ht'
      go_wp2_with fail
      go_ret2
      refine ⟨.slice none 0 0, ?_, ?_, hb1⟩
      · rw [HM.out]; rfl
      · rw [moreR_no HM.out]; exact CO.nil _ _
    · have hno : cOk L = false := by simpa using h
      have H := Lib.hid hno; clear h hno hp hpn
      go_enter Try.func86, Try.ntmps86
      go_wp2_with fail
      refine (c_iCustomersOk L A c _ hA hn).mono ?_
      rintro e w1 ⟨rfl, hb1⟩
      rw [H.out]
      go_wp2_with fail
      go_ret2
      refine ⟨.slice none 0 0, ?_, ?_, hb1⟩
      · rw [HM.out]; rfl
      · rw [moreR_no HM.out]; exact CO.nil _ _

set_option maxHeartbeats 4000000 in
theorem c_sNeedingMore (L : List (Int × Int)) (A : Option Addr) (c : Nat) (t : Int) (w : World) (hA : Cs w w.heap.size A L) (hn : L.length ≤ 140737488351232) :
    Calls Try.prog 77 #[.slice A L.length c, .int .i64 t] w fun e w' => ∃ v, e = .returned (laterV v (moreOk L t)) ∧ CO w' w.heap.size v (moreR L t) ∧ Below w.heap.size w w' := by
  by_cases hp : placeOk L t = true
  · obtain ⟨n, rfl, hnl, h⟩ := placeOk_nat hp
    have ht' : decide ((0 : Int) ≤ (n : Int) ∧ (n : Int) ≤ (L.length : Int) - 1) = true := by simp; omega
    have hlen := cOk_len h
    have bd := cOk_bd h hnl
    have HP := Lib.hid hp
    have H := Lib.hid h; clear h hp
    have k1 : (0 : Int) ≤ (n : Int) := by omega
    have k2 : (n : Int) < (L.length : Int) := by omega
    go_enter Try.func77, Try.ntmps77
    go_wp2_with fail
    refine (c_sCustomersOk L A c _ hA hn).mono ?_
    rintro e w1 ⟨rfl, hb1⟩
    rw [H.out]
    go_wp2_with fail
    refine (c_l1In _ _ _ _).mono ?_
    rintro e w' ⟨rfl, rfl⟩
    rw [ht']
    clear ht'
    have hs1 := hb1.size
    obtain ⟨b, off, rfl, hlb, hc⟩ := (hA.below hb1) (by omega)
    have hb0 : Below w'.heap.size w' (w'.alloc (.cells #[] 30)) := by (repeat (first | exact rfl | exact Below.refl _ _ | (with_reducible refine Below.drew ?_) | (with_reducible refine Below.drewN ?_ _) | (with_reducible refine Below.alloc ?_ ?_ _) | (with_reducible refine Below.setCell ?_ ?_ _) | (show _ ≤ _; focus (first | omega | (simp; done) | (simp; omega)))))
    have hc0 : Cells (w'.alloc (.cells #[] 30)) b off L := fun k hk => ⟨(hb0.cell (p := ⟨b, _, none⟩) (by show b < _; omega)).trans (hc k hk).1, (hb0.cell (p := ⟨b, _, none⟩) (by show b < _; omega)).trans (hc k hk).2⟩
    have HC := Lib.hid hc0
    have HB0 := Lib.hid hb0
    clear hc hc0 hb0
    go_wp2_with (refine app_CC ?_ (.tmp 19) (.tmp 20) ?_ w'.heap.size (.slice (some ⟨w'.heap.size, 0, none⟩) 0 0) [] L b off c ?_ ?_ ?_ ?_ ?_ ?_ ?_ ?_; rfl; rfl; rfl; exact (CO.empty w' (Nat.le_refl _)); rfl; exact HC.out; omega; (simp; omega); (simp); intro g d w2 hown7 hgr7 hb7)
    rw [List.length_nil, Nat.zero_add, List.nil_append] at hown7
    have hw2 := HB0.out.trans hb7
    have hs2 := hw2.size
    obtain ⟨-, hcl, hfz⟩ := hown7.cells
    have hg := owns_base hown7 g (by simp [Value.ownBlock])
    have hg2 := owns_lt hown7 g (by simp [Value.ownBlock])
    have c1 := WB.cell (w := w2) hg2 (hcl n hnl).1
    have c2 := WB.cell (w := w2) hg2 (hcl n hnl).2
    have q7 : IntKind.i64.wrap (Y L n + 1) = Y L n + 1 := IntWalk.i64_in _ (by omega)
    clear hcl hfz hb7 HB0 HC hgr7
    refine wp_region_wb_tail w2.heap.size 15 (by kernel_rfl) (by kernel_rfl) ?_
    simp only [List.take_succ_cons, List.take_zero, List.drop_succ_cons, List.drop_zero]
    repeat (go_big_quiet_step (fail))
    refine wpQuiet_nil ?_
    rintro _ ⟨⟨w5, hb5⟩, rfl⟩
    have o5 := hown7.below hb5 (Nat.le_refl _)
    obtain ⟨-, hcl, hfz⟩ := o5.cells
    have d1 := (hcl n hnl).1
    have d2 := (hcl n hnl).2
    have f1 := hfz (n * 2)
    have f2 := hfz (n * 2 + 1)
    have hs5 := hb5.size
    have o6 := o5.store n (X L n) (Y L n + 1)
    clear hcl hfz c1 c2 q7 hown7
    rename_i w5
    have hb6 : Below w.heap.size w ((w5.setCell ⟨g, n * 2, none⟩ (.int .i64 (X L n))).setCell ⟨g, n * 2 + 1, none⟩ (.int .i64 (Y L n + 1))) :=
      (((hb1.trans (hw2.mono hs1)).trans (hb5.mono (by omega))).setCell (p := ⟨g, n * 2, none⟩) (by show w.heap.size ≤ g; omega) _).setCell (p := ⟨g, n * 2 + 1, none⟩) (by show w.heap.size ≤ g; omega) _
    have hz6 : ((w5.setCell ⟨g, n * 2, none⟩ (.int .i64 (X L n))).setCell ⟨g, n * 2 + 1, none⟩ (.int .i64 (Y L n + 1))).heap.size = w5.heap.size := by simp [World.setCell]
    have hI := o6.isOf.2
    have K := c_sCustomersOk (moreL L n) (some ⟨g, 0, none⟩) d _ hI (by rw [moreL_len]; omega)
    rw [moreL_len] at K
    have HK := Lib.hid K
    have HB6 := Lib.hid hb6; have HO6 := Lib.hid o6; have HZ6 := Lib.hid hz6
    clear K hI hb6 o6 hz6 o5 hb5
    go_wp2_with fail
    refine HK.out.mono ?_
    rintro e w7 ⟨rfl, hb7⟩
    have hb8 := HB6.out.trans (hb7.mono (by rw [HZ6.out]; omega))
    have hs8 := hb8.size
    by_cases hq : cOk (moreL L n) = true
    · have HQ := Lib.hid hq; clear hq
      have HM := Lib.hid (moreOk_yes HP.out HQ.out)
      rw [HQ.out]
      go_wp2_with fail
      go_ret2
      refine ⟨.slice (some ⟨g, 0, none⟩) L.length d, ?_, ?_, hb8⟩
      · rw [HM.out]; rfl
      · rw [moreR_yes HM.out]; exact (HO6.out.below hb7 (Nat.le_refl _)).mono hs1
    · have hq' : cOk (moreL L n) = false := by simpa using hq
      have HQ := Lib.hid hq'; clear hq hq'
      have HM := Lib.hid (moreOk_no HQ.out)
      rw [HQ.out]
      go_wp2_with fail
      go_ret2
      refine ⟨.slice (some ⟨w7.heap.size, 0, none⟩) 0 0, ?_, ?_, by (repeat (first | exact hb8 | exact Below.refl _ _ | (with_reducible refine Below.drew ?_) | (with_reducible refine Below.drewN ?_ _) | (with_reducible refine Below.alloc ?_ ?_ _) | (with_reducible refine Below.setCell ?_ ?_ _) | (show _ ≤ _; focus (first | omega | (simp; done) | (simp; omega)))))⟩
      · rw [HM.out]; rfl
      · rw [moreR_no HM.out]; exact CO.empty _ hs8
  · have hpn : placeOk L t = false := by simpa using hp
    have HM := Lib.hid (moreOk_no' hpn)
    by_cases h : cOk L = true
    · have ht' : decide (0 ≤ t ∧ t ≤ (L.length : Int) - 1) = false := by simpa [placeOk, h] using hpn
      have H := Lib.hid h; clear h hp hpn
      go_enter Try.func77, Try.ntmps77
      go_wp2_with fail
      refine (c_sCustomersOk L A c _ hA hn).mono ?_
      rintro e w1 ⟨rfl, hb1⟩
      rw [H.out]
      go_wp2_with fail
      refine (c_l1In _ _ _ _).mono ?_
      rintro e w' ⟨rfl, rfl⟩
      rw [ht']
      clear ht'
      go_wp2_with fail
      go_ret2
      have hs1 := hb1.size
      refine ⟨.slice (some ⟨w'.heap.size, 0, none⟩) 0 0, ?_, ?_, by (repeat (first | exact hb1 | exact Below.refl _ _ | (with_reducible refine Below.drew ?_) | (with_reducible refine Below.drewN ?_ _) | (with_reducible refine Below.alloc ?_ ?_ _) | (with_reducible refine Below.setCell ?_ ?_ _) | (show _ ≤ _; focus (first | omega | (simp; done) | (simp; omega)))))⟩
      · rw [HM.out]; rfl
      · rw [moreR_no HM.out]; exact CO.empty _ hs1
    · have hno : cOk L = false := by simpa using h
      have H := Lib.hid hno; clear h hno hp hpn
      go_enter Try.func77, Try.ntmps77
      go_wp2_with fail
      refine (c_sCustomersOk L A c _ hA hn).mono ?_
      rintro e w1 ⟨rfl, hb1⟩
      rw [H.out]
      go_wp2_with fail
      go_ret2
      have hs1 := hb1.size
      refine ⟨.slice (some ⟨w1.heap.size, 0, none⟩) 0 0, ?_, ?_, by (repeat (first | exact hb1 | exact Below.refl _ _ | (with_reducible refine Below.drew ?_) | (with_reducible refine Below.drewN ?_ _) | (with_reducible refine Below.alloc ?_ ?_ _) | (with_reducible refine Below.setCell ?_ ?_ _) | (show _ ≤ _; focus (first | omega | (simp; done) | (simp; omega)))))⟩
      · rw [HM.out]; rfl
      · rw [moreR_no HM.out]; exact CO.empty _ hs1

end Go.Proofs.Ytpbmehodcllncaa

