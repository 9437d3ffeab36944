/- arranged, InOrder; LeastWay (a range over all orders) -/
import Derived.Test.YtofjfhifldafcaaU17
import Derived.Test.YtofjfhifldafcaaU13
namespace Go.Proofs.Ytofjfhifldafcaa
set_option linter.unusedVariables false
open Go.RowKit
attribute [local go_sem ↓] Go.wp_at_zero Go.wp_at_succ

set_option maxRecDepth 4000 in
set_option maxHeartbeats 4000000 in
theorem c_arranged (L : List (Int × Int)) (o : List Int) (A O : Option Addr) (c d : Nat) (w : World) (hA : Cs w w.heap.size A L) (hO : Is w w.heap.size O o) (hl6 : L.length ≤ 6) (heo : eachV o L.length = true) :
    Calls Try.prog 65 #[.slice A L.length c, .slice O o.length d] w fun e w' => ∃ v, e = .returned v ∧ BO w' w.heap.size v (inOrd L o) ∧ Below w.heap.size w w' := by
  have ho6 : o.length ≤ 6 := by have := each_len heo; omega
  have HR := Lib.hid (fun k (hk : k < o.length) => each_Z heo hk)
  clear heo
  go_enter Try.func65, Try.ntmps65
  go_wp2_with fail
  go_loopw [5, 10] (fun v i wr => ∃ k : Nat, k ≤ o.length ∧ i = .int .i64 k ∧ BO wr w.heap.size v (inOrd L (o.take k)) ∧ Below w.heap.size w wr) (fun _ i _ => o.length - (intOf i).toNat)
  case atStart => exact ⟨0, by omega, rfl, BO.nil _ _, Below.refl _ _⟩
  case round =>
    obtain ⟨k, hk, rfl, hown, hb⟩ := hrel
    have hsz := hb.size
    by_cases hlt : k < o.length
    · obtain ⟨ob, oo, rfl, hob, hoc⟩ := hO (by omega)
      have c0 := (hb.cell (p := ⟨ob, oo + k, none⟩) hob).trans (hoc k hlt)
      have hz := HR.out k hlt
      obtain ⟨b, off, rfl, hlb, hc⟩ := hA (by omega)
      have c1 := (hb.cell (p := ⟨b, off + (Z o k).toNat * 2, none⟩) hlb).trans (hc (Z o k).toNat (by omega)).1
      have c2 := (hb.cell (p := ⟨b, off + (Z o k).toNat * 2 + 1, none⟩) hlb).trans (hc (Z o k).toNat (by omega)).2
      have hlen := inOrd_take_len L o (Nat.le_of_lt hlt)
      have q1 : (0 : Int) ≤ (k : Int) := by omega
      have q2 : (k : Int) < (o.length : Int) := by omega
      have q3 : (0 : Int) ≤ Z o k := hz.1
      have q4 : Z o k < (L.length : Int) := by omega
      have q5 : (inOrd L (o.take k)).length ≤ 1000000000000 := by omega
      have q6 : w.heap.size ≤ (wr.alloc (.cells #[.int .i64 (X L (Z o k).toNat), .int .i64 (Y L (Z o k).toNat)] 27)).heap.size := by simp; omega
      have hba : Below w.heap.size w (wr.alloc (.cells #[.int .i64 (X L (Z o k).toNat), .int .i64 (Y L (Z o k).toNat)] 27)) := hb.alloc hsz _
      have HS := Lib.hid (inOrd_snoc L o hlt)
      have HL := Lib.hid hlen
      clear hoc hc hz hlen
      go_wp2_with (refine app_B (by rfl) (.tmp 14) (.tmp 19) (by rfl) w.heap.size u5 (inOrd L (o.take k)) (X L (Z o k).toNat) (Y L (Z o k).toNat) wr.heap.size (by rfl) (hown.alloc _) (by rfl) (heap_alloc_new _ _) q5 q6 ?_; intro g cap w7 hown7 hgr7 hb7)
      go_roundw
      case rel => exact ⟨k + 1, by omega, by go_num, by rw [HS.out]; exact hown7, hba.trans hb7⟩
      case measure => simp [intOf]; omega
    · have hlf : ¬ ((k : Int) < (o.length : Int)) := by omega
      obtain rfl : k = o.length := by omega
      rw [List.take_length] at hown
      go_wp2_with fail
      go_ret
      exact ⟨_, rfl, hown, hb⟩

set_option maxRecDepth 4000 in
set_option maxHeartbeats 4000000 in
theorem c_iInOrder (L : List (Int × Int)) (o : List Int) (A O : Option Addr) (c d : Nat) (w : World) (hA : Cs w w.heap.size A L) (hO : Is w w.heap.size O o) (hn : L.length ≤ 140737488351232) (ho : o.length ≤ 140737488351232) :
    Calls Try.prog 33 #[.slice A L.length c, .slice O o.length d] w fun e w' => ∃ v, e = .returned (.tuple #[v, .bool (inOk L o)]) ∧ BO w' w.heap.size v (inV L o) ∧ Below w.heap.size w w' := by
  have HB := Lib.hid (c_iBothOk L A c w hA hn)
  have HE := Lib.hid (fun W hW => c_iEachOnce o O d (L.length : Int) W hW ho)
  cases hbo : bOk L with
  | true =>
    rw [hbo] at HB
    cases heo : eachV o L.length with
    | true =>
      have hin : inOk L o = true := by simp [inOk, hbo, heo]
      have HR := Lib.hid (fun W hA hO => c_arranged L o A O c d W hA hO (bOk_parts hbo).2.2 heo)
      have HI := Lib.hid hin
      have HV := Lib.hid (inV_yes hin)
      rw [heo] at HE
      clear hbo heo hin
      go_enter Try.func33, Try.ntmps33
      go_wp2_with fail
      refine HB.out.mono ?_
      rintro e w1 ⟨rfl, hb1⟩
      have hs1 := hb1.size
      go_wp2_with fail
      refine (HE.out _ ((hO.below hb1).more hs1)).mono ?_
      rintro e w2 ⟨rfl, hb2⟩
      have hx2 := hb1.trans (hb2.mono hs1)
      have hs2 := hx2.size
      go_wp2_with fail
      refine (HR.out _ ((hA.below hx2).more hs2) ((hO.below hx2).more hs2)).mono ?_
      rintro e w3 ⟨v, rfl, own3, hb3⟩
      go_wp2_with fail
      go_ret2
      exact ⟨_, by rw [HI.out]; rfl, by rw [HV.out]; exact own3.mono hs2, hx2.trans (hb3.mono hs2)⟩
    | false =>
      have hin : inOk L o = false := by simp [inOk, heo]
      have HI := Lib.hid hin
      have HV := Lib.hid (inV_no hin)
      rw [heo] at HE
      clear hbo heo hin
      go_enter Try.func33, Try.ntmps33
      go_wp2_with fail
      refine HB.out.mono ?_
      rintro e w1 ⟨rfl, hb1⟩
      have hs1 := hb1.size
      go_wp2_with fail
      refine (HE.out _ ((hO.below hb1).more hs1)).mono ?_
      rintro e w2 ⟨rfl, hb2⟩
      go_wp2_with fail
      go_ret2
      exact ⟨_, by rw [HI.out]; rfl, by rw [HV.out]; exact BO.nil _ _, hb1.trans (hb2.mono hs1)⟩
  | false =>
    have hin : inOk L o = false := by simp [inOk, hbo]
    have HI := Lib.hid hin
    have HV := Lib.hid (inV_no hin)
    rw [hbo] at HB
    clear hbo hin HE
    go_enter Try.func33, Try.ntmps33
    go_wp2_with fail
    refine HB.out.mono ?_
    rintro e w1 ⟨rfl, hb1⟩
    go_wp2_with fail
    go_ret2
    exact ⟨_, by rw [HI.out]; rfl, by rw [HV.out]; exact BO.nil _ _, hb1⟩

end Go.Proofs.Ytofjfhifldafcaa

namespace Go.Proofs.Ytofjfhifldafcaa
set_option linter.unusedVariables false
open Go.RowKit Go.Shelf
attribute [local go_sem] Oper.semAt_some

theorem minB_least {L : List (Int × Int)} (h : bOk L = true) : minB L (lw L) (permsF L.length (upto L.length) 0) = leastB L := by
  have hl6 := (bOk_parts h).2
  have he := each_upto hl6.1 hl6.2
  obtain ⟨⟨h1, h2⟩, h3⟩ := minB_spec L (permsF L.length (upto L.length) 0) (lw L)
  have hr := h2 _ (perms_all L.length (upto L.length) 0 (upto_len _) (by omega) he _ (pairsR_each h) (fun i hi => by omega))
  rw [← leastB_pairs h] at hr
  have hge : leastB L ≤ minB L (lw L) (permsF L.length (upto L.length) 0) := by
    rcases h3 with h3 | ⟨p, hp, h3⟩
    · rw [h3]; have := leastB_le h he; rwa [inOrd_upto] at this
    · rw [h3]; exact leastB_le h (perms_each L.length (upto L.length) 0 (upto_len _) (by omega) he p hp)
  omega

set_option maxRecDepth 100000 in
set_option maxHeartbeats 4000000 in
theorem c_iLeastWay (L : List (Int × Int)) (A : Option Addr) (c : Nat) (w : World) (hA : Cs w w.heap.size A L) (hcap : L.length ≤ c) (hn : L.length ≤ 140737488351232) :
    Calls Try.prog 35 #[.slice A L.length c] w fun e w' => e = .returned (.int .i64 (leastB L)) ∧ Below w.heap.size w w' := by
  have hb0 : Below w.heap.size w (w.alloc (.cells #[.slice A L.length c] 23)) := by (repeat (first | exact rfl | exact Below.refl _ _ | (with_reducible refine Below.drew ?_) | (with_reducible refine Below.drewN ?_ _) | (with_reducible refine Below.alloc ?_ ?_ _) | (with_reducible refine Below.setCell ?_ ?_ _) | (show _ ≤ _; focus (first | omega | (simp; done) | (simp; omega)))))
  have hl0 : (w.alloc (.cells #[.slice A L.length c] 23)).cell? ⟨w.heap.size, 0, none⟩ = some (.slice A L.length c) := by have := heap_alloc_new w (.cells #[.slice A L.length c] 23); simp only [World.cell?, this]; rfl
  have hz0 : (w.alloc (.cells #[.slice A L.length c] 23)).heap.size = w.heap.size + 1 := by simp
  have HT := Lib.hid (c_iBothOk L A c _ ((hA.below hb0).more hb0.size) hn)
  by_cases ht : bOk L = true
  · have H := Lib.hid ht
    have hl6 := (bOk_parts ht).2
    have hne := Lib.hid (fun (w' : World) (hb : Below (w.heap.size + 1) (w.alloc (.cells #[.slice A L.length c] 23)) w') => show w'.cell? ⟨w.heap.size, 0, none⟩ = some (.slice A L.length c) from (hb.cell (p := ⟨w.heap.size, 0, none⟩) (by simp)).trans hl0)
    have HW := Lib.hid (fun W hA => c_longestWay L A c W hA ht)
    clear ht
    refine (callsIn_wide (n := 6)).1 ?_
    refine callsIn_of_wp_marks Try.func35 rfl trivial ?_ rfl
    simp only [Try.ntmps35, List.size_toArray, List.length_cons, List.length_nil, Nat.reduceAdd, Nat.reduceSub, Array.replicate_succ, Array.replicate_zero, List.push_toArray, List.append_toArray, List.nil_append, List.cons_append]
    gi_wp2_with (refine ⟨trivial, ?_⟩; gi_at_call 18; refine (callsIn_wide.2 HT.out).mono ?_; rw [H.out]; rintro e w1 ⟨rfl, hb1⟩; rw [hz0] at hb1; have hx1 := hb0.trans (hb1.mono (by omega)); have hl1 := hne.out _ hb1; have hs1 := hb1.size)
    rw [hz0] at hs1
    clear hb1 hne HT hl0 hb0 hz0
    gi_wp2_with (refine ⟨trivial, ?_⟩; gi_at_call 60; refine (callsIn_wide.2 (HW.out _ ((hA.below hx1).more hx1.size))).mono ?_; rintro e w2 ⟨rfl, hb2⟩; have hx2 := hx1.trans (hb2.mono (by omega)); have hl2 := (hb2.cell (p := ⟨w.heap.size, 0, none⟩) (show w.heap.size < w1.heap.size by omega)).trans hl1; have hs2 := hb2.size; have hl22 : (w2.alloc (.cells #[.int .i64 (lw L)] 3)).cell? ⟨w.heap.size, 0, none⟩ = some (.slice A L.length c) := (((Below.refl w2.heap.size w2).alloc (Nat.le_refl _) _).cell (p := ⟨w.heap.size, 0, none⟩) (show w.heap.size < w2.heap.size by omega)).trans hl2)
    have HA2 := Lib.hid (fun (G g : Nat) (p : List Int) (w' : World) (hD : Is w' w'.heap.size (some ⟨G, 0, none⟩) p) (hp : eachV p L.length = true) (hb : Below w.heap.size w w') => c_arranged L p A (some ⟨G, 0, none⟩) c g w' ((hA.below hb).more hb.size) hD hl6.2 hp)
    have HL2 := Lib.hid (fun (p : List Int) (hp : eachV p L.length = true) (B : Option Addr) (d : Nat) (w' : World) (hB : Cs w' w'.heap.size B (inOrd L p)) => c_longestWay (inOrd L p) B d w' hB (bOk_inOrd H.out hp))
    obtain ⟨W2, hW2⟩ : ∃ W2, w2.alloc (.cells #[.int .i64 (lw L)] 3) = W2 := ⟨_, rfl⟩
    have bB := Boxed.new w2 3 (.int .i64 (lw L))
    have hbx : Below w.heap.size w (w2.alloc (.cells #[.int .i64 (lw L)] 3)) := hx2.alloc (by omega) _
    have hBz : w2.heap.size < (w2.alloc (.cells #[.int .i64 (lw L)] 3)).heap.size := by simp
    rw [hW2] at bB hbx hBz hl22 ⊢
    generalize hBb : w2.heap.size = Bb at *
    have hBw : w.heap.size < Bb := by omega
    clear hW2 hb2 hx2 hl2 hl1 hx1 hBb
    refine ⟨trivial, ?_⟩
    refine (allOrders_in _ _ _).mono ?_
    rintro e w' ⟨rfl, rfl⟩
    obtain ⟨W0, hW0⟩ : ∃ W0, W2.alloc (.cells #[.int .i64 (L.length : Int)] 3) = W0 := ⟨_, rfl⟩
    have bB0 := bB.alloc (.cells #[.int .i64 (L.length : Int)] 3)
    have bL0 := heap_alloc_new W2 (.cells #[.int .i64 (L.length : Int)] 3)
    have hB0 : Below w.heap.size w (W2.alloc (.cells #[.int .i64 (L.length : Int)] 3)) := hbx.alloc (by omega) _
    have hsz : (W2.alloc (.cells #[.int .i64 (L.length : Int)] 3)).heap.size = W2.heap.size + 1 := by simp
    have hl3 := ((Below.refl W2.heap.size W2).alloc (Nat.le_refl _) (.cells #[.int .i64 (L.length : Int)] 3)).cell (p := ⟨w.heap.size, 0, none⟩) (show w.heap.size < W2.heap.size by omega) |>.trans hl22
    rw [hW0] at bB0 bL0 hB0 hsz hl3 ⊢
    clear hW0 bB hbx hl22
    gi_wp2
    refine rangeFunc_nw rfl (by omega) (gf := 82) (lb := #[.pointer (some ⟨W2.heap.size, 0, none⟩)]) rfl trivial (enters_of Try.func82 (by kernel_rfl) rfl)
      (allOrders_nw L.length _ Bb W2.heap.size hl6 W0 bL0 (by omega)) Kb.t Kb.b ?nb (Below.refl _ _) (fun _ => rfl)
      (fun (pre : List RowAt) W => (Boxed W Bb 3 (.int .i64 (minB L (lw L) (pre.map fun x => x.2.2))) ∧ W.cell? ⟨w.heap.size, 0, none⟩ = some (.slice A L.length c)) ∧ (Below w.heap.size w W ∧ W0.heap.size ≤ W.heap.size))
      (fun _ _ _ => False) ?own (fun _ _ _ _ _ h _ _ => h) ⟨⟨bB0, hl3⟩, hB0, Nat.le_refl _⟩
      (fun x => { tmps := #[.slice A L.length c, .pointer (some ⟨w.heap.size, 0, none⟩), .int .i64 0, .pointer (some ⟨Bb, 0, none⟩), .slice (some ⟨x.1, 0, none⟩) x.2.2.length x.2.1, .slice A L.length c, .bool true, .bool false, .slice A L.length c, .int .i64 (lw L), .slice A L.length c, .int .i64 (L.length : Int), .func (.func 82) #[] #[.pointer (some ⟨W2.heap.size, 0, none⟩)], .slice (some ⟨x.1, 0, none⟩) x.2.2.length x.2.1, undef, undef, undef, undef, undef, undef, undef], defers := [] })
      ?assign ?body ?done ?stop
    case nb =>
      rintro pre x W l o o' hl ho hc ⟨h1, h2⟩
      refine ⟨h1, fun hp => ?_⟩
      obtain ⟨b, off, e, hlt, hcc⟩ := h2 hp
      exact ⟨b, off, e, by have := (grownBy_putObj' W l o').size; omega, fun k hk => cell_kept (hcc k hk) (grownBy_putObj' W l o') (fun r e => by cases e; exact ⟨o, ho, hc⟩)⟩
    case own =>
      rintro pre W W' row ⟨⟨bO, hlc⟩, hB1, hZ⟩ hg hrow
      refine ⟨⟨bO.kept hg (fun e => by have := (hrow _ e.symm).1; omega), ?_⟩, hB1.grown hg (by omega) (fun k e => by have := (hrow k e).1; omega), by have := hg.size; omega⟩
      exact (World.cell?_of_block (hg.block w.heap.size (by omega) (fun e => by have := (hrow _ e.symm).1; omega))).trans hlc
    case assign =>
      rintro l x W K hK
      simp only [encR]
      gi_wp2
      exact hK
    case body =>
      rintro l pre x W ⟨⟨bO, hlc⟩, hB1, hZ⟩ ⟨hx, hIs⟩
      obtain ⟨G, g, p⟩ := x
      simp only at hx hIs
      have hpl : p.length = L.length := each_len hx
      have cO := bO.cell
      have fO := bO.frozen
      have HAr := Lib.hid (fun (W' : World) (hb : Below W.heap.size W W') => HA2.out G g p W' ((hIs.below hb).more hb.size) hx (hB1.trans (hb.mono (by omega))))
      have HLw := Lib.hid (HL2.out p hx)
      have HM := Lib.hid (minB_snoc L p (pre.map fun x => x.2.2) (lw L))
      have HC : Hid (∀ (w5 : World) (x : Int), Below W.heap.size W w5 → x = min (minB L (lw L) (pre.map fun x => x.2.2)) (lw (inOrd L p)) → KeepsFrom W0.heap.size W (w5.setCell ⟨Bb, 0, none⟩ (.int .i64 x)) ∧ Kb Bb W (w5.setCell ⟨Bb, 0, none⟩ (.int .i64 x)) ∧
          ((Boxed (w5.setCell ⟨Bb, 0, none⟩ (.int .i64 x)) Bb 3 (.int .i64 (minB L (lw L) ((pre ++ [((G, g, p) : RowAt)]).map fun x => x.2.2))) ∧ (w5.setCell ⟨Bb, 0, none⟩ (.int .i64 x)).cell? ⟨w.heap.size, 0, none⟩ = some (.slice A L.length c)) ∧
            (Below w.heap.size w (w5.setCell ⟨Bb, 0, none⟩ (.int .i64 x)) ∧ W0.heap.size ≤ (w5.setCell ⟨Bb, 0, none⟩ (.int .i64 x)).heap.size))) := by
        intro w5 x hb5 hxm
        have hs5 := hb5.size
        have bO5 : Boxed w5 Bb 3 _ := (hb5.block _ bO.lt).trans bO
        have hzs : (w5.setCell ⟨Bb, 0, none⟩ (.int .i64 x)).heap.size = w5.heap.size := by simp [World.setCell]
        refine ⟨((KeepsOthers.of_grownBy (row := none) (grown_below hb5 (Nat.le_refl _)) (fun j o e ho => by cases e)).trans (KeepsOthers.setCell _ _ _)).from _, ⟨by omega, fun b o ho hc hne => ?_⟩, ⟨?_, ?_⟩, ?_, by omega⟩
        · have hlt := (Array.getElem?_eq_some_iff.1 ho).1
          exact (Below.heap_setCell _ _ _ _ hne).trans ((hb5.block b hlt).trans ho)
        · rw [List.map_append, List.map_cons, List.map_nil, HM.out, ← hxm]
          exact bO5.set _
        · refine (World.cell?_setCell_other _ _ _ _ (by intro h; injection h with h1 _ _; omega)).trans ?_
          exact (hb5.cell (p := ⟨w.heap.size, 0, none⟩) (show w.heap.size < W.heap.size by omega)).trans hlc
        · exact (hB1.trans (hb5.mono (by omega))).setCell (p := ⟨Bb, 0, none⟩) (show w.heap.size ≤ Bb by omega) _
      clear hx hIs HM
      generalize minB L (lw L) (pre.map fun x => x.2.2) = mn at cO bO HC
      generalize hlwp : lw (inOrd L p) = lp at HLw HC
      clear hlwp
      rw [hpl] at HAr
      have hmx : Try.prog.follows .mixedOrders = true := by kernel_rfl
      have hd : 1 ≤ 4 := by omega
      gi_wp2
      gi_region_with_o (first
        | (refine ⟨trivial, ?_⟩; gi_at_call 65; refine (CallsIn.inRound l (callsIn_wide.2 (HAr.out _ (Below.refl _ W).drew))).mono ?_; rintro e w5 ⟨v5, rfl, own5, hb5⟩; obtain ⟨G5, c5, rfl, -, -, hG5⟩ := own5.form; have hbx5 : Below W.heap.size W w5 := (Below.refl _ W).drew.trans hb5; have bO5 : Boxed w5 Bb 3 (.int .i64 mn) := (hbx5.block _ bO.lt).trans bO; have cO5 := bO5.cell; have fO5 := bO5.frozen)
        | (refine ⟨trivial, ?_⟩; gi_at_call 60; refine (CallsIn.inRound l (callsIn_wide.2 (HLw.out G5 c5 w5 hG5))).mono ?_; rintro e w6 ⟨rfl, hb6⟩; have hbx6 : Below W.heap.size W w6 := hbx5.trans (hb6.mono hbx5.size); have bO6 : Boxed w6 Bb 3 (.int .i64 mn) := (hbx6.block _ bO.lt).trans bO; have cO6 := bO6.cell; have fO6 := bO6.frozen))
      all_goals gi_wp2
      all_goals (try go_bits)
      all_goals
        first
          | (obtain ⟨q1, q2, q3⟩ := HC.out w6 mn hbx6 (by omega); rw [hsz] at q1 q3; exact ⟨q1, q2, q3⟩)
          | (obtain ⟨q1, q2, q3⟩ := HC.out w6 lp hbx6 (by omega); rw [hsz] at q1 q3; exact ⟨q1, q2, q3⟩)
    case done =>
      rintro D ys W hD hys ⟨⟨bO, hlc⟩, hB1, hZ⟩ hK
      have cO := bO.cell
      rw [hys, minB_least H.out] at cO
      gi_wp2
      refine ⟨by simp, .inl ⟨_, _, rfl, run_takeDeferred hK, ?_⟩⟩
      refine ⟨_, results_tmp rfl _ _ _, rfl, hB1.trans (belowK_b (w := w) (Nat.le_refl _) W D _ _ (by omega) hK rfl rfl)⟩
    case stop =>
      rintro D cd pre W _ _ h _
      exact h.elim
  · have hno : bOk L = false := by simpa using ht
    have H := Lib.hid hno
    have HV := Lib.hid (leastB_no hno)
    clear ht hno
    go_enter Try.func35, Try.ntmps35
    go_wp2_with fail
    refine HT.out.mono ?_
    rintro e w1 ⟨rfl, hb1⟩
    rw [H.out]
    rw [hz0] at hb1
    go_wp2_with fail
    go_ret
    exact ⟨by rw [HV.out]; rfl, hb0.trans (hb1.mono (by omega))⟩

end Go.Proofs.Ytofjfhifldafcaa

