/- impl.needsOf, the methods serve and any of unitsLeft, mayServe, OrderOk -/
import Derived.Test.YtecoefjkobpbgaaK9
import Derived.Test.YtecoefjkobpbgaaR2
import Derived.Test.YtecoefjkobpbgaaG
namespace Go.Proofs.Ytecoefjkobpbgaa
set_option linter.unusedVariables false
open Go.RowKit
attribute [local go_sem ↓] Go.wp_at_zero Go.wp_at_succ

section
variable {w : World}
/-- left = append(left, y), in a region in the text's order -/
theorem app_U {ops : Array Oper} {rest : List Oper} {o : Oper} {a : Act} {Q : Exit → Act → World → Prop} (hgd : o.guard = none) (s x : Operand)
    (ho : o.op = .call { callee := .builtin .append, args := #[s, x], argTypes := #[81, 81] })
    (base : Nat) (v : Value) (xs : List Int) (y : Int) (B : Nat) (hs : a.eval s = v) (hown : IO w base v xs) (hx : a.eval x = .slice (some ⟨B, 0, none⟩) 1 1)
    (hB : w.heap[B]? = some (.cells #[.int .i64 y] 3 (0, 0))) (hlen : xs.length ≤ 1000000000000) (hbase : base ≤ w.heap.size)
    (h : ∀ g cap w', IO w' base (.slice (some ⟨g, 0, none⟩) (xs.length + 1) cap) (xs ++ [y]) → w.grownBy w' v.ownBlock → Below base w w' → wpList Try.prog ops Q rest (a.put o.dst (.slice (some ⟨g, 0, none⟩) (xs.length + 1) cap)) w') :
    wpList Try.prog ops Q (o :: rest) a w := by
  obtain ⟨i0, hi, hz0, hz1, hz2⟩ := info_parts infoI
  refine wpList_append_lies w hgd s x _ ho base 3 i0 _ 1 8 Try.underlying81 hi hz0 hz1 hz2 rfl (by decide) v xs.length _ hs hown
    ⟨B, 0, none⟩ 1 1 [.int .i64 y] hx rfl (World.news_of_block (cs := #[.int .i64 y]) hB) (by simp [Value.oneCell']) (by decide) (by simp only [maxLen]; omega) (by omega) hbase _ rfl ?_
  intro g cap w' h1 h2 _ _
  exact h g cap w' (by simpa [IO] using h1) h2 ((Below.refl _ _).grown h2 hbase (owns_base hown))
end

set_option maxRecDepth 4000 in
set_option maxHeartbeats 4000000 in
theorem c_needsOf (L : List (Int × Int)) (A : Option Addr) (c : Nat) (w : World) (hA : Cs w w.heap.size A L) (hn : L.length ≤ 1000000000000) :
    Calls Try.prog 61 #[.slice A L.length c] w fun e w' => ∃ v, e = .returned v ∧ IO w' w.heap.size v (needs L) ∧ Below w.heap.size w w' := by
  go_enter Try.func61, Try.ntmps61
  go_wp2_with fail
  go_loopw [3, 8] (fun o i wr => ∃ k : Nat, k ≤ L.length ∧ i = .int .i64 k ∧ IO wr w.heap.size o (needsTo L k) ∧ Below w.heap.size w wr) (fun _ i _ => L.length - (intOf i).toNat)
  case atStart => exact ⟨0, by omega, rfl, IO.nil _ _, Below.refl _ _⟩
  case round =>
    obtain ⟨k, hk, rfl, hown, hb⟩ := hrel
    have hsz := hb.size
    by_cases hlt : k < L.length
    · obtain ⟨b, off, rfl, hlb, hc⟩ := hA (by omega)
      have c1 := (hb.cell (p := ⟨b, off + k * 2, none⟩) hlb).trans (hc k hlt).1
      have c2 := (hb.cell (p := ⟨b, off + k * 2 + 1, none⟩) hlb).trans (hc k hlt).2
      have q5 : (needsTo L k).length ≤ 1000000000000 := by rw [needsTo_len (by omega)]; omega
      have hnew : ((wr.alloc (.cells #[.int .i64 (X L k), .int .i64 (Y L k)] 37)).alloc (.cells #[.int .i64 (Y L k)] 3)).heap[wr.heap.size + 1]? = some (.cells #[.int .i64 (Y L k)] 3 (0, 0)) := by
        have := heap_alloc_new (wr.alloc (.cells #[.int .i64 (X L k), .int .i64 (Y L k)] 37)) (.cells #[.int .i64 (Y L k)] 3)
        simpa using this
      have hlz : w.heap.size ≤ ((wr.alloc (.cells #[.int .i64 (X L k), .int .i64 (Y L k)] 37)).alloc (.cells #[.int .i64 (Y L k)] 3)).heap.size := by simp; omega
      clear hc
      go_wp2_with (refine app_U ?_ (.tmp 12) (.tmp 15) ?_ w.heap.size u3 (needsTo L k) (Y L k) (wr.heap.size + 1) ?_ ?_ ?_ ?_ ?_ ?_ ?_; rfl; rfl; rfl; exact ((hown.alloc _).alloc _); rfl; exact hnew; exact q5; exact hlz; intro g7 cap w7 hown7 hgr7 hb7)
      go_roundw
      case rel =>
        refine ⟨k + 1, by omega, by go_num, by rw [needs_take_succ hlt]; exact hown7, ?_⟩
        refine Below.trans ?_ hb7
        (repeat (first | exact hb | exact Below.refl _ _ | (with_reducible refine Below.drew ?_) | (with_reducible refine Below.drewN ?_ _) | (with_reducible refine Below.alloc ?_ ?_ _) | (with_reducible refine Below.setCell ?_ ?_ _) | (show _ ≤ _; focus (first | omega | (simp; done) | (simp; omega)))))
      case measure => simp [intOf]; omega
    · have hlf : ¬ ((k : Int) < (L.length : Int)) := by omega
      have e : needsTo L k = needs L := List.take_of_length_le (by rw [needs_len]; omega)
      rw [e] at hown
      go_wp2_with fail
      go_ret
      exact ⟨_, rfl, hown, hb⟩

set_option maxHeartbeats 4000000 in
theorem c_serve (lf : List Int) (who : Int) (base : Nat) (v : Value) (w : World) (hown : IO w base v lf) (hr : who = -1 ∨ (0 ≤ who ∧ who < lf.length ∧ 0 ≤ Z lf who.toNat ∧ Z lf who.toNat ≤ 1000)) (hn : lf.length ≤ 1000000) :
    Calls Try.prog 66 #[v, .int .i64 who] w fun e w' => (∃ r, e = .returned r) ∧ IO w' base v (stepL lf who) ∧ w.grownBy w' v.ownBlock := by
  rcases hr with rfl | ⟨h0, h1, h2, h3⟩
  · go_enter Try.func66, Try.ntmps66
    go_wp2_with fail
    go_end0
    exact ⟨⟨_, rfl⟩, by rw [show stepL lf (-1) = lf by simp [stepL]]; exact hown, World.grownBy.refl _ _⟩
  · obtain ⟨p, rfl⟩ := Int.eq_ofNat_of_zero_le h0
    have e0 : ((p : Int)).toNat = p := by simp
    rw [e0] at h2 h3
    have E := Lib.hid (show stepL lf (p : Int) = lf.set p (Z lf p - 1) by simp [stepL])
    obtain ⟨G, g, rfl, hg1, hG⟩ := hown.formG
    obtain ⟨gb, rfl, -, hgb, hgc⟩ := hG (by omega)
    have c0 := hgc p (by omega)
    have fz := hown.cells.2.2
    have f0 := fz p
    have p1 : ((p : Int) == -1) = false := beq_eq_false_iff_ne.2 (by omega)
    have q7 : IntKind.i64.wrap (Z lf p - 1) = Z lf p - 1 := IntWalk.i64_in _ (by omega)
    have HO := Lib.hid hown
    clear hgc fz hown hG
    go_enter Try.func66, Try.ntmps66
    go_wp2_with fail
    go_end0
    rw [E.out]
    exact ⟨⟨_, rfl⟩, HO.out.store p _, grown_set _ _ _ _⟩

theorem c_gt0 (x : Int) (w : World) : Calls Try.prog 73 #[.int .i64 x] w fun e w' => e = .returned (.bool (decide (0 < x))) ∧ w = w' := by
  go_enter Try.func73, Try.ntmps73
  go_wp2_with fail
  go_ret
  exact ⟨rfl, rfl⟩

theorem noneLeft_succ (lf : List Int) (n : Nat) : noneLeft lf (n + 1) = (noneLeft lf n && decide (Z lf n ≤ 0)) := rfl

set_option maxHeartbeats 2000000 in
theorem c_indexLeft (lf : List Int) (G : Option Addr) (BG g : Nat) (w : World) (hG : Is w BG G lf) (hn : lf.length ≤ 140737488351232) :
    Calls Try.prog 75 #[.slice G lf.length g, .func (.func 73) #[] #[]] w fun e w' => (∃ i : Int, e = .returned (.int .i64 i) ∧ decide (0 ≤ i) = !noneLeft lf lf.length) ∧ w = w' := by
  go_enter Try.func75, Try.ntmps75
  go_wp2_with fail
  go_loopw [8] (fun i wr => ∃ k : Nat, k ≤ lf.length ∧ i = .int .i64 k ∧ Hid (noneLeft lf k = true) ∧ wr = w) (fun i _ => lf.length - (intOf i).toNat)
  case atStart => exact ⟨0, by omega, rfl, rfl, rfl⟩
  case round =>
    obtain ⟨k, hk, rfl, HN, rfl⟩ := hrel
    by_cases hlt : k < lf.length
    · obtain ⟨gb, go, rfl, hgb, hgc⟩ := hG (by omega)
      have c0 := hgc k hlt
      have p1 : (0 : Int) ≤ (k : Int) := by omega
      have p2 : (k : Int) < (lf.length : Int) := by omega
      clear hgc
      by_cases hz : 0 < Z lf k
      · have hd : decide (0 < Z lf k) = true := decide_eq_true hz
        have HB := Lib.hid (show decide ((0 : Int) ≤ (k : Int)) = !noneLeft lf lf.length by
          cases h : noneLeft lf lf.length with
          | true => have := noneLeft_at _ h k hlt; omega
          | false => simp)
        clear hz
        go_wp2_with fail
        refine (c_gt0 _ _).mono ?_
        rintro e w1 ⟨rfl, rfl⟩
        rw [hd]
        go_wp2_with fail
        go_ret
        exact ⟨⟨_, rfl, HB.out⟩, rfl⟩
      · have hd : decide (0 < Z lf k) = false := decide_eq_false hz
        have HB := Lib.hid (show noneLeft lf (k + 1) = true by rw [noneLeft_succ, HN.out, decide_eq_true (by omega)]; rfl)
        clear hz
        go_wp2_with fail
        refine (c_gt0 _ _).mono ?_
        rintro e w1 ⟨rfl, rfl⟩
        rw [hd]
        go_wp2_with fail
        go_roundw
        case rel => exact ⟨k + 1, by omega, by go_num, HB, trivial⟩
        case measure => simp [intOf]; omega
    · have hlf : ¬ ((k : Int) < (lf.length : Int)) := by omega
      obtain rfl : k = lf.length := by omega
      go_wp2_with fail
      go_ret
      exact ⟨⟨_, rfl, by rw [HN.out]; rfl⟩, rfl⟩

theorem c_any (lf : List Int) (G : Option Addr) (BG g : Nat) (w : World) (hG : Is w BG G lf) (hn : lf.length ≤ 140737488351232) :
    Calls Try.prog 62 #[.slice G lf.length g] w fun e w' => e = .returned (.bool (!noneLeft lf lf.length)) ∧ w = w' := by
  have KC : Calls Try.prog 72 #[.slice G lf.length g, .func (.func 73) #[] #[]] w fun e w' => e = .returned (.bool (!noneLeft lf lf.length)) ∧ w = w' := by
    go_enter Try.func72, Try.ntmps72
    go_wp2_with fail
    refine (c_indexLeft lf G BG g w hG hn).mono ?_
    rintro e w1 ⟨⟨i, rfl, hi⟩, rfl⟩
    go_wp2_with fail
    go_ret
    rw [← hi]
    exact ⟨rfl, rfl⟩
  go_enter Try.func62, Try.ntmps62
  go_wp2_with fail
  refine KC.mono ?_
  rintro e w1 ⟨rfl, rfl⟩
  go_wp2_with fail
  go_ret
  exact ⟨rfl, rfl⟩

theorem c_placeIs (L : List (Int × Int)) (A : Option Addr) (c : Nat) (t : Int) (w : World) (hn : L.length ≤ 140737488351232) :
    Calls Try.prog 43 #[.slice A L.length c, .int .i64 t] w fun e w' => e = .returned (.bool (decide (0 ≤ t ∧ t ≤ (L.length : Int) - 1))) ∧ w = w' := by
  go_enter Try.func43, Try.ntmps43
  go_wp2_with fail
  refine (c_within _ _ _ _).mono ?_
  rintro e w' ⟨rfl, rfl⟩
  go_wp2_with fail
  go_ret
  exact ⟨by simp, rfl⟩

/-- may the customer be served now -/
def mayV (L : List (Int × Int)) (lf : List Int) (t : Nat) (who : Int) : Bool := decide (who = -1) || (decide (0 ≤ who ∧ who ≤ (L.length : Int) - 1) && decide (X L who.toNat ≤ t) && decide (0 < Z lf who.toNat))

set_option maxHeartbeats 2000000 in
theorem c_mayServe (L : List (Int × Int)) (lf : List Int) (A G : Option Addr) (BA BG c g : Nat) (t : Nat) (who : Int) (w : World) (hA : Cs w BA A L) (hG : Is w BG G lf) (hl : lf.length = L.length) (hn : L.length ≤ 140737488351232) :
    Calls Try.prog 67 #[.slice A L.length c, .slice G L.length g, .int .i64 t, .int .i64 who] w fun e w' => e = .returned (.bool (mayV L lf t who)) ∧ w = w' := by
  by_cases h1 : who = -1
  · subst h1
    go_enter Try.func67, Try.ntmps67
    go_wp2_with fail
    go_ret
    exact ⟨rfl, rfl⟩
  · have hw1 : (who == -1) = false := beq_eq_false_iff_ne.2 h1
    have H1 := Lib.hid (show decide (who = -1) = false from decide_eq_false h1)
    have HP := Lib.hid (c_placeIs L A c who w hn)
    by_cases h2 : 0 ≤ who ∧ who ≤ (L.length : Int) - 1
    · have H2 := Lib.hid (show decide (0 ≤ who ∧ who ≤ (L.length : Int) - 1) = true from decide_eq_true h2)
      obtain ⟨p, rfl⟩ := Int.eq_ofNat_of_zero_le h2.1
      have hp : p < L.length := by omega
      obtain ⟨b, off, rfl, hlb, hc⟩ := hA (by omega)
      obtain ⟨gb, go, rfl, hgb, hgc⟩ := hG (by omega)
      have c1 := (hc p hp).1
      have c2 := hgc p (by omega)
      have p1 : (0 : Int) ≤ (p : Int) := by omega
      have p2 : (p : Int) < (L.length : Int) := by omega
      have e0 : ((p : Int)).toNat = p := by simp
      have HV := Lib.hid (show mayV L lf t (p : Int) = (decide (X L p ≤ t) && decide (0 < Z lf p)) by simp only [mayV, H1.out, H2.out, e0, Bool.false_or, Bool.true_and])
      rw [HV.out]
      clear hc hgc h1 h2 e0
      by_cases h3 : X L p ≤ (t : Int)
      · have d3 : decide (X L p ≤ (t : Int)) = true := decide_eq_true h3
        rw [d3]
        clear d3
        go_enter Try.func67, Try.ntmps67
        go_wp2_with fail
        refine HP.out.mono ?_
        rintro e w' ⟨rfl, rfl⟩
        rw [H2.out]
        go_wp2_with fail
        go_ret
        exact ⟨rfl, rfl⟩
      · have d3 : decide (X L p ≤ (t : Int)) = false := decide_eq_false h3
        rw [d3]
        clear d3
        go_enter Try.func67, Try.ntmps67
        go_wp2_with fail
        refine HP.out.mono ?_
        rintro e w' ⟨rfl, rfl⟩
        rw [H2.out]
        go_wp2_with fail
        go_ret
        exact ⟨rfl, rfl⟩
    · have H2 := Lib.hid (show decide (0 ≤ who ∧ who ≤ (L.length : Int) - 1) = false from decide_eq_false h2)
      have HV := Lib.hid (show mayV L lf t who = false by simp only [mayV, H1.out, H2.out, Bool.false_or, Bool.false_and])
      rw [HV.out]
      clear h1 h2
      go_enter Try.func67, Try.ntmps67
      go_wp2_with fail
      refine HP.out.mono ?_
      rintro e w' ⟨rfl, rfl⟩
      rw [H2.out]
      go_wp2_with fail
      go_ret
      exact ⟨rfl, rfl⟩

theorem mayV_unit {L : List (Int × Int)} {o : List Int} {t : Nat} (hr : ∀ k, k < L.length → 0 ≤ Z (leftOf L o t) k) : mayV L (leftOf L o t) t (Z o t) = unitOk L o t := by
  unfold mayV unitOk
  by_cases h1 : Z o t = -1
  · rw [h1]; simp; omega
  · by_cases h2 : 0 ≤ Z o t ∧ Z o t ≤ (L.length : Int) - 1
    · have r := hr (Z o t).toNat (by omega)
      have e1 : decide (Z o t < 0) = false := decide_eq_false (by omega)
      have e2 : decide (-1 ≤ Z o t ∧ Z o t ≤ (L.length : Int) - 1) = true := decide_eq_true (by omega)
      have e3 : decide (0 < Z (leftOf L o t) (Z o t).toNat) = decide (Z (leftOf L o t) (Z o t).toNat ≠ 0) := by
        rw [decide_eq_decide]; omega
      rw [decide_eq_false h1, decide_eq_true h2, e1, e2, e3]; rfl
    · have e1 : decide (0 ≤ Z o t ∧ Z o t ≤ (L.length : Int) - 1) = false := decide_eq_false h2
      have e2 : decide (-1 ≤ Z o t ∧ Z o t ≤ (L.length : Int) - 1) = false := decide_eq_false (by omega)
      rw [decide_eq_false h1, e1, e2]; rfl
theorem ordOk_cust {L : List (Int × Int)} {o : List Int} (h : cOk L = false) : ordOk L o = false := by simp [ordOk, h]
theorem ordOk_long {L : List (Int × Int)} {o : List Int} (h : ¬ (o.length : Int) ≤ 200) : ordOk L o = false := by
  have : decide (o.length ≤ 200) = false := decide_eq_false (by omega)
  simp [ordOk, this]
theorem ordOk_unit {L : List (Int × Int)} {o : List Int} {t : Nat} (ht : t < o.length) (h : unitOk L o t = false) : ordOk L o = false := by
  have : unitsOk L o o.length = false := by
    refine Bool.eq_false_iff.2 fun hu => ?_
    rw [unitsOk_at _ hu t ht] at h; cases h
  simp [ordOk, this]

set_option maxHeartbeats 4000000 in
theorem c_iOrderOk (L : List (Int × Int)) (o : List Int) (A O : Option Addr) (c d : Nat) (w : World) (hA : Cs w w.heap.size A L) (hO : Is w w.heap.size O o) (hn : L.length ≤ 140737488351232) (ho : o.length ≤ 140737488351232) :
    Calls Try.prog 42 #[.slice A L.length c, .slice O o.length d] w fun e w' => e = .returned (.bool (ordOk L o)) ∧ Below w.heap.size w w' := by
  have HC := Lib.hid (c_iCustomersOk L A c w hA hn)
  by_cases h : cOk L = true
  · have H := Lib.hid h
    have hlen := cOk_len h
    by_cases hl : (o.length : Int) ≤ 200
    · have hlb : decide ((200 : Int) < (o.length : Int)) = false := decide_eq_false (by omega)
      have HI := Lib.hid (fun (n : Nat) (ho : unitsOk L o n = true) => leftOf_inv h ho)
      have HB := Lib.hid (fun k => @cOk_bd L k h)
      clear h
      go_enter Try.func42, Try.ntmps42
      go_wp2_with fail
      refine HC.out.mono ?_
      rintro e w1 ⟨rfl, hb1⟩
      rw [H.out]
      have hs1 := hb1.size
      clear HC
      go_wp2_with fail
      refine (c_needsOf L A c w1 ((hA.below hb1).more hs1) (by omega)).mono ?_
      rintro e w2 ⟨v, rfl, hown2, hb2⟩
      obtain ⟨G, g, rfl, hg1, -⟩ := hown2.formG
      rw [needs_len] at hown2 hg1 ⊢
      have hb3 := hb1.trans (hb2.mono hs1)
      have hs3 := hb3.size
      clear hb2 hb1
      go_wp2_with fail
      go_loopw [20] (fun i wr => ∃ t : Nat, t ≤ o.length ∧ i = .int .i64 t ∧ Hid (unitsOk L o t = true) ∧ IO wr w1.heap.size (.slice G L.length g) (leftOf L o t) ∧ Below w.heap.size w wr) (fun i _ => o.length - (intOf i).toNat)
      case atStart => exact ⟨0, by omega, rfl, rfl, hown2, hb3⟩
      case round =>
        obtain ⟨t, ht, rfl, HU, hown, hb⟩ := hrel
        have hsz := hb.size
        have hll := leftOf_len L o t
        have HIt := Lib.hid (HI.out t HU.out t (Nat.le_refl _))
        by_cases hlt : t < o.length
        · obtain ⟨ob, oo, rfl, hob, hoc⟩ := hO (by omega)
          have c0 := (hb.cell (p := ⟨ob, oo + t, none⟩) hob).trans (hoc t hlt)
          have p1 : (0 : Int) ≤ (t : Int) := by omega
          have p2 : (t : Int) < (o.length : Int) := by omega
          have HM := Lib.hid (c_mayServe L (leftOf L o t) A G wr.heap.size wr.heap.size c g t (Z o t) wr ((hA.below hb).more hsz) hown.isOf.2 hll hn)
          have HE := Lib.hid (mayV_unit (L := L) (o := o) (t := t) fun k hk => (HIt.out.rng k hk).1)
          clear hoc
          by_cases hu : unitOk L o t = true
          · have HN := Lib.hid (show unitsOk L o (t + 1) = true by simp [unitsOk, HU.out, hu])
            have HS := Lib.hid (c_serve (leftOf L o t) (Z o t) w1.heap.size (.slice G L.length g) wr hown (by
              rcases unitOk_cases hu with e | ⟨p, e, hp, hx, hz⟩
              · exact .inl e
              · refine .inr ?_
                rw [e]
                have r := HIt.out.rng p hp
                have b := HB.out p hp
                simp only [Int.toNat_natCast]
                omega) (by omega))
            have HU2 := Lib.hid hu
            have HB2 := Lib.hid hown
            clear hu hown
            go_wp2_with fail
            refine HM.out.mono ?_
            rintro e w5 ⟨rfl, rfl⟩
            rw [HE.out, HU2.out]
            go_wp2_with fail
            refine HS.out.mono ?_
            rintro e w6 ⟨⟨r, rfl⟩, hown6, hg6⟩
            have hb6 := hb.grown hg6 (by omega) (fun k e => by have := owns_base HB2.out k e; omega)
            go_wp2_with fail
            go_roundw
            case rel => exact ⟨t + 1, by omega, by go_num, HN, hown6, hb6⟩
            case measure => simp [intOf]; omega
          · have hu' : unitOk L o t = false := by simpa using hu
            have HF := Lib.hid (ordOk_unit hlt hu')
            have HU2 := Lib.hid hu'
            clear hu hu'
            go_wp2_with fail
            refine HM.out.mono ?_
            rintro e w5 ⟨rfl, rfl⟩
            rw [HE.out, HU2.out]
            go_wp2_with fail
            go_ret
            exact ⟨by rw [HF.out]; rfl, hb⟩
        · have hlf : ¬ ((t : Int) < (o.length : Int)) := by omega
          obtain rfl : t = o.length := by omega
          have KA := c_any (leftOf L o o.length) G wr.heap.size g wr hown.isOf.2 (by omega)
          rw [hll] at KA
          have HA := Lib.hid KA
          have HV := Lib.hid (show ordOk L o = noneLeft (leftOf L o o.length) L.length by
            have : decide (o.length ≤ 200) = true := decide_eq_true (by omega)
            simp [ordOk, H.out, HU.out, this])
          clear KA
          go_wp2_with fail
          refine HA.out.mono ?_
          rintro e w5 ⟨rfl, rfl⟩
          go_wp2_with fail
          go_ret
          exact ⟨by rw [HV.out]; simp, hb⟩
    · have hlb : decide ((200 : Int) < (o.length : Int)) = true := decide_eq_true (by omega)
      have HF := Lib.hid (ordOk_long (L := L) hl)
      clear h
      go_enter Try.func42, Try.ntmps42
      go_wp2_with fail
      refine HC.out.mono ?_
      rintro e w1 ⟨rfl, hb1⟩
      rw [H.out]
      go_wp2_with fail
      go_ret
      exact ⟨by rw [HF.out]; rfl, hb1⟩
  · have hno : cOk L = false := by simpa using h
    have HF := Lib.hid (ordOk_cust (o := o) hno)
    have H := Lib.hid hno; clear h hno
    go_enter Try.func42, Try.ntmps42
    go_wp2_with fail
    refine HC.out.mono ?_
    rintro e w1 ⟨rfl, hb1⟩
    rw [H.out]
    go_wp2_with fail
    go_ret
    exact ⟨by rw [HF.out]; rfl, hb1⟩

end Go.Proofs.Ytecoefjkobpbgaa

