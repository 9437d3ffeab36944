/- draws of orders: l20Order, l20Served (ahead of the landing) -/
import Derived.Test.YtecoefjkobpbgaaK5
import Derived.Test.YtecoefjkobpbgaaI
import Derived.Deep.CutRange
import Derived.Deep.CutBlock
namespace Go.Proofs.Ytecoefjkobpbgaa
set_option linter.unusedVariables false
open Go.RowKit
attribute [local go_sem ↓] Go.wp_at_zero Go.wp_at_succ

theorem CO.cs {w : World} {base : Nat} {A : Option Addr} {n c : Nat} {L : List (Int × Int)} (h : CO w base (.slice A n c) L) : Cs w w.heap.size A L := by
  obtain ⟨A', c', e, _, _, hc⟩ := h.form
  injection e with e1 e2 e3
  subst e1
  exact hc
theorem IO.is {w : World} {base : Nat} {A : Option Addr} {n c : Nat} {xs : List Int} (h : IO w base (.slice A n c) xs) : Is w w.heap.size A xs := by
  obtain ⟨A', c', e, _, _, hc⟩ := h.form
  injection e with e1 e2 e3
  subst e1
  exact hc
theorem Is.tail {w : World} {B b off : Nat} {x : Int} {xs : List Int} (h : Is w B (some ⟨b, off, none⟩) (x :: xs)) : Is w B (some ⟨b, off + 1, none⟩) xs := by
  intro hn
  obtain ⟨b', off', e, hlt, hc⟩ := h (by simp)
  injection e with e; injection e with e1 e2
  subst e1 e2
  refine ⟨b, off + 1, rfl, hlt, fun k hk => ?_⟩
  have := hc (k + 1) (by simp; omega)
  rw [show off + 1 + k = off + (k + 1) by omega, this]
  rfl
/-- a slice of numbers that lies in another block than r -/
def IsN (r : Nat) (w : World) (B : Nat) (A : Option Addr) (xs : List Int) : Prop :=
  0 < xs.length → ∃ b off, A = some ⟨b, off, none⟩ ∧ b < B ∧ b ≠ r ∧ ∀ k, k < xs.length → w.cell? ⟨b, off + k, none⟩ = some (.int .i64 (Z xs k))
theorem IsN.is {r : Nat} {w : World} {B : Nat} {A : Option Addr} {xs : List Int} (h : IsN r w B A xs) : Is w B A xs := fun hp => by
  obtain ⟨b, off, e, hb, _, hc⟩ := h hp
  exact ⟨b, off, e, hb, hc⟩
theorem IsN.grown {r : Nat} {w w' : World} {A : Option Addr} {xs : List Int} (h : IsN r w w.heap.size A xs) (hg : w.grownBy w' (some r)) : IsN r w' w'.heap.size A xs := fun hp => by
  obtain ⟨b, off, e, hb, hne, hc⟩ := h hp
  exact ⟨b, off, e, Nat.lt_of_lt_of_le hb hg.size, hne, fun k hk => (hg.cell (hc k hk) (by simpa using hne))⟩
theorem IO.isN {w : World} {base n c r : Nat} {A : Option Addr} {xs : List Int} (h : IO w base (.slice A n c) xs) (hr : r < base) : IsN r w w.heap.size A xs := by
  obtain ⟨A', c', e, _, hc⟩ := h.formG
  injection e with e1 e2 e3
  subst e1
  intro hp
  obtain ⟨g, e, h1, h2, h3⟩ := hc hp
  exact ⟨g, 0, e, h2, by omega, fun k hk => by rw [Nat.zero_add]; exact h3 k hk⟩
theorem IsN.tail {r : Nat} {w : World} {B b off : Nat} {x : Int} {xs : List Int} (h : IsN r w B (some ⟨b, off, none⟩) (x :: xs)) : IsN r w B (some ⟨b, off + 1, none⟩) xs := by
  intro hn
  obtain ⟨b', off', e, hlt, hne, hc⟩ := h (by simp)
  injection e with e; injection e with e1 e2
  subst e1 e2
  refine ⟨b, off + 1, rfl, hlt, hne, fun k hk => ?_⟩
  have := hc (k + 1) (by simp; omega)
  rw [show off + 1 + k = off + (k + 1) by omega, this]
  rfl
theorem grown_trans_row {w w1 w2 : World} {r g : Nat} (h : w.grownBy w1 (some r)) (hg : w1.grownBy w2 (some g)) (hn : w.heap.size ≤ g) : w.grownBy w2 (some r) :=
  ⟨hg.os.trans h.os, hg.tape.trans h.tape, hg.output.trans h.output, Nat.le_trans h.size hg.size, fun k hk hne => (hg.block k (Nat.lt_of_lt_of_le hk h.size) (by simp; omega)).trans (h.block k hk hne)⟩
theorem Rd.rowOther {w w' : World} {base r p g : Nat} (h : Rd w base r p) (hg : w.grownBy w' (some g)) (h1 : g ≠ r) (h2 : base ≤ g) : Rd w' base r p := by
  obtain ⟨a1, a2, A, n, c, hn, hh, hb⟩ := h
  exact ⟨a1, Nat.lt_of_lt_of_le a2 hg.size, A, n, c, hn, (hg.block r a2 (by simp; omega)).trans hh, hb.keep fun k hk => hg.block k (by omega) (by simp; omega)⟩
/-- of those who are there, each has units left -/
def thOk (L : List (Int × Int)) (lf TH : List Int) : Prop := ∀ i, i < TH.length → ∃ p : Nat, Z TH i = p ∧ p < L.length ∧ 0 < Z lf p
theorem thOk_snoc {L : List (Int × Int)} {lf TH : List Int} (h : thOk L lf TH) {k : Nat} (hk : k < L.length) (hz : 0 < Z lf k) : thOk L lf (TH ++ [(k : Int)]) := by
  intro i hi
  by_cases e : i < TH.length
  · have := h i e
    simpa [Z, List.getElem?_append_left e] using this
  · have : i = TH.length := by simp at hi; omega
    subst this
    exact ⟨k, by simp [Z], hk, hz⟩

set_option maxRecDepth 8000 in
set_option maxHeartbeats 16000000 in
theorem c_l20Order (base r p n base2 : Nat) (L : List (Int × Int)) (A : Option Addr) (c : Nat) (w : World) (h : Rd w base r p) (hp : p ≤ 800000000) (hn1 : 1 ≤ n) (hn2 : n ≤ 1000) (hL : CO w base2 (.slice A L.length c) L) (hr2 : r < base2) (hn : L.length ≤ 9) :
    Calls Try.prog 70 #[.pointer (some ⟨r, 0, none⟩), .slice A L.length c, .int .i64 n] w fun e w' => ∃ (O : List Int) (B : Option Addr) (d : Nat), e = .returned (.slice B O.length d) ∧ IsN r w' w'.heap.size B O ∧ O.length ≤ 191 ∧ O.length ≤ d ∧ w.grownBy w' (some r) ∧ ∃ p', p' ≤ p + 1000 ∧ Rd w' base r p' := by
  have hrw := h.2.1
  have hbr := h.1
  have HA := Lib.hid (fun wq (hg : w.grownBy wq (some r)) => (hL.grown hg hr2).cs)
  have hA0 := hL.cs
  have hb0 : Below w.heap.size w (w.alloc (.cells #[] 3)) := by (repeat (first | exact rfl | exact Below.refl _ _ | (with_reducible refine Below.drew ?_) | (with_reducible refine Below.drewN ?_ _) | (with_reducible refine Below.alloc ?_ ?_ _) | (with_reducible refine Below.setCell ?_ ?_ _) | (show _ ≤ _; focus (first | omega | (simp; done) | (simp; omega)))))
  have own0 := IO.empty w (Nat.le_refl w.heap.size)
  have HB0 := Lib.hid hb0
  clear hL hb0
  by_cases hok : cOk L = true
  · have H := Lib.hid hok
    have Hbd := Lib.hid (fun k => @cOk_bd L k hok)
    clear hok
    go_enter Try.func70, Try.ntmps70
    go_wp2_with fail
    refine (c_sCustomersOk L A c _ ((hA0.below HB0.out).more HB0.out.size) (by omega)).mono ?_
    rintro e w1 ⟨rfl, hb1⟩
    rw [H.out]
    have own1 := own0.below hb1 (Nat.le_refl _)
    have hbx := HB0.out.trans (hb1.mono HB0.out.size)
    have hsx : w.heap.size < w1.heap.size := by have := hb1.size; simp at this; omega
    have hr1 := h.keepB hbx hrw (by omega)
    have hbz : Below w1.heap.size w1 (w1.alloc (.cells #[] 3)) := by (repeat (first | exact rfl | exact Below.refl _ _ | (with_reducible refine Below.drew ?_) | (with_reducible refine Below.drewN ?_ _) | (with_reducible refine Below.alloc ?_ ?_ _) | (with_reducible refine Below.setCell ?_ ?_ _) | (show _ ≤ _; focus (first | omega | (simp; done) | (simp; omega)))))
    clear hb1 own0 HB0 h
    go_wp2_with fail
    go_loopw [8, 9] (fun o i wr => ∃ k : Nat, k ≤ L.length ∧ i = .int .i64 k ∧ IO wr w1.heap.size o (needsTo L k) ∧ Below w1.heap.size w1 wr) (fun _ i _ => L.length - (intOf i).toNat)
    case atStart => exact ⟨0, by omega, rfl, IO.empty w1 (Nat.le_refl _), hbz⟩
    case round =>
      obtain ⟨k, hk, rfl, hown, hb⟩ := hrel
      have hsz := hb.size
      by_cases hlt : k < L.length
      · obtain ⟨b, off, rfl, hlb, hc⟩ := hA0 (by omega)
        have c1 := (hb.cell (p := ⟨b, off + k * 2 + 1, none⟩) (by show b < _; omega)).trans ((hbx.cell (p := ⟨b, off + k * 2 + 1, none⟩) hlb).trans (hc k hlt).2)
        have q5 : (needsTo L k).length ≤ 1000000000000 := by rw [needsTo_len (by omega)]; omega
        clear hc
        go_wp2_with (refine app_I ?_ (.tmp 28) (.tmp 34) ?_ w1.heap.size u8 (needsTo L k) (Y L k) wr.heap.size ?_ ?_ ?_ ?_ ?_ ?_ ?_; rfl; rfl; rfl; exact (hown.alloc _); rfl; exact (heap_alloc_new _ _); exact q5; exact (Nat.le_trans hsz (by simp)); intro g7 cap w7 hown7 hgr7 hb7)
        go_roundw
        case rel =>
          refine ⟨k + 1, by omega, by go_num, by rw [needs_take_succ hlt]; exact hown7, ?_⟩
          refine Below.trans ?_ hb7
          (repeat (first | exact hb | exact Below.refl _ _ | (with_reducible refine Below.drew ?_) | (with_reducible refine Below.drewN ?_ _) | (with_reducible refine Below.alloc ?_ ?_ _) | (with_reducible refine Below.setCell ?_ ?_ _) | (show _ ≤ _; focus (first | omega | (simp; done) | (simp; omega)))))
        case measure => simp [intOf]; omega
      · have hlf : ¬ ((k : Int) < (L.length : Int)) := by omega
        have hown3 : IO wr w1.heap.size u8 (needs L) := by
          have e : needsTo L k = needs L := List.take_of_length_le (by rw [needs_len]; omega)
          rw [e] at hown
          exact hown
        have own3 := own1.below hb (Nat.le_refl _)
        have hbw := hbx.trans (hb.mono (by omega))
        have g3 : w.grownBy wr (some r) := grown_below hbw (Nat.le_refl _)
        have hr3 := hr1.keepB hb (by omega) (by omega)
        have hlr : ∀ rr, u8.ownBlock = some rr → w.heap.size < rr ∧ rr < wr.heap.size := fun rr e => ⟨by have := owns_base hown3 rr e; omega, owns_lt hown3 rr e⟩
        obtain ⟨G, g, hu6, hg1, hG⟩ := hown3.formG
        clear hown hb hk hbz own1 hG hg1 hr1 hbx hlt hA0
        rw [needs_len] at hu6
        subst hu6
        go_wp2_with fail
        ((with_reducible refine (c_pickI base r p 3 _ hr3 (by omega) (by omega) (by omega)).mono ?_))
        rintro e w3 ⟨x3, hx3, rfl, hg4, hr4⟩
        have g4 := g3.trans hg4
        have own4 := own3.grownR hg4 (fun rr e => by cases e; exact hrw)
        have left4 := hown3.grownR hg4 (fun rr e => by cases e; omega)
        have hs3 := g4.size
        have hz3 := hg4.size
        have HLR := Lib.hid (show ∀ rr, (Value.slice G L.length g).ownBlock = some rr → w.heap.size < rr ∧ rr < w3.heap.size from fun rr e => ⟨(hlr rr e).1, Nat.lt_of_lt_of_le (hlr rr e).2 hz3⟩)
        obtain ⟨ib, hib⟩ : ∃ ib : Bool, ((x3 : Int) == 0) = ib := ⟨_, rfl⟩
        clear own3 hown3 hg4 hr3 g3 hlr hbw hx3 hsz hz3
        go_upto_block 2 with fail
        clear hib
        have hlb : ∀ k, k < L.length → 0 ≤ Z (needs L) k ∧ Z (needs L) k ≤ 9 := fun k hk => by rw [needs_Z hk]; have := Hbd.out k hk; omega
        go_cut [7] from 16 (fun o wx => ∃ (O : List Int) (p2 : Nat), O.length ≤ 190 ∧ IO wx w.heap.size o O ∧ w.grownBy wx (some r) ∧ p2 ≤ p + 400 ∧ Rd wx base r p2)
        case first =>
          go_wp2_with fail
          go_loopw [7, 11] (fun o i wq => ∃ (t : Nat) (O lf : List Int) (p' : Nat), t ≤ 190 ∧ i = .int .i64 t ∧ O.length = t ∧ IO wq w.heap.size o O ∧ Hid (Sep w.heap.size w3.heap.size o) ∧ lf.length = L.length ∧ Hid (∀ k, k < L.length → 0 ≤ Z lf k ∧ Z lf k ≤ 9) ∧ IO wq w1.heap.size (.slice G L.length g) lf ∧ w3.heap.size ≤ wq.heap.size ∧ w.grownBy wq (some r) ∧ p' ≤ p + 1 + 2 * t ∧ Rd wq base r p') (fun _ i _ => 190 - (intOf i).toNat)
          case atStart => exact ⟨0, [], needs L, p + 1, by omega, rfl, rfl, own4, Sep.lo _ _ _ _, needs_len L, hlb, left4, Nat.le_refl _, g4, by omega, hr4⟩
          case round =>
            clear own4 left4 g4 hr4 hlb
            obtain ⟨t, O, lf, p', ht, rfl, hOl, hown, hsep, hll, hlb, hleft, hz, hg, hp', hr⟩ := hrel
            have hsq := hg.size
            have hO190 : O.length ≤ 190 := by omega
            have HOL := Lib.hid hOl
            clear hOl
            by_cases hlt : t < 190
            · have hlt' : (t : Int) < 190 := by omega
              go_wp2_with fail
              obtain ⟨w4, hw4⟩ : ∃ x, x = wr := ⟨_, rfl⟩
              rw [← hw4] at hown hleft hz hg hr hsq ⊢
              clear hw4
              go_loopw [12, 13, 14] (fun th mb i wq => ∃ (k2 : Nat) (TH : List Int) (m : Bool), k2 ≤ L.length ∧ i = .int .i64 k2 ∧ mb = .bool m ∧ TH.length ≤ k2 ∧ IO wq w4.heap.size th TH ∧ Hid (thOk L lf TH) ∧ Below w4.heap.size w4 wq) (fun _ _ i _ => L.length - (intOf i).toNat)
              case atStart => exact ⟨0, [], false, by omega, rfl, rfl, by simp, IO.empty w4 (Nat.le_refl _), (fun i hi => by simp at hi), by (repeat (first | exact rfl | exact Below.refl _ _ | (with_reducible refine Below.drew ?_) | (with_reducible refine Below.drewN ?_ _) | (with_reducible refine Below.alloc ?_ ?_ _) | (with_reducible refine Below.setCell ?_ ?_ _) | (show _ ≤ _; focus (first | omega | (simp; done) | (simp; omega)))))⟩
              case round =>
                obtain ⟨k2, TH, m, hk2, rfl, rfl, hthl, hth, HTH, hb2⟩ := hrel
                have hs2 := hb2.size
                have hg2 := grown_thenB hg (hb2.mono hsq)
                have left2 := hleft.below hb2 (Nat.le_refl _)
                by_cases hk2l : k2 < L.length
                · have hk2 : k2 < L.length := hk2l
                  obtain ⟨b, off, rfl, hlbk, hc⟩ := HA.out _ hg2 (by omega)
                  have c1 := (hc k2 hk2).1
                  obtain ⟨G', g', hu6, hg1, hG⟩ := left2.formG
                  rw [hll] at hu6 hG
                  injection hu6 with e1 e2 e3
                  subst e1
                  subst e3
                  obtain ⟨lb, rfl, hlb1, hlb2, hlc⟩ := hG (by omega)
                  have c2 := hlc k2 (by omega)
                  have p1 : (0 : Int) ≤ (k2 : Int) := by omega
                  have p2 : (k2 : Int) < (L.length : Int) := by omega
                  clear hc hlc e2 hg1 hG left2 hg2
                  cases m with
                  | false =>
                    by_cases hzd : 0 < Z lf k2 <;> by_cases hxd : X L k2 ≤ (t : Int)
                    · have dz : decide (0 < Z lf k2) = true := decide_eq_true hzd
                      have dx : decide (X L k2 ≤ (t : Int)) = true := decide_eq_true hxd
                      have HTH2 := Lib.hid (thOk_snoc HTH.out hk2 hzd)
                      have q5 : TH.length ≤ 1000000000000 := by omega
                      have HU := Lib.hid (And.intro q5 (And.intro hb2 hs2))
                      clear hzd hxd q5 hb2 hs2 HTH
                      go_wp2_with (refine app_I ?_ (.tmp 72) (.tmp 74) ?_ w4.heap.size u12 TH (k2 : Int) wr.heap.size ?_ ?_ ?_ ?_ ?_ ?_ ?_; rfl; rfl; rfl; exact (hth.alloc _); rfl; exact (heap_alloc_new _ _); exact HU.out.1; exact (Nat.le_trans HU.out.2.2 (by simp)); intro g7 cap w7 hown7 hgr7 hb7)
                      go_roundw
                      case rel => exact ⟨k2 + 1, TH ++ [(k2 : Int)], true, by omega, by go_num, rfl, by simp; omega, hown7, HTH2, (HU.out.2.1.trans (Below.alloc (Below.refl _ _) HU.out.2.2 _)).trans hb7⟩
                      case measure => simp [intOf]; omega
                    · have dz : decide (0 < Z lf k2) = true := decide_eq_true hzd
                      have dx : decide (X L k2 ≤ (t : Int)) = false := decide_eq_false hxd
                      clear hzd hxd
                      go_wp2_with fail
                      go_roundw
                      case rel => exact ⟨k2 + 1, TH, true, by omega, by go_num, rfl, by omega, hth, HTH, hb2⟩
                      case measure => simp [intOf]; omega
                    · have dz : decide (0 < Z lf k2) = false := decide_eq_false hzd
                      have dx : decide (X L k2 ≤ (t : Int)) = true := decide_eq_true hxd
                      clear hzd hxd
                      go_wp2_with fail
                      go_roundw
                      case rel => exact ⟨k2 + 1, TH, false, by omega, by go_num, rfl, by omega, hth, HTH, hb2⟩
                      case measure => simp [intOf]; omega
                    · have dz : decide (0 < Z lf k2) = false := decide_eq_false hzd
                      have dx : decide (X L k2 ≤ (t : Int)) = false := decide_eq_false hxd
                      clear hzd hxd
                      go_wp2_with fail
                      go_roundw
                      case rel => exact ⟨k2 + 1, TH, false, by omega, by go_num, rfl, by omega, hth, HTH, hb2⟩
                      case measure => simp [intOf]; omega
                  | true =>
                    by_cases hzd : 0 < Z lf k2 <;> by_cases hxd : X L k2 ≤ (t : Int)
                    · have dz : decide (0 < Z lf k2) = true := decide_eq_true hzd
                      have dx : decide (X L k2 ≤ (t : Int)) = true := decide_eq_true hxd
                      have HTH2 := Lib.hid (thOk_snoc HTH.out hk2 hzd)
                      have q5 : TH.length ≤ 1000000000000 := by omega
                      have HU := Lib.hid (And.intro q5 (And.intro hb2 hs2))
                      clear hzd hxd q5 hb2 hs2 HTH
                      go_wp2_with (refine app_I ?_ (.tmp 72) (.tmp 74) ?_ w4.heap.size u12 TH (k2 : Int) wr.heap.size ?_ ?_ ?_ ?_ ?_ ?_ ?_; rfl; rfl; rfl; exact (hth.alloc _); rfl; exact (heap_alloc_new _ _); exact HU.out.1; exact (Nat.le_trans HU.out.2.2 (by simp)); intro g7 cap w7 hown7 hgr7 hb7)
                      go_roundw
                      case rel => exact ⟨k2 + 1, TH ++ [(k2 : Int)], true, by omega, by go_num, rfl, by simp; omega, hown7, HTH2, (HU.out.2.1.trans (Below.alloc (Below.refl _ _) HU.out.2.2 _)).trans hb7⟩
                      case measure => simp [intOf]; omega
                    · have dz : decide (0 < Z lf k2) = true := decide_eq_true hzd
                      have dx : decide (X L k2 ≤ (t : Int)) = false := decide_eq_false hxd
                      clear hzd hxd
                      go_wp2_with fail
                      go_roundw
                      case rel => exact ⟨k2 + 1, TH, true, by omega, by go_num, rfl, by omega, hth, HTH, hb2⟩
                      case measure => simp [intOf]; omega
                    · have dz : decide (0 < Z lf k2) = false := decide_eq_false hzd
                      have dx : decide (X L k2 ≤ (t : Int)) = true := decide_eq_true hxd
                      clear hzd hxd
                      go_wp2_with fail
                      go_roundw
                      case rel => exact ⟨k2 + 1, TH, true, by omega, by go_num, rfl, by omega, hth, HTH, hb2⟩
                      case measure => simp [intOf]; omega
                    · have dz : decide (0 < Z lf k2) = false := decide_eq_false hzd
                      have dx : decide (X L k2 ≤ (t : Int)) = false := decide_eq_false hxd
                      clear hzd hxd
                      go_wp2_with fail
                      go_roundw
                      case rel => exact ⟨k2 + 1, TH, true, by omega, by go_num, rfl, by omega, hth, HTH, hb2⟩
                      case measure => simp [intOf]; omega
                · have hk2f : ¬ ((k2 : Int) < (L.length : Int)) := by omega
                  obtain rfl : k2 = L.length := by omega
                  obtain ⟨tA, tc, hu12, -, hTG⟩ := hth.formG
                  subst hu12
                  have own2 := hown.below hb2 (Nat.le_refl _)
                  have rd2 := hr.keepB hb2 hr.2.1 (by omega)
                  have hzW := Nat.le_trans hz hb2.size
                  have hsw4 := hg.size
                  clear hown hleft hr hg hb2 hz hsq hTG
                  cases m with
                  | false =>
                    go_wp2_with fail
                    go_meet
                    case rel => exact ⟨O, p', hO190, own2, hg2, by omega, rd2⟩
                  | true =>
                    go_upto_region 22 with fail
                    go_cut [92] from 39 to 114 (fun b wx => ∃ (bb : Bool) (p2 : Nat), b = .bool bb ∧ (bb = false → 0 < TH.length) ∧ IO wx w.heap.size u7 O ∧ IO wx w1.heap.size (.slice G L.length g) lf ∧ IO wx w4.heap.size (.slice tA TH.length tc) TH ∧ w3.heap.size ≤ wx.heap.size ∧ w.grownBy wx (some r) ∧ p2 ≤ p' + 1 ∧ Rd wx base r p2)
                    case first =>
                      by_cases hTH0 : TH.length = 0
                      · have hTHb : ((TH.length : Int) == 0) = true := beq_iff_eq.2 (by omega)
                        have HT0 := Lib.hid hTH0
                        clear hTH0
                        go_wp2_with fail
                        go_meet
                        case rel => exact ⟨true, p', rfl, (fun h => by cases h), own2, left2, hth, hzW, hg2, by omega, rd2⟩
                      · have hTHb : ((TH.length : Int) == 0) = false := beq_eq_false_iff_ne.2 (by omega)
                        cases ib with
                        | false =>
                          go_wp2_with fail
                          go_meet
                          case rel => exact ⟨false, p', rfl, (fun _ => by omega), own2, left2, hth, hzW, hg2, by omega, rd2⟩
                        | true =>
                          by_cases h100 : (t : Int) < 100
                          · go_wp2_with fail
                            ((with_reducible refine (c_pickI base r p' 8 _ rd2 (by omega) (by omega) (by omega)).mono ?_))
                            rintro e wx ⟨xx, hxx, rfl, hgx, hrx⟩
                            have ownx := own2.grownR hgx (fun rr e => by cases e; exact hrw)
                            have leftx := left2.grownR hgx (fun rr e => by cases e; omega)
                            have thx := hth.grownR hgx (fun rr e => by cases e; omega)
                            have gx := hg2.trans hgx
                            have hzX := Nat.le_trans hzW hgx.size
                            clear own2 left2 hg2 hgx rd2 hth
                            go_wp2_with fail
                            go_meet
                            case rel => exact ⟨_, p' + 1, rfl, (fun _ => by omega), ownx, leftx, thx, hzX, gx, by omega, hrx⟩
                          · have h100' : decide ((t : Int) < 100) = false := decide_eq_false h100
                            clear h100
                            go_wp2_with fail
                            go_meet
                            case rel => exact ⟨false, p', rfl, (fun _ => by omega), own2, left2, hth, hzW, hg2, by omega, rd2⟩
                    case rest =>
                      clear own2 left2 hg2 rd2 hth hzW
                      obtain ⟨bb, p2, rfl, hbb, own2, left2, hth, hzW, hg2, hp2, rd2⟩ := hcut
                      cases bb with
                      | true =>
                        clear hth
                        have hnew : ((wc).alloc (.cells #[.int .i64 (-1)] 3)).heap[wc.heap.size]? = some (.cells #[.int .i64 (-1)] 3 (0, 0)) := by
                          have := heap_alloc_new (wc) (.cells #[.int .i64 (-1)] 3)
                          rwa [show (wc).heap.size = wc.heap.size by first | rfl | simp [World.setCell]] at this
                        have HNEW := Lib.hid hnew
                        clear hnew
                        have q5 : O.length ≤ 1000000000000 := by omega
                        have hal : Below (wc).heap.size wc ((wc).alloc (.cells #[.int .i64 (-1)] 3)) := (Below.refl _ _).alloc (Nat.le_refl _) _
                        have HU := Lib.hid (And.intro q5 (And.intro hal (And.intro left2 (And.intro hg2 (And.intro rd2 hzW)))))
                        have HOWN := Lib.hid own2
                        clear q5 hal
                        go_wp2_with (refine app_IS ?_ (.tmp 93) (.tmp 94) ?_ w.heap.size u7 O (-1) (wc.heap.size) ?_ ?_ ?_ ?_ ?_ ?_ w.heap.size w3.heap.size wc ?_ ?_ ?_ ?_; rfl; rfl; rfl; exact (HOWN.out.alloc _); rfl; exact HNEW.out; exact HU.out.1; exact (Nat.le_trans HU.out.2.2.2.1.size (by simp)); exact hsep.out; exact ((Mid.refl _ _ _).below HU.out.2.1 HU.out.2.2.2.2.2); exact (Nat.le_trans HU.out.2.2.2.2.2 (by simp)); intro g7 cap w7 hown7 hb70 hsep7 hmid7)
                        obtain ⟨-, hal, hleftW, hgW, hrW, hzW⟩ := HU.out
                        have hz7 := hb70.size
                        have hsW := hgW.size
                        have left7 := hleftW.mid hmid7 HLR.out
                        have hbb : Below w.heap.size wc w7 := (hal.mono hsW).trans hb70
                        go_roundw
                        case rel => exact ⟨t + 1, O ++ [-1], lf, p2, by omega, by go_num, by simp [HOL.out], hown7, hsep7, hll, hlb.out, left7, Nat.le_trans hzW hbb.size, grown_thenB hgW hbb, by omega, hrW.keepB hbb hrw (by omega)⟩
                        case measure => simp [intOf]; omega
                      | false =>
                        have hTHp := hbb rfl
                        obtain ⟨tA', tc', etA, -, hTG⟩ := hth.formG
                        injection etA with e1 e2 e3
                        subst e1
                        subst e3
                        obtain ⟨tb, rfl, htb1, htb2, -⟩ := hTG hTHp
                        clear hTG e2 hbb
                        go_wp2_with fail
                        ((with_reducible refine (c_pickI base r (p2) (TH.length : Int) _ rd2 (by omega) (by omega) (by omega)).mono ?_))
                        rintro e w8 ⟨x8, hx8, rfl, hg8, hr8⟩
                        have own8 := own2.grownR hg8 (fun rr e => by cases e; exact hrw)
                        have left8 := left2.grownR hg8 (fun rr e => by cases e; omega)
                        have th8 := hth.grownR hg8 (fun rr e => by cases e; omega)
                        have g8 := hg2.trans hg8
                        have hz8 := Nat.le_trans hzW hg8.size
                        have hsz8 := g8.size
                        obtain ⟨q, hq, hqL, hqz⟩ := HTH.out x8 (by omega)
                        obtain ⟨G', g', hu6, hg1, hG⟩ := left8.formG
                        rw [hll] at hu6 hG
                        injection hu6 with e1 e2 e3
                        subst e1
                        subst e3
                        obtain ⟨lb, rfl, hlb1, hlb2, hlc⟩ := hG (by omega)
                        have c5 := th8.cells.2.1 x8 (by omega)
                        rw [hq] at c5
                        have c6 := left8.cells.2.1 q (by omega)
                        have f6 := left8.cells.2.2 q
                        have hlbq := hlb.out q hqL
                        have ez : IntKind.i64.wrap (Z lf q - 1) = Z lf q - 1 := IntWalk.i64_in _ (by omega)
                        have left9 := left8.store q (Z lf q - 1)
                        have hlr := HLR.out lb (by simp [Value.ownBlock])
                        have hg9 := grown_set w8 lb q (.int .i64 (Z lf q - 1))
                        have own9 := own8.grownR' hg9 (fun rr e q => by have h1 := hsep.out rr e; injection q with q; omega)
                        have g9 := grown_trans_row g8 hg9 (by omega)
                        have rd9 := hr8.rowOther hg9 (by omega) (by omega)
                        have hzW9 : w3.heap.size ≤ (w8.setCell ⟨lb, q, none⟩ (.int .i64 (Z lf q - 1))).heap.size := by simp [World.setCell]; exact hz8
                        have hllX : (lf.set q (Z lf q - 1)).length = L.length := by rw [List.length_set]; exact hll
                        have hlbX : ∀ k, k < L.length → 0 ≤ Z (lf.set q (Z lf q - 1)) k ∧ Z (lf.set q (Z lf q - 1)) k ≤ 9 := fun k hk => by
                          rw [Z_set (by omega)]
                          split
                          · omega
                          · exact hlb.out k hk
                        have HLX := Lib.hid (And.intro hllX hlbX)
                        have pp1 : (0 : Int) ≤ (x8 : Int) := by omega
                        have pp2 : (q : Int) < (L.length : Int) := by omega
                        have pp3 : (0 : Int) ≤ (q : Int) := by omega
                        clear hq hqz hg1 hG e2 hlc left8 own8 g8 hr8 hg8 th8 hg9 hllX hlbX hlbq
                        have hnew : (((w8.setCell ⟨lb, q, none⟩ (.int .i64 (Z lf q - 1)))).alloc (.cells #[.int .i64 ((q : Int))] 3)).heap[w8.heap.size]? = some (.cells #[.int .i64 ((q : Int))] 3 (0, 0)) := by
                          have := heap_alloc_new ((w8.setCell ⟨lb, q, none⟩ (.int .i64 (Z lf q - 1)))) (.cells #[.int .i64 ((q : Int))] 3)
                          rwa [show ((w8.setCell ⟨lb, q, none⟩ (.int .i64 (Z lf q - 1)))).heap.size = w8.heap.size by first | rfl | simp [World.setCell]] at this
                        have HNEW := Lib.hid hnew
                        clear hnew
                        have q5 : O.length ≤ 1000000000000 := by omega
                        have hal : Below ((w8.setCell ⟨lb, q, none⟩ (.int .i64 (Z lf q - 1)))).heap.size (w8.setCell ⟨lb, q, none⟩ (.int .i64 (Z lf q - 1))) (((w8.setCell ⟨lb, q, none⟩ (.int .i64 (Z lf q - 1)))).alloc (.cells #[.int .i64 ((q : Int))] 3)) := (Below.refl _ _).alloc (Nat.le_refl _) _
                        have HU := Lib.hid (And.intro q5 (And.intro hal (And.intro left9 (And.intro g9 (And.intro rd9 hzW9)))))
                        have HOWN := Lib.hid own9
                        clear q5 hal
                        go_wp2_with (refine app_IS ?_ (.tmp 111) (.tmp 113) ?_ w.heap.size u7 O ((q : Int)) (w8.heap.size) ?_ ?_ ?_ ?_ ?_ ?_ w.heap.size w3.heap.size (w8.setCell ⟨lb, q, none⟩ (.int .i64 (Z lf q - 1))) ?_ ?_ ?_ ?_; rfl; rfl; rfl; exact (HOWN.out.alloc _); rfl; exact HNEW.out; exact HU.out.1; exact (Nat.le_trans HU.out.2.2.2.1.size (by simp)); exact hsep.out; exact ((Mid.refl _ _ _).below HU.out.2.1 HU.out.2.2.2.2.2); exact (Nat.le_trans HU.out.2.2.2.2.2 (by simp)); intro g7 cap w7 hown7 hb70 hsep7 hmid7)
                        obtain ⟨-, hal, hleftW, hgW, hrW, hzW⟩ := HU.out
                        have hz7 := hb70.size
                        have hsW := hgW.size
                        have left7 := hleftW.mid hmid7 HLR.out
                        have hbb : Below w.heap.size (w8.setCell ⟨lb, q, none⟩ (.int .i64 (Z lf q - 1))) w7 := (hal.mono hsW).trans hb70
                        go_roundw
                        case rel => exact ⟨t + 1, O ++ [(q : Int)], _, p2 + 1, by omega, by go_num, by simp [HOL.out], hown7, hsep7, HLX.out.1, HLX.out.2, left7, Nat.le_trans hzW hbb.size, grown_thenB hgW hbb, by omega, hrW.keepB hbb hrw (by omega)⟩
                        case measure => simp [intOf]; omega
            · have hlf2 : ¬ ((t : Int) < 190) := by omega
              go_wp2_with fail
              go_meet
              case rel => exact ⟨O, p', hO190, hown, hg, by omega, hr⟩
        case rest =>
          clear own4 left4 g4 hr4 hlb
          obtain ⟨O, p2, hO190, own2, hg2, hp2, rd2⟩ := hcut
          go_wp2_with fail
          obtain ⟨oA, oc, rfl, hoc, hocm, hoI⟩ := own2.form
          ((with_reducible refine (c_odd base r (p2) n _ rd2 (by omega) hn1 hn2).mono ?_))
          rintro e w8 ⟨bo, rfl, hg8, hr8⟩
          have own8 := own2.grownR hg8 (fun rr e => by cases e; exact hrw)
          have g8 := hg2.trans hg8
          have hsz8 := g8.size
          clear hg8 hoI
          cases bo with
          | false =>
            go_wp2_with fail
            go_ret
            exact ⟨O, _, _, rfl, (own8.isN hrw), by omega, hoc, g8, _, by omega, hr8⟩
          | true =>
            by_cases hO0 : O.length = 0
            · have hO0' : ((O.length : Int)) = 0 := by omega
              go_wp2_with fail
              go_ret
              exact ⟨O, _, _, by rw [hO0]; rfl, (own8.isN hrw), by omega, hoc, g8, _, by omega, hr8⟩
            · have hOp : 0 < (O.length : Int) := by omega
              go_wp2_with fail
              ((with_reducible refine (c_pickI base r (p2 + 1) _ _ hr8 (by omega) (by omega) (by omega)).mono ?_))
              rintro e w9 ⟨x9, hx9, rfl, hg9, hr9⟩
              have own9 := own8.grownR hg9 (fun rr e => by cases e; exact hrw)
              have g9 := g8.trans hg9
              have hsz9 := g9.size
              clear own8 g8 hg9 hr8
              obtain ⟨oA', oc', eo, -, hoG⟩ := own9.formG
              injection eo with e1 e2 e3
              subst e1
              subst e3
              obtain ⟨ob, rfl, hob1, hob2, hobc⟩ := hoG (by omega)
              clear hobc e2 hoG
              rcases (show x9 = 0 ∨ x9 = 1 ∨ x9 = 2 by omega) with rfl | rfl | rfl
              · go_wp2_with fail
                · go_ret
                  have e1 : O.length = 1 := by omega
                  exact ⟨[], _, _, by rw [e1]; rfl, (fun h => absurd h (by simp)), by simp, by simp, g9, _, by omega, hr9⟩
                go_ret
                cases O with
                | nil => exact absurd rfl hO0
                | cons y ys => exact ⟨ys, some ⟨ob, 0 + 1, none⟩, oc - 1, by simp, (own9.isN hrw).tail, by simp at hO190; omega, by simp at hoc ⊢; omega, g9, _, by omega, hr9⟩
              · go_wp2_with fail
                ((with_reducible refine (c_pickI base r (p2 + 1 + 1) (O.length : Int) _ hr9 (by omega) (by omega) (by omega)).mono ?_))
                rintro e wa ⟨xa, hxa, rfl, hga, hra⟩
                have owna := own9.grownR hga (fun rr e => by cases e; exact hrw)
                have ga := g9.trans hga
                have hsza := ga.size
                clear own9 g9 hga hr9
                go_wp2_with fail
                ((with_reducible refine (c_pickI base r (p2 + 1 + 1 + 1) _ _ hra (by omega) (by omega) (by omega)).mono ?_))
                rintro e wb ⟨xb, hxb, rfl, hgb, hrb⟩
                have ownb := owna.grownR hgb (fun rr e => by cases e; exact hrw)
                have gb := ga.trans hgb
                have hszb := gb.size
                have cb := ownb.cells.2.1 xa (by omega)
                have fb := ownb.cells.2.2 xa
                have q1 : (0 : Int) ≤ (xa : Int) := by omega
                have ownc := ownb.store xa ((xb : Int) - 1)
                have hgc := grown_set wb ob xa (.int .i64 ((xb : Int) - 1))
                have gc := grown_trans_row gb hgc (by omega)
                have rdc := hrb.rowOther hgc (by omega) (by omega)
                have HX := Lib.hid (And.intro ownc (And.intro gc rdc))
                clear owna ga hgb hra ownc hgc gc rdc ownb
                go_wp2_with fail
                go_ret
                exact ⟨O.set xa ((xb : Int) - 1), _, _, by rw [List.length_set]; rfl, (HX.out.1.isN hrw), by rw [List.length_set]; omega, by rw [List.length_set]; exact hoc, HX.out.2.1, _, by omega, HX.out.2.2⟩
              · have q5 : O.length ≤ 1000000000000 := by omega
                go_wp2_with (refine app_I ?_ (.tmp 125) (.tmp 126) ?_ w.heap.size (.slice (some ⟨ob, 0, none⟩) O.length oc) O 0 w9.heap.size ?_ ?_ ?_ ?_ ?_ ?_ ?_; rfl; rfl; rfl; exact (own9.alloc _); rfl; exact (heap_alloc_new _ _); exact q5; exact (Nat.le_trans hsz9 (by simp)); intro g7 cap w7 hown7 hgr7 hb7)
                have hb7' : Below w.heap.size w9 w7 := Below.trans (by (repeat (first | exact rfl | exact Below.refl _ _ | (with_reducible refine Below.drew ?_) | (with_reducible refine Below.drewN ?_ _) | (with_reducible refine Below.alloc ?_ ?_ _) | (with_reducible refine Below.setCell ?_ ?_ _) | (show _ ≤ _; focus (first | omega | (simp; done) | (simp; omega)))))) hb7
                go_ret
                obtain ⟨A7, c7, e7, hc7, -, hI7⟩ := hown7.form
                rw [List.length_append] at e7 hc7
                injection e7 with e1 e2 e3
                refine ⟨O ++ [0], _, _, by rw [List.length_append]; rfl, (hown7.isN hrw), by simp; omega, by simp at hc7 ⊢; omega, grown_thenB g9 hb7', _, by omega, hr9.keepB hb7' hrw (by omega)⟩
  · have H := Lib.hid (show cOk L = false by simpa using hok)
    clear hok
    go_enter Try.func70, Try.ntmps70
    go_wp2_with fail
    refine (c_sCustomersOk L A c _ ((hA0.below HB0.out).more HB0.out.size) (by omega)).mono ?_
    rintro e w1 ⟨rfl, hb1⟩
    rw [H.out]
    have hbx := HB0.out.trans (hb1.mono HB0.out.size)
    go_wp2_with fail
    go_ret
    refine ⟨[0], _, 1, rfl, ?_, by simp, by simp, grown_below (hbx.alloc hbx.size _) (Nat.le_refl _), p, by omega, h.keepB (hbx.alloc hbx.size _) hrw (by omega)⟩
    intro _
    refine ⟨w1.heap.size, 0, rfl, by simp, by have := hbx.size; omega, fun k hk => ?_⟩
    obtain rfl : k = 0 := by simpa using hk
    have hz := heap_alloc_new w1 (.cells #[.int .i64 0] 3)
    simp [cell_of_row _ w1.heap.size 0 _ _ _ hz, Z]

end Go.Proofs.Ytecoefjkobpbgaa

