/- Chapter 7's functions of the program, first part: Task.ok, TasksOk; EachOnce; asListed, exchange, Clone, SwappedAt. -/
import Derived.Test.YtckebkaaokfonaaA
import Derived.Test.YtckebkaaokfonaaK16
namespace Go.Proofs.Ytckebkaaokfonaa
set_option linter.unusedVariables false
open Go.RowKit
attribute [local go_sem ↓] Go.wp_at_zero Go.wp_at_succ

def tokB (x y : Int) : Bool := decide (1 ≤ x ∧ x ≤ 9) && decide (0 ≤ y ∧ y ≤ 9)
theorem tokB_iff {x y : Int} : tokB x y = true ↔ (1 ≤ x ∧ x ≤ 9) ∧ 0 ≤ y ∧ y ≤ 9 := by simp [tokB]

set_option maxHeartbeats 400000 in
theorem c_taskOk (x y : Int) (w : World) :
    Calls Try.prog 49 #[.agg #[.int .i64 x, .int .i64 y]] w fun e w' => e = .returned (.bool (tokB x y)) ∧ Below w.heap.size w w' := by
  by_cases h1 : 1 ≤ x ∧ x ≤ 9
  · have h1' : decide (1 ≤ x ∧ x ≤ 9) = true := by simpa using h1
    go_enter Try.func49, Try.ntmps49
    go_wp2_with (go_at_call 46; refine (c_within _ _ _ _).mono ?_; rintro e w' ⟨rfl, rfl⟩)
    go_ret
    exact ⟨by simp [tokB, h1], (Below.refl _ _).alloc (Nat.le_refl _) _⟩
  · have h1' : decide (1 ≤ x ∧ x ≤ 9) = false := by simpa using h1
    go_enter Try.func49, Try.ntmps49
    go_wp2_with (go_at_call 46; refine (c_within _ _ _ _).mono ?_; rintro e w' ⟨rfl, rfl⟩)
    go_ret
    exact ⟨by simp [tokB, h1], (Below.refl _ _).alloc (Nat.le_refl _) _⟩

set_option maxHeartbeats 400000 in
theorem c_taskNot (x y : Int) (w : World) :
    Calls Try.prog 48 #[.agg #[.int .i64 x, .int .i64 y]] w fun e w' => e = .returned (.bool (!tokB x y)) ∧ Below w.heap.size w w' := by
  go_enter Try.func48, Try.ntmps48
  go_wp2_with fail
  refine (c_taskOk _ _ _).mono ?_
  rintro e w' ⟨rfl, hb1⟩
  go_wp2_with fail
  go_ret
  exact ⟨rfl, ((Below.refl w.heap.size w).alloc (Nat.le_refl _) _).trans (hb1.mono (by simp))⟩

set_option maxHeartbeats 2000000 in
theorem c_indexTask (L : List (Int × Int)) (A : Option Addr) (c : Nat) (w : World) (hA : Cs w w.heap.size A L) (hn : L.length ≤ 140737488351232) :
    Calls Try.prog 67 #[.slice A L.length c, .func (.func 48) #[] #[]] w fun e w' => (∃ i : Int, e = .returned (.int .i64 i) ∧ decide (0 ≤ i) = !tOkTo L L.length) ∧ Below w.heap.size w w' := by
  go_enter Try.func67, Try.ntmps67
  go_wp2_with fail
  go_loopw [8] (fun i wr => ∃ k : Nat, k ≤ L.length ∧ i = .int .i64 k ∧ Hid (tOkTo L k = true) ∧ Below w.heap.size w wr) (fun i _ => L.length - (intOf i).toNat)
  case atStart => exact ⟨0, by omega, rfl, rfl, Below.refl _ _⟩
  case round =>
    obtain ⟨k, hk, rfl, HN, hb⟩ := hrel
    have hsz := hb.size
    by_cases hlt : k < L.length
    · obtain ⟨b, off, rfl, hlb, hc⟩ := hA (by omega)
      have c1 := (hb.cell (p := ⟨b, off + k * 2, none⟩) hlb).trans (hc k hlt).1
      have c2 := (hb.cell (p := ⟨b, off + k * 2 + 1, none⟩) hlb).trans (hc k hlt).2
      have p1 : (0 : Int) ≤ (k : Int) := by omega
      have p2 : (k : Int) < (L.length : Int) := by omega
      clear hc
      cases hz : tokB (X L k) (Y L k) with
      | false =>
        have HB := Lib.hid (show decide ((0 : Int) ≤ (k : Int)) = !tOkTo L L.length by
          cases h : tOkTo L L.length with
          | true => have := tokB_iff.2 (tOkTo_iff.1 h k hlt); rw [hz] at this; cases this
          | false => simp)
        have HZ := Lib.hid hz
        clear hz
        go_wp2_with fail
        refine (c_taskNot _ _ _).mono ?_
        rintro e w1 ⟨rfl, hb1⟩
        rw [HZ.out]
        go_wp2_with fail
        go_ret
        exact ⟨⟨_, rfl, HB.out⟩, hb.trans (hb1.mono hsz)⟩
      | true =>
        have HB := Lib.hid (show tOkTo L (k + 1) = true by have h := tokB_iff.1 hz; exact tOkTo_step HN.out h.1 h.2)
        have HZ := Lib.hid hz
        clear hz
        go_wp2_with fail
        refine (c_taskNot _ _ _).mono ?_
        rintro e w1 ⟨rfl, hb1⟩
        rw [HZ.out]
        go_wp2_with fail
        go_roundw
        case rel => exact ⟨k + 1, by omega, by go_num, HB, hb.trans (hb1.mono hsz)⟩
        case measure => simp [intOf]; omega
    · have hlf : ¬ ((k : Int) < (L.length : Int)) := by omega
      obtain rfl : k = L.length := by omega
      go_wp2_with fail
      go_ret
      exact ⟨⟨_, rfl, by rw [HN.out]; rfl⟩, hb⟩

theorem c_containsTask (L : List (Int × Int)) (A : Option Addr) (c : Nat) (w : World) (hA : Cs w w.heap.size A L) (hn : L.length ≤ 140737488351232) :
    Calls Try.prog 47 #[.slice A L.length c, .func (.func 48) #[] #[]] w fun e w' => e = .returned (.bool (!tOkTo L L.length)) ∧ Below w.heap.size w w' := by
  go_enter Try.func47, Try.ntmps47
  go_wp2_with fail
  refine (c_indexTask L A c w hA hn).mono ?_
  rintro e w1 ⟨⟨i, rfl, hi⟩, hb1⟩
  go_wp2_with fail
  go_ret
  rw [← hi]
  exact ⟨rfl, hb1⟩

set_option maxHeartbeats 1000000 in
theorem c_iTasksOk (L : List (Int × Int)) (A : Option Addr) (c : Nat) (w : World) (hA : Cs w w.heap.size A L) (hn : L.length ≤ 140737488351232) :
    Calls Try.prog 16 #[.slice A L.length c] w fun e w' => e = .returned (.bool (tOk L)) ∧ Below w.heap.size w w' := by
  have HC := Lib.hid (c_containsTask L A c w hA hn)
  have hv : tOk L = (tOkTo L L.length && decide (1 ≤ (L.length : Int) ∧ (L.length : Int) ≤ 6)) := rfl
  by_cases h1 : 1 ≤ (L.length : Int) ∧ (L.length : Int) ≤ 6
  · rw [decide_eq_true h1, Bool.and_true] at hv
    have HV := Lib.hid hv
    have HD := Lib.hid (decide_eq_true h1)
    clear hv h1
    go_enter Try.func16, Try.ntmps16
    go_wp2_with fail
    refine (c_within _ _ _ _).mono ?_
    rintro e w' ⟨rfl, rfl⟩
    rw [HD.out]
    go_wp2_with fail
    refine HC.out.mono ?_
    rintro e w' ⟨rfl, hb1⟩
    go_wp2_with fail
    go_ret
    exact ⟨by rw [HV.out]; rfl, hb1⟩
  · rw [decide_eq_false h1, Bool.and_false] at hv
    have HV := Lib.hid hv
    have HD := Lib.hid (decide_eq_false h1)
    clear hv h1 HC
    go_enter Try.func16, Try.ntmps16
    go_wp2_with fail
    refine (c_within _ _ _ _).mono ?_
    rintro e w' ⟨rfl, rfl⟩
    rw [HD.out]
    go_wp2_with fail
    go_ret
    exact ⟨by rw [HV.out]; rfl, Below.refl _ _⟩
/-! EachOnce -/
theorem eachTo_has {o : List Int} {n : Int} {k : Nat} (h : eachTo o n k = true) (hr : 0 ≤ Z o k ∧ Z o k ≤ n - 1) : eachTo o n (k + 1) = !hasN o (Z o k) k := by
  have e : newAt o k k = !hasN o (Z o k) k := by
    cases hh : hasN o (Z o k) k with
    | true =>
      obtain ⟨i, hi, he⟩ := hasN_iff.1 hh
      cases hn : newAt o k k with
      | false => rfl
      | true => exact absurd he (newAt_iff.1 hn i hi)
    | false =>
      refine newAt_iff.2 (fun i hi he => ?_)
      rw [hasN_iff.2 ⟨i, hi, he⟩] at hh; cases hh
  simp only [eachTo, h, e, decide_eq_true hr, Bool.true_and]
theorem eachTo_mono {o : List Int} {n : Int} {k j : Nat} (hj : k ≤ j) (h : eachTo o n k = false) : eachTo o n j = false := by
  cases e : eachTo o n j with
  | false => rfl
  | true => rw [eachTo_iff.2 (fun i hi => eachTo_iff.1 e i (by omega))] at h; cases h

set_option maxRecDepth 4000 in
set_option maxHeartbeats 4000000 in
theorem c_iEachOnce (o : List Int) (O : Option Addr) (d : Nat) (n : Int) (w : World) (hO : Is w w.heap.size O o) (ho : o.length ≤ 140737488351232) :
    Calls Try.prog 20 #[.slice O o.length d, .int .i64 n] w fun e w' => e = .returned (.bool (eachV o n)) ∧ Below w.heap.size w w' := by
  have hv : eachV o n = (eachTo o n o.length && (decide (1 ≤ n ∧ n ≤ 6) && decide ((o.length : Int) = n))) := rfl
  by_cases h1 : 1 ≤ n ∧ n ≤ 6
  · have HD := Lib.hid (decide_eq_true h1)
    rw [decide_eq_true h1, Bool.true_and] at hv
    by_cases h2 : (o.length : Int) = n
    · rw [decide_eq_true h2, Bool.and_true] at hv
      have HV := Lib.hid hv
      have hne : ((o.length : Int) != n) = false := by simp [h2]
      have H1 := Lib.hid h1
      have H2 := Lib.hid h2
      have HK := Lib.hid (fun k W => c_within (Z o k) 0 (n - 1) W)
      have hw : IntKind.i64.wrap (n - 1) = n - 1 := IntWalk.i64_in _ (by omega)
      clear hv h1 h2
      go_enter Try.func20, Try.ntmps20
      go_wp2_with fail
      refine (c_within _ _ _ _).mono ?_
      rintro e w' ⟨rfl, rfl⟩
      rw [HD.out]
      go_wp2_with fail
      go_loopw [19] (fun i wr => ∃ k : Nat, k ≤ o.length ∧ i = .int .i64 k ∧ Hid (eachTo o n k = true) ∧ Hid (∀ i : Nat, i < 6 → wr.cell? ⟨w.heap.size, i, none⟩ = some (.bool (hasN o i k)) ∧ wr.frozen? ⟨w.heap.size, i, none⟩ = false) ∧ Below w.heap.size w wr ∧ w.heap.size < wr.heap.size) (fun i _ => o.length - (intOf i).toNat)
      case atStart =>
        refine ⟨0, by omega, rfl, rfl, ?_, by (repeat (first | exact rfl | exact Below.refl _ _ | (with_reducible refine Below.drew ?_) | (with_reducible refine Below.drewN ?_ _) | (with_reducible refine Below.alloc ?_ ?_ _) | (with_reducible refine Below.setCell ?_ ?_ _) | (show _ ≤ _; focus (first | omega | (simp; done) | (simp; omega))))), by simp⟩
        intro i hi
        have hn := heap_alloc_new w (.cells #[.bool false, .bool false, .bool false, .bool false, .bool false, .bool false] 63)
        rcases (show i = 0 ∨ i = 1 ∨ i = 2 ∨ i = 3 ∨ i = 4 ∨ i = 5 by omega) with rfl | rfl | rfl | rfl | rfl | rfl
        all_goals exact ⟨by simp only [World.cell?, hn, hasN]; rfl, by simp only [World.frozen?, hn]; rfl⟩
      case round =>
        obtain ⟨k, hk, rfl, HE, HS, hb, hsz⟩ := hrel
        by_cases hlt : k < o.length
        · obtain ⟨b, off, rfl, hlb, hc⟩ := hO (by omega)
          have c1 := (hb.cell (p := ⟨b, off + k, none⟩) hlb).trans (hc k hlt)
          clear hc
          by_cases hr : 0 ≤ Z o k ∧ Z o k ≤ n - 1
          · have HR := Lib.hid (decide_eq_true hr)
            have HN := Lib.hid (eachTo_has HE.out hr)
            obtain ⟨z, hz⟩ : ∃ z : Nat, Z o k = (z : Int) := ⟨(Z o k).toNat, by omega⟩
            have hz6 : z < 6 := by have := H1.out; omega
            obtain ⟨d1, d2⟩ := HS.out z hz6
            have z1 : (0 : Int) ≤ (z : Int) := by omega
            have z2 : (z : Int) < 6 := by omega
            rw [hz] at c1 HR HN
            have HKK := Lib.hid (fun W => by have K := HK.out k W; rw [hz] at K; exact K)
            cases hh : hasN o (z : Int) k with
            | true =>
              rw [hh] at HN d1
              have HB := Lib.hid (eachTo_mono (j := o.length) (by omega) HN.out)
              clear hr hh hz
              go_wp2_with fail
              refine (HKK.out _).mono ?_
              rintro e w' ⟨rfl, rfl⟩
              rw [HR.out]
              go_wp2_with fail
              go_ret
              exact ⟨by rw [HV.out, HB.out]; rfl, hb⟩
            | false =>
              rw [hh] at HN d1
              have HT : Hid (∀ i : Nat, i < 6 → (wr.setCell ⟨w.heap.size, z, none⟩ (.bool true)).cell? ⟨w.heap.size, i, none⟩ = some (.bool (hasN o i (k + 1))) ∧ (wr.setCell ⟨w.heap.size, z, none⟩ (.bool true)).frozen? ⟨w.heap.size, i, none⟩ = false) := by
                intro i hi
                obtain ⟨e1, e2⟩ := HS.out i hi
                refine ⟨?_, by rw [World.frozen?_setCell]; exact e2⟩
                by_cases ei : i = z
                · subst ei
                  rw [World.cell?_setCell_same' _ _ _ (by rw [e1]; rfl)]
                  simp [hasN, hz]
                · rw [World.cell?_setCell_other]
                  · rw [e1]
                    have : decide (Z o k = (i : Int)) = false := decide_eq_false (by omega)
                    simp [hasN, this]
                  · intro e; injection e with _ e2 _; omega
              have hb2 : Below w.heap.size w (wr.setCell ⟨w.heap.size, z, none⟩ (.bool true)) := hb.setCell (p := ⟨w.heap.size, z, none⟩) (Nat.le_refl _) _
              have hz2 : w.heap.size < (wr.setCell ⟨w.heap.size, z, none⟩ (.bool true)).heap.size := by simpa [World.setCell] using hsz
              have HB2 := Lib.hid hb2
              have HZ2 := Lib.hid hz2
              clear hr hh hz hb2 hz2
              go_wp2_with fail
              refine (HKK.out _).mono ?_
              rintro e w' ⟨rfl, rfl⟩
              rw [HR.out]
              go_wp2_with fail
              go_roundw
              case rel => exact ⟨k + 1, by omega, by go_num, HN, HT, HB2.out, HZ2.out⟩
              case measure => simp [intOf]; omega
          · have HR := Lib.hid (decide_eq_false hr)
            have HB := Lib.hid (eachTo_mono (o := o) (n := n) (k := k + 1) (j := o.length) (by omega) (by simp [eachTo, hr]))
            clear hr
            go_wp2_with fail
            refine (HK.out _ _).mono ?_
            rintro e w' ⟨rfl, rfl⟩
            rw [HR.out]
            go_wp2_with fail
            go_ret
            exact ⟨by rw [HV.out, HB.out]; rfl, hb⟩
        · have hlf : ¬ ((k : Int) < (o.length : Int)) := by omega
          obtain rfl : k = o.length := by omega
          go_wp2_with fail
          go_ret
          exact ⟨by rw [HV.out, HE.out]; rfl, hb⟩
    · rw [decide_eq_false h2, Bool.and_false] at hv
      have HV := Lib.hid hv
      have hne : ((o.length : Int) != n) = true := by simp [h2]
      clear hv h1 h2
      go_enter Try.func20, Try.ntmps20
      go_wp2_with fail
      refine (c_within _ _ _ _).mono ?_
      rintro e w' ⟨rfl, rfl⟩
      rw [HD.out]
      go_wp2_with fail
      go_ret
      exact ⟨by rw [HV.out]; rfl, Below.refl _ _⟩
  · rw [decide_eq_false h1, Bool.false_and, Bool.and_false] at hv
    have HV := Lib.hid hv
    have HD := Lib.hid (decide_eq_false h1)
    clear hv h1
    go_enter Try.func20, Try.ntmps20
    go_wp2_with fail
    refine (c_within _ _ _ _).mono ?_
    rintro e w' ⟨rfl, rfl⟩
    rw [HD.out]
    go_wp2_with fail
    go_ret
    exact ⟨by rw [HV.out]; rfl, Below.refl _ _⟩


/-! rows that are exchanged in place -/
/-- the row with two places exchanged -/
def exL (o : List Int) (a b : Nat) : List Int := (o.set a (Z o b)).set b (Z o a)
theorem exL_len (o : List Int) (a b : Nat) : (exL o a b).length = o.length := by simp [exL]
theorem exL_swap (o : List Int) (k : Nat) : exL o k (k + 1) = swapL o k := rfl
theorem exL_Z {o : List Int} {a b : Nat} (ha : a < o.length) (hb : b < o.length) (i : Nat) : Z (exL o a b) i = if b = i then Z o a else if a = i then Z o b else Z o i := by
  unfold exL
  rw [Z_set (by simp; exact hb), Z_set ha]

set_option maxHeartbeats 1000000 in
theorem c_exchange (o : List Int) (G : Nat) (g a b base : Nat) (w : World) (hown : IO w base (.slice (some ⟨G, 0, none⟩) o.length g) o) (ha : a < o.length) (hb : b < o.length) (ho : o.length ≤ 1000000) :
    Calls Try.prog 57 #[.slice (some ⟨G, 0, none⟩) o.length g, .int .i64 (a : Int), .int .i64 (b : Int)] w fun e w' => (∃ r, e = .returned r) ∧ IO w' base (.slice (some ⟨G, 0, none⟩) o.length g) (exL o a b) ∧ w.grownBy w' (some G) := by
  have hc := hown.cells
  have ca := hc.2.1 a ha
  have cb := hc.2.1 b hb
  have fa := hc.2.2 a
  have fb := hc.2.2 b
  have p1 : (0 : Int) ≤ (a : Int) := by omega
  have p2 : (a : Int) < (o.length : Int) := by omega
  have p3 : (0 : Int) ≤ (b : Int) := by omega
  have p4 : (b : Int) < (o.length : Int) := by omega
  have h1 := (hown.store a (Z o b)).cells
  rw [List.length_set] at h1
  have cb1 := h1.2.1 b hb
  have fb1 := h1.2.2 b
  have hv : Z (o.set a (Z o b)) b = Z o b := by
    rw [Z_set ha]; split <;> rfl
  rw [hv] at cb1
  have HO := Lib.hid ((hown.store a (Z o b)).store b (Z o a))
  clear hc h1 hv hown
  go_enter Try.func57, Try.ntmps57
  go_wp2_with fail
  go_region
  go_wp2_with fail
  go_end0
  exact ⟨⟨_, rfl⟩, HO.out, grown_drewN ((grown_set _ _ _ _).trans (grown_set _ _ _ _)) 1⟩

set_option maxHeartbeats 2000000 in
theorem c_cloneI (L : List Int) (A : Option Addr) (c : Nat) (w : World) (hA : Is w w.heap.size A L) (hp : 0 < L.length) (hn : L.length ≤ 1000000000) :
    Calls Try.prog 56 #[.slice A L.length c] w fun e w' => ∃ g cap, e = .returned (.slice (some ⟨g, 0, none⟩) L.length cap) ∧ IO w' w.heap.size (.slice (some ⟨g, 0, none⟩) L.length cap) L ∧ Below w.heap.size w w' := by
  have hb0 : Below w.heap.size w (w.alloc (.cells #[] 3)) := by (repeat (first | exact rfl | exact Below.refl _ _ | (with_reducible refine Below.drew ?_) | (with_reducible refine Below.drewN ?_ _) | (with_reducible refine Below.alloc ?_ ?_ _) | (with_reducible refine Below.setCell ?_ ?_ _) | (show _ ≤ _; focus (first | omega | (simp; done) | (simp; omega)))))
  have HC := Lib.hid (hA.below hb0)
  obtain ⟨b, off, rfl, hlb, -⟩ := hA hp
  have hnil := Lib.run_eql_slice_nil (P := Try.prog) w 30 3 (some ⟨b, off, none⟩) L.length c 0 0 Try.underlying30
  go_enter Try.func56, Try.ntmps56
  go_wp2_with (refine app_II ?_ (.tmp 5) (.tmp 6) ?_ w.heap.size (.slice (some ⟨w.heap.size, 0, none⟩) 0 0) [] L (some ⟨b, off, none⟩) c w.heap.size ?_ ?_ ?_ ?_ ?_ ?_ ?_; rfl; rfl; rfl; exact (IO.empty w (Nat.le_refl _)); rfl; exact HC.out; (simp; omega); (simp); intro G7 cap w7 hown7 hgr7 hb7)
  rw [List.nil_append] at hown7
  rw [show ([] : List Int).length + L.length = L.length by simp] at hown7
  obtain ⟨G', g, e, -, hG⟩ := hown7.formG
  injection e with e1 _ e3
  subst e1 e3
  obtain ⟨gb, rfl, -, -, -⟩ := hG hp
  go_ret
  exact ⟨gb, cap, rfl, hown7, Below.trans hb0 hb7⟩

theorem upto_succ (k : Nat) : upto (k + 1) = upto k ++ [(k : Int)] := by simp [upto, List.range_succ]

set_option maxRecDepth 4000 in
set_option maxHeartbeats 2000000 in
theorem c_asListed (n : Nat) (w : World) (hn : n ≤ 1000000) :
    Calls Try.prog 58 #[.int .i64 (n : Int)] w fun e w' => ∃ v, e = .returned v ∧ IO w' w.heap.size v (upto n) ∧ Below w.heap.size w w' := by
  go_enter Try.func58, Try.ntmps58
  go_wp2_with fail
  go_loopw [3, 6] (fun o i wr => ∃ k : Nat, k ≤ n ∧ i = .int .i64 k ∧ IO wr w.heap.size o (upto k) ∧ Below w.heap.size w wr) (fun _ i _ => n - (intOf i).toNat)
  case atStart => exact ⟨0, by omega, rfl, IO.nil _ _, Below.refl _ _⟩
  case round =>
    obtain ⟨k, hk, rfl, hown, hb⟩ := hrel
    have hsz := hb.size
    by_cases hlt : k < n
    · have q5 : (upto k).length ≤ 1000000000000 := by rw [upto_len]; omega
      have p2 : (k : Int) < (n : Int) := by omega
      have hsz2 : w.heap.size ≤ (wr.alloc (.cells #[.int .i64 (k : Int)] 3)).heap.size := by simp; omega
      go_wp2_with (refine app_I ?_ (.tmp 9) (.tmp 11) ?_ w.heap.size u3 (upto k) (k : Int) wr.heap.size ?_ ?_ ?_ ?_ ?_ ?_ ?_; rfl; rfl; rfl; exact (hown.alloc _); rfl; exact (heap_alloc_new _ _); exact q5; exact hsz2; intro g7 cap w7 hown7 hgr7 hb7)
      go_roundw
      case rel => exact ⟨k + 1, by omega, by go_num, by rw [upto_succ]; exact hown7, (hb.alloc hsz _).trans hb7⟩
      case measure => simp [intOf]; omega
    · have hlf : ¬ ((k : Int) < (n : Int)) := by omega
      obtain rfl : k = n := by omega
      go_wp2_with fail
      go_ret
      exact ⟨_, rfl, hown, hb⟩

set_option maxRecDepth 4000 in
set_option maxHeartbeats 4000000 in
theorem c_iSwappedAt (o : List Int) (O : Option Addr) (d : Nat) (t : Int) (w : World) (hO : Is w w.heap.size O o) (ho : o.length ≤ 1000000000) :
    Calls Try.prog 26 #[.slice O o.length d, .int .i64 t] w fun e w' => ∃ v, e = .returned (swapV v (swapOk o t)) ∧ IO w' w.heap.size v (swapR o t) ∧ Below w.heap.size w w' := by
  have hw2 : IntKind.i64.wrap ((o.length : Int) - 2) = (o.length : Int) - 2 := IntWalk.i64_in _ (by omega)
  have HE := Lib.hid (c_iEachOnce o O d (o.length : Int) w hO (by omega))
  have HI := Lib.hid (fun W => c_within t 0 ((o.length : Int) - 2) W)
  cases he : eachV o (o.length : Int) with
  | true =>
    have hl6 := (each_iff.1 he).1
    by_cases ht : 0 ≤ t ∧ t ≤ (o.length : Int) - 2
    · obtain ⟨k, rfl⟩ := Int.eq_ofNat_of_zero_le ht.1
      have hk : k + 1 < o.length := by omega
      have hok : swapOk o (k : Int) = true := by simp [swapOk, he, ht]
      have H := Lib.hid hok
      have HR := Lib.hid (show swapR o (k : Int) = exL o k (k + 1) by rw [swapR_yes hok]; rfl)
      have H1 := Lib.hid he
      have H2 := Lib.hid (decide_eq_true ht)
      have HC := Lib.hid (fun (w' : World) (hb : Below w.heap.size w w') => c_cloneI o O d w' ((hO.below hb).more hb.size) (by omega) ho)
      have ek : (k : Int) + 1 = ((k + 1 : Nat) : Int) := by omega
      clear hok he ht
      go_enter Try.func26, Try.ntmps26
      go_wp2_with fail
      refine HE.out.mono ?_
      rintro e w1 ⟨rfl, hb1⟩
      rw [H1.out]
      have hs1 := hb1.size
      go_wp2_with fail
      refine (HI.out _).mono ?_
      rintro e w' ⟨rfl, rfl⟩
      rw [H2.out]
      go_wp2_with fail
      refine (HC.out _ hb1).mono ?_
      rintro e w2 ⟨g, cap, rfl, hown2, hb2⟩
      have hx2 := hb1.trans (hb2.mono hs1)
      have HX := Lib.hid (c_exchange o g cap k (k + 1) w1.heap.size w2 hown2 (by omega) hk (by omega))
      rw [← ek] at HX
      have HB := Lib.hid (owns_base hown2)
      clear hown2 hb2 hb1 ek
      go_wp2_with fail
      refine HX.out.mono ?_
      rintro e w3 ⟨⟨r, rfl⟩, hown3, hg3⟩
      go_wp2_with fail
      go_ret2
      exact ⟨_, by rw [H.out]; rfl, by rw [HR.out]; exact hown3.mono hs1, hx2.grown hg3 hx2.size (fun k e => by have := HB.out k e; omega)⟩
    · have hok : swapOk o t = false := by simp [swapOk, ht]
      have H := Lib.hid hok
      have HR := Lib.hid (swapR_no hok)
      have H1 := Lib.hid he
      have H2 := Lib.hid (decide_eq_false ht)
      clear hok he ht
      go_enter Try.func26, Try.ntmps26
      go_wp2_with fail
      refine HE.out.mono ?_
      rintro e w1 ⟨rfl, hb1⟩
      rw [H1.out]
      go_wp2_with fail
      refine (HI.out _).mono ?_
      rintro e w' ⟨rfl, rfl⟩
      rw [H2.out]
      go_wp2_with fail
      go_ret2
      exact ⟨_, by rw [H.out]; rfl, by rw [HR.out]; exact IO.nil _ _, hb1⟩
  | false =>
    have hok : swapOk o t = false := by simp [swapOk, he]
    have H := Lib.hid hok
    have HR := Lib.hid (swapR_no hok)
    have H1 := Lib.hid he
    clear hok he
    go_enter Try.func26, Try.ntmps26
    go_wp2_with fail
    refine HE.out.mono ?_
    rintro e w' ⟨rfl, hb1⟩
    rw [H1.out]
    go_wp2_with fail
    go_ret2
    exact ⟨_, by rw [H.out]; rfl, by rw [HR.out]; exact IO.nil _ _, hb1⟩

end Go.Proofs.Ytckebkaaokfonaa

