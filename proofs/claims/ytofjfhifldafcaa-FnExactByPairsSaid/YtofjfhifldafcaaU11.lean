/- Chapter 7's functions of the program, first part: Task.ok, TasksOk; EachOnce; asListed, exchange, Clone, SwappedAt. -/
import Derived.Test.YtofjfhifldafcaaA
import Derived.Test.YtofjfhifldafcaaK14
import Derived.Test.YtofjfhifldafcaaO4
namespace Go.Proofs.Ytofjfhifldafcaa
set_option linter.unusedVariables false
open Go.RowKit
attribute [local go_sem ↓] Go.wp_at_zero Go.wp_at_succ

def tokB (x y : Int) : Bool := decide (1 ≤ x ∧ x ≤ 9) && decide (0 ≤ y ∧ y ≤ 9)
theorem tokB_iff {x y : Int} : tokB x y = true ↔ (1 ≤ x ∧ x ≤ 9) ∧ 0 ≤ y ∧ y ≤ 9 := by simp [tokB]

/-! EachOnce -/

theorem eachTo_has {o : List Int} {n : Int} {k : Nat} (h : eachTo o n k = true) (hr : 0 ≤ Z o k ∧ Z o k ≤ n - 1) : eachTo o n (k + 1) = !hasN o (Z o k) k := by
  have e : newAt o k k = !hasN o (Z o k) k := by
    cases hh : hasN o (Z o k) k with
    | true =>
      obtain ⟨i, hi, he⟩ := hasN_iff.1 hh
      cases hn : newAt o k k with
      | false => rfl
      | true => exact absurd he (newAt_iff.1 hn i hi)
    | false =>
      refine newAt_iff.2 (fun i hi he => ?_)
      rw [hasN_iff.2 ⟨i, hi, he⟩] at hh; cases hh
  simp only [eachTo, h, e, decide_eq_true hr, Bool.true_and]
theorem eachTo_mono {o : List Int} {n : Int} {k j : Nat} (hj : k ≤ j) (h : eachTo o n k = false) : eachTo o n j = false := by
  cases e : eachTo o n j with
  | false => rfl
  | true => rw [eachTo_iff.2 (fun i hi => eachTo_iff.1 e i (by omega))] at h; cases h

set_option maxRecDepth 4000 in
set_option maxHeartbeats 4000000 in
theorem c_iEachOnce (o : List Int) (O : Option Addr) (d : Nat) (n : Int) (w : World) (hO : Is w w.heap.size O o) (ho : o.length ≤ 140737488351232) :
    Calls Try.prog 39 #[.slice O o.length d, .int .i64 n] w fun e w' => e = .returned (.bool (eachV o n)) ∧ Below w.heap.size w w' := by
  have hv : eachV o n = (eachTo o n o.length && (decide (1 ≤ n ∧ n ≤ 6) && decide ((o.length : Int) = n))) := rfl
  by_cases h1 : 1 ≤ n ∧ n ≤ 6
  · have HD := Lib.hid (decide_eq_true h1)
    rw [decide_eq_true h1, Bool.true_and] at hv
    by_cases h2 : (o.length : Int) = n
    · rw [decide_eq_true h2, Bool.and_true] at hv
      have HV := Lib.hid hv
      have hne : ((o.length : Int) != n) = false := by simp [h2]
      have H1 := Lib.hid h1
      have H2 := Lib.hid h2
      have HK := Lib.hid (fun k W => c_within (Z o k) 0 (n - 1) W)
      have hw : IntKind.i64.wrap (n - 1) = n - 1 := IntWalk.i64_in _ (by omega)
      clear hv h1 h2
      go_enter Try.func39, Try.ntmps39
      go_wp2_with fail
      refine (c_within _ _ _ _).mono ?_
      rintro e w' ⟨rfl, rfl⟩
      rw [HD.out]
      go_wp2_with fail
      go_loopw [19] (fun i wr => ∃ k : Nat, k ≤ o.length ∧ i = .int .i64 k ∧ Hid (eachTo o n k = true) ∧ Hid (∀ i : Nat, i < 6 → wr.cell? ⟨w.heap.size, i, none⟩ = some (.bool (hasN o i k)) ∧ wr.frozen? ⟨w.heap.size, i, none⟩ = false) ∧ Below w.heap.size w wr ∧ w.heap.size < wr.heap.size) (fun i _ => o.length - (intOf i).toNat)
      case atStart =>
        refine ⟨0, by omega, rfl, rfl, ?_, by (repeat (first | exact rfl | exact Below.refl _ _ | (with_reducible refine Below.drew ?_) | (with_reducible refine Below.drewN ?_ _) | (with_reducible refine Below.alloc ?_ ?_ _) | (with_reducible refine Below.setCell ?_ ?_ _) | (show _ ≤ _; focus (first | omega | (simp; done) | (simp; omega))))), by simp⟩
        intro i hi
        have hn := heap_alloc_new w (.cells #[.bool false, .bool false, .bool false, .bool false, .bool false, .bool false] 76)
        rcases (show i = 0 ∨ i = 1 ∨ i = 2 ∨ i = 3 ∨ i = 4 ∨ i = 5 by omega) with rfl | rfl | rfl | rfl | rfl | rfl
        all_goals exact ⟨by simp only [World.cell?, hn, hasN]; rfl, by simp only [World.frozen?, hn]; rfl⟩
      case round =>
        obtain ⟨k, hk, rfl, HE, HS, hb, hsz⟩ := hrel
        by_cases hlt : k < o.length
        · obtain ⟨b, off, rfl, hlb, hc⟩ := hO (by omega)
          have c1 := (hb.cell (p := ⟨b, off + k, none⟩) hlb).trans (hc k hlt)
          clear hc
          by_cases hr : 0 ≤ Z o k ∧ Z o k ≤ n - 1
          · have HR := Lib.hid (decide_eq_true hr)
            have HN := Lib.hid (eachTo_has HE.out hr)
            obtain ⟨z, hz⟩ : ∃ z : Nat, Z o k = (z : Int) := ⟨(Z o k).toNat, by omega⟩
            have hz6 : z < 6 := by have := H1.out; omega
            obtain ⟨d1, d2⟩ := HS.out z hz6
            have z1 : (0 : Int) ≤ (z : Int) := by omega
            have z2 : (z : Int) < 6 := by omega
            rw [hz] at c1 HR HN
            have HKK := Lib.hid (fun W => by have K := HK.out k W; rw [hz] at K; exact K)
            cases hh : hasN o (z : Int) k with
            | true =>
              rw [hh] at HN d1
              have HB := Lib.hid (eachTo_mono (j := o.length) (by omega) HN.out)
              clear hr hh hz
              go_wp2_with fail
              refine (HKK.out _).mono ?_
              rintro e w' ⟨rfl, rfl⟩
              rw [HR.out]
              go_wp2_with fail
              go_ret
              exact ⟨by rw [HV.out, HB.out]; rfl, hb⟩
            | false =>
              rw [hh] at HN d1
              have HT : Hid (∀ i : Nat, i < 6 → (wr.setCell ⟨w.heap.size, z, none⟩ (.bool true)).cell? ⟨w.heap.size, i, none⟩ = some (.bool (hasN o i (k + 1))) ∧ (wr.setCell ⟨w.heap.size, z, none⟩ (.bool true)).frozen? ⟨w.heap.size, i, none⟩ = false) := by
                intro i hi
                obtain ⟨e1, e2⟩ := HS.out i hi
                refine ⟨?_, by rw [World.frozen?_setCell]; exact e2⟩
                by_cases ei : i = z
                · subst ei
                  rw [World.cell?_setCell_same' _ _ _ (by rw [e1]; rfl)]
                  simp [hasN, hz]
                · rw [World.cell?_setCell_other]
                  · rw [e1]
                    have : decide (Z o k = (i : Int)) = false := decide_eq_false (by omega)
                    simp [hasN, this]
                  · intro e; injection e with _ e2 _; omega
              have hb2 : Below w.heap.size w (wr.setCell ⟨w.heap.size, z, none⟩ (.bool true)) := hb.setCell (p := ⟨w.heap.size, z, none⟩) (Nat.le_refl _) _
              have hz2 : w.heap.size < (wr.setCell ⟨w.heap.size, z, none⟩ (.bool true)).heap.size := by simpa [World.setCell] using hsz
              have HB2 := Lib.hid hb2
              have HZ2 := Lib.hid hz2
              clear hr hh hz hb2 hz2
              go_wp2_with fail
              refine (HKK.out _).mono ?_
              rintro e w' ⟨rfl, rfl⟩
              rw [HR.out]
              go_wp2_with fail
              go_roundw
              case rel => exact ⟨k + 1, by omega, by go_num, HN, HT, HB2.out, HZ2.out⟩
              case measure => simp [intOf]; omega
          · have HR := Lib.hid (decide_eq_false hr)
            have HB := Lib.hid (eachTo_mono (o := o) (n := n) (k := k + 1) (j := o.length) (by omega) (by simp [eachTo, hr]))
            clear hr
            go_wp2_with fail
            refine (HK.out _ _).mono ?_
            rintro e w' ⟨rfl, rfl⟩
            rw [HR.out]
            go_wp2_with fail
            go_ret
            exact ⟨by rw [HV.out, HB.out]; rfl, hb⟩
        · have hlf : ¬ ((k : Int) < (o.length : Int)) := by omega
          obtain rfl : k = o.length := by omega
          go_wp2_with fail
          go_ret
          exact ⟨by rw [HV.out, HE.out]; rfl, hb⟩
    · rw [decide_eq_false h2, Bool.and_false] at hv
      have HV := Lib.hid hv
      have hne : ((o.length : Int) != n) = true := by simp [h2]
      clear hv h1 h2
      go_enter Try.func39, Try.ntmps39
      go_wp2_with fail
      refine (c_within _ _ _ _).mono ?_
      rintro e w' ⟨rfl, rfl⟩
      rw [HD.out]
      go_wp2_with fail
      go_ret
      exact ⟨by rw [HV.out]; rfl, Below.refl _ _⟩
  · rw [decide_eq_false h1, Bool.false_and, Bool.and_false] at hv
    have HV := Lib.hid hv
    have HD := Lib.hid (decide_eq_false h1)
    clear hv h1
    go_enter Try.func39, Try.ntmps39
    go_wp2_with fail
    refine (c_within _ _ _ _).mono ?_
    rintro e w' ⟨rfl, rfl⟩
    rw [HD.out]
    go_wp2_with fail
    go_ret
    exact ⟨by rw [HV.out]; rfl, Below.refl _ _⟩


/-! rows that are exchanged in place -/
/-- the row with two places exchanged -/
def exL (o : List Int) (a b : Nat) : List Int := (o.set a (Z o b)).set b (Z o a)
theorem exL_len (o : List Int) (a b : Nat) : (exL o a b).length = o.length := by simp [exL]
theorem exL_swap (o : List Int) (k : Nat) : exL o k (k + 1) = swapL o k := rfl
theorem exL_Z {o : List Int} {a b : Nat} (ha : a < o.length) (hb : b < o.length) (i : Nat) : Z (exL o a b) i = if b = i then Z o a else if a = i then Z o b else Z o i := by
  unfold exL
  rw [Z_set (by simp; exact hb), Z_set ha]

set_option maxHeartbeats 1000000 in
theorem c_exchange (o : List Int) (G : Nat) (g a b base : Nat) (w : World) (hown : IO w base (.slice (some ⟨G, 0, none⟩) o.length g) o) (ha : a < o.length) (hb : b < o.length) (ho : o.length ≤ 1000000) :
    Calls Try.prog 86 #[.slice (some ⟨G, 0, none⟩) o.length g, .int .i64 (a : Int), .int .i64 (b : Int)] w fun e w' => (∃ r, e = .returned r) ∧ IO w' base (.slice (some ⟨G, 0, none⟩) o.length g) (exL o a b) ∧ w.grownBy w' (some G) := by
  have hc := hown.cells
  have ca := hc.2.1 a ha
  have cb := hc.2.1 b hb
  have fa := hc.2.2 a
  have fb := hc.2.2 b
  have p1 : (0 : Int) ≤ (a : Int) := by omega
  have p2 : (a : Int) < (o.length : Int) := by omega
  have p3 : (0 : Int) ≤ (b : Int) := by omega
  have p4 : (b : Int) < (o.length : Int) := by omega
  have h1 := (hown.store a (Z o b)).cells
  rw [List.length_set] at h1
  have cb1 := h1.2.1 b hb
  have fb1 := h1.2.2 b
  have hv : Z (o.set a (Z o b)) b = Z o b := by
    rw [Z_set ha]; split <;> rfl
  rw [hv] at cb1
  have HO := Lib.hid ((hown.store a (Z o b)).store b (Z o a))
  clear hc h1 hv hown
  go_enter Try.func86, Try.ntmps86
  go_wp2_with fail
  go_region
  go_wp2_with fail
  go_end0
  exact ⟨⟨_, rfl⟩, HO.out, grown_drewN ((grown_set _ _ _ _).trans (grown_set _ _ _ _)) 1⟩

theorem upto_succ (k : Nat) : upto (k + 1) = upto k ++ [(k : Int)] := by simp [upto, List.range_succ]

set_option maxRecDepth 4000 in
set_option maxHeartbeats 2000000 in
theorem c_asListed (n : Nat) (w : World) (hn : n ≤ 1000000) :
    Calls Try.prog 68 #[.int .i64 (n : Int)] w fun e w' => ∃ v, e = .returned v ∧ IO w' w.heap.size v (upto n) ∧ Below w.heap.size w w' := by
  go_enter Try.func68, Try.ntmps68
  go_wp2_with fail
  go_loopw [3, 6] (fun o i wr => ∃ k : Nat, k ≤ n ∧ i = .int .i64 k ∧ IO wr w.heap.size o (upto k) ∧ Below w.heap.size w wr) (fun _ i _ => n - (intOf i).toNat)
  case atStart => exact ⟨0, by omega, rfl, IO.nil _ _, Below.refl _ _⟩
  case round =>
    obtain ⟨k, hk, rfl, hown, hb⟩ := hrel
    have hsz := hb.size
    by_cases hlt : k < n
    · have q5 : (upto k).length ≤ 1000000000000 := by rw [upto_len]; omega
      have p2 : (k : Int) < (n : Int) := by omega
      have hsz2 : w.heap.size ≤ (wr.alloc (.cells #[.int .i64 (k : Int)] 3)).heap.size := by simp; omega
      go_wp2_with (refine app_I ?_ (.tmp 9) (.tmp 11) ?_ w.heap.size u3 (upto k) (k : Int) wr.heap.size ?_ ?_ ?_ ?_ ?_ ?_ ?_; rfl; rfl; rfl; exact (hown.alloc _); rfl; exact (heap_alloc_new _ _); exact q5; exact hsz2; intro g7 cap w7 hown7 hgr7 hb7)
      go_roundw
      case rel => exact ⟨k + 1, by omega, by go_num, by rw [upto_succ]; exact hown7, (hb.alloc hsz _).trans hb7⟩
      case measure => simp [intOf]; omega
    · have hlf : ¬ ((k : Int) < (n : Int)) := by omega
      obtain rfl : k = n := by omega
      go_wp2_with fail
      go_ret
      exact ⟨_, rfl, hown, hb⟩

end Go.Proofs.Ytofjfhifldafcaa

