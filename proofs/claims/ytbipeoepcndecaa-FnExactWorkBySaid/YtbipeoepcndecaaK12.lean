/- spec.AreaOf, WaitingArea, WorkArea, WorkBy (ahead of the landing) -/
import Derived.Test.YtbipeoepcndecaaK11
import Derived.Test.YtbipeoepcndecaaM18
import Derived.Test.YtbipeoepcndecaaS2
import Derived.Test.YtbipeoepcndecaaK1
namespace Go.Proofs.Ytbipeoepcndecaa
set_option linter.unusedVariables false
open Go.RowKit
attribute [local go_sem ↓] Go.wp_at_zero Go.wp_at_succ

theorem workTo_Z' {L : List (Int × Int)} {k i : Nat} (h : i < k) : Z (workTo L k) i = wk L i := by simp [Z, workTo, h]
theorem wkArea_bd {L : List (Int × Int)} (hc : cOk L = true) : ∀ m, m ≤ 201 → 0 ≤ wkArea L m ∧ wkArea L m ≤ 72 * m := by
  intro m
  induction m with
  | zero => intro _; simp [wkArea]
  | succ m ih =>
    intro hm
    have i := ih (by omega)
    have b := wk_bd hc m
    simp only [wkArea]; omega

set_option maxRecDepth 4000 in
set_option maxHeartbeats 8000000 in
theorem c_sAreaOf (L : List (Int × Int)) (o : List Int) (A O : Option Addr) (c d : Nat) (w : World) (hA : Cs w w.heap.size A L) (hO : Is w w.heap.size O o) (hn : L.length ≤ 1000000000000) (ho : o.length ≤ 140737488351232) :
    Calls Try.prog 13 #[.slice A L.length c, .slice O o.length d] w fun e w' => e = .returned (.int .i64 (areaV L o)) ∧ Below w.heap.size w w' := by
  have HK := Lib.hid (c_sOrderOk L o A O c d w hA hO hn ho)
  by_cases hok : ordOk L o = true
  · have H := Lib.hid hok
    have HV := Lib.hid (areaV_yes hok)
    have hlo := (ordOk_parts hok).2.1
    have hlen := cOk_len (ordOk_parts hok).1
    have HN := Lib.hid (fun (t : Nat) (ht : t < o.length) => thereV_yes (t := (t : Int)) hok (by omega))
    have Ht := Lib.hid (fun j => areaTo_bd L o L.length j)
    have Hb := Lib.hid (fun (t : Int) => thereN_bd L o t L.length)
    clear hok
    go_enter Try.func13, Try.ntmps13
    go_wp2_with fail
    refine HK.out.mono ?_
    rintro e w1 ⟨rfl, hb1⟩
    rw [H.out]
    have hs1 := hb1.size
    clear HK
    go_wp2_with fail
    go_loopw [5, 6] (fun s i wr => ∃ k : Nat, k ≤ o.length ∧ i = .int .i64 k ∧ s = .int .i64 (areaTo L o L.length k) ∧ Below w.heap.size w wr) (fun _ i _ => o.length - (intOf i).toNat)
    case atStart => exact ⟨0, by omega, rfl, rfl, hb1⟩
    case round =>
      obtain ⟨k, hk, rfl, rfl, hb⟩ := hrel
      have hsz := hb.size
      by_cases hlt : k < o.length
      · have hA1 := (hA.below hb).more hsz
        have hO1 := (hO.below hb).more hsz
        have b1 := Ht.out k
        have b2 := Hb.out (k : Int)
        have HS := Lib.hid (show areaTo L o L.length (k + 1) = areaTo L o L.length k + thereN L o k L.length from rfl)
        have hm : (L.length : Int) * (k : Int) ≤ 2000 := Int.le_trans (Int.mul_le_mul (show (L.length : Int) ≤ 8 by omega) (show (k : Int) ≤ 200 by omega) (by omega) (by omega)) (by omega)
        have p1 : 0 ≤ areaTo L o L.length k := b1.1
        have p2 : areaTo L o L.length k ≤ 2000 := Int.le_trans b1.2 hm
        have hN := HN.out k hlt
        clear b1 hm
        have HC := Lib.hid (c_sThereAt L o A O c d (k : Int) wr hA1 hO1 hn ho)
        rw [hN] at HC
        clear hN
        generalize areaTo L o L.length k = s at *
        generalize thereN L o k L.length = y at *
        have q1 : IntKind.i64.wrap (s + y) = s + y := IntWalk.i64_in _ (by omega)
        go_wp2_with fail
        refine HC.out.mono ?_
        rintro e w2 ⟨rfl, hb2⟩
        have hb3 := hb.trans (hb2.mono hsz)
        clear hb2 HC hb hA1 hO1
        go_wp2_with fail
        go_roundw
        case rel => exact ⟨k + 1, by omega, by go_num, by rw [HS.out], hb3⟩
        case measure => simp [intOf]; omega
      · have hlf : ¬ ((k : Int) < (o.length : Int)) := by omega
        go_wp2_with fail
        go_ret
        exact ⟨by rw [HV.out, show o.length = k by omega]; rfl, hb⟩
  · have H := Lib.hid (show ordOk L o = false by simpa using hok)
    have HB := Lib.hid (areaV_no H.out)
    clear hok
    go_enter Try.func13, Try.ntmps13
    go_wp2_with fail
    refine HK.out.mono ?_
    rintro e w1 ⟨rfl, hb1⟩
    rw [H.out]
    go_wp2_with fail
    go_ret
    exact ⟨by rw [HB.out]; rfl, hb1⟩

set_option maxRecDepth 4000 in
set_option maxHeartbeats 8000000 in
theorem c_sWorkArea (L : List (Int × Int)) (A : Option Addr) (c : Nat) (w : World) (hA : Cs w w.heap.size A L) (hn : L.length ≤ 140737488351232) :
    Calls Try.prog 24 #[.slice A L.length c] w fun e w' => e = .returned (.int .i64 (workAreaV L)) ∧ Below w.heap.size w w' := by
  by_cases hc : cOk L = true
  · have H := Lib.hid hc
    have HV := Lib.hid (workAreaV_yes hc)
    have Ht := Lib.hid (fun j (hj : j ≤ 201) => wkArea_bd hc j hj)
    have Hb := Lib.hid (fun k => wk_bd hc k)
    clear hc
    go_enter Try.func24, Try.ntmps24
    go_wp2_with fail
    refine (c_sCustomersOk L A c _ hA hn).mono ?_
    rintro e w1 ⟨rfl, hb1⟩
    rw [H.out]
    have hs1 := hb1.size
    have hA1 := (hA.below hb1).more hs1
    have HC := Lib.hid (c_l3Work L H.out A c 200 (by omega) w1 hA1 hn)
    clear hA1
    go_wp2_with fail
    refine HC.out.mono ?_
    rintro e w2 ⟨v, rfl, o2, hb2⟩
    obtain ⟨G, g, rfl, -, hG⟩ := o2.formG
    rw [workTo_len] at hG ⊢
    have HG := Lib.hid hG
    have hb3 := hb1.trans (hb2.mono hs1)
    clear hG o2 hb2 hb1 HC
    go_wp2_with fail
    go_loop [3, 5] (fun s i => ∃ k : Nat, k ≤ 201 ∧ i = .int .i64 k ∧ s = .int .i64 (wkArea L k)) (fun _ i => 201 - (intOf i).toNat)
    case atStart => exact ⟨0, by omega, rfl, rfl⟩
    case round =>
      obtain ⟨k, hk, rfl, rfl⟩ := hrel
      by_cases hlt : k < 201
      · obtain ⟨gb, rfl, -, hgb, hgc⟩ := HG.out (by omega)
        have c1 := hgc k hlt
        rw [workTo_Z' hlt] at c1
        have b1 := Ht.out k (by omega)
        have b2 := Hb.out k
        have HS := Lib.hid (show wkArea L (k + 1) = wkArea L k + wk L k from rfl)
        have p1 : (0 : Int) ≤ (k : Int) := by omega
        have p2 : (k : Int) < 201 := by omega
        clear hgc
        generalize wkArea L k = s at *
        generalize wk L k = y at *
        go_wp2_with fail
        go_round
        case rel => exact ⟨k + 1, by omega, by go_num, by rw [HS.out]⟩
        case measure => simp [intOf]; omega
      · have hlf : ¬ ((k : Int) < 201) := by omega
        go_wp2_with fail
        go_ret
        exact ⟨by rw [HV.out, show 201 = k by omega]; rfl, hb3⟩
  · have H := Lib.hid (show cOk L = false by simpa using hc)
    have HB := Lib.hid (workAreaV_no H.out)
    clear hc
    go_enter Try.func24, Try.ntmps24
    go_wp2_with fail
    refine (c_sCustomersOk L A c _ hA hn).mono ?_
    rintro e w1 ⟨rfl, hb1⟩
    rw [H.out]
    go_wp2_with fail
    go_ret
    exact ⟨by rw [HB.out]; rfl, hb1⟩
set_option maxRecDepth 4000 in
set_option maxHeartbeats 8000000 in
theorem c_sWaitingArea (L : List (Int × Int)) (o : List Int) (A O : Option Addr) (c d : Nat) (w : World) (hA : Cs w w.heap.size A L) (hO : Is w w.heap.size O o) (hn : L.length ≤ 1000000000000) (ho : o.length ≤ 140737488351232) :
    Calls Try.prog 18 #[.slice A L.length c, .slice O o.length d] w fun e w' => e = .returned (.int .i64 (waitingV L o)) ∧ Below w.heap.size w w' := by
  have HK := Lib.hid (c_sOrderOk L o A O c d w hA hO hn ho)
  by_cases hok : ordOk L o = true
  · have H := Lib.hid hok
    have HV := Lib.hid (waitingV_yes hok)
    have hlo := (ordOk_parts hok).2.1
    have hlen := cOk_len (ordOk_parts hok).1
    have HN := Lib.hid (fun (t : Nat) (ht : t < o.length) => thereV_yes (t := (t : Int)) hok (by omega))
    have Ht := Lib.hid (fun j (hj : j ≤ o.length) => show -200 ≤ waArea L o j ∧ waArea L o j ≤ 2000 by
      have b1 := areaTo_bd L o L.length j
      have b2 := busyTo_bd o j
      have hm : (L.length : Int) * (j : Int) ≤ 8 * 200 := Int.mul_le_mul (by omega) (by omega) (by omega) (by omega)
      simp only [waArea]
      generalize (L.length : Int) * (j : Int) = q at *
      omega)
    have Hb := Lib.hid (fun (t : Int) => thereN_bd L o t L.length)
    clear hok
    go_enter Try.func18, Try.ntmps18
    go_wp2_with fail
    refine HK.out.mono ?_
    rintro e w1 ⟨rfl, hb1⟩
    rw [H.out]
    have hs1 := hb1.size
    clear HK
    go_wp2_with fail
    go_loopw [5, 6] (fun s i wr => ∃ k : Nat, k ≤ o.length ∧ i = .int .i64 k ∧ s = .int .i64 (waArea L o k) ∧ Below w.heap.size w wr) (fun _ i _ => o.length - (intOf i).toNat)
    case atStart => exact ⟨0, by omega, rfl, rfl, hb1⟩
    case round =>
      obtain ⟨k, hk, rfl, rfl, hb⟩ := hrel
      have hsz := hb.size
      by_cases hlt : k < o.length
      · have hA1 := (hA.below hb).more hsz
        have hO1 := (hO.below hb).more hsz
        obtain ⟨b1, b2⟩ := Ht.out k hk
        have b3 := Hb.out (k : Int)
        have hS := waArea_succ L o k
        have hN := HN.out k hlt
        obtain ⟨ob, off, rfl, holb, hoc⟩ := hO (by omega)
        have HC := Lib.hid (c_sThereAt L o A (some ⟨ob, off, none⟩) c d (k : Int) wr hA1 hO1 hn ho)
        rw [hN] at HC
        clear hN
        generalize waArea L o k = s at *
        generalize thereN L o k L.length = y at *
        have q1 : IntKind.i64.wrap (s + y) = s + y := IntWalk.i64_in _ (by omega)
        have q2 : IntKind.i64.wrap (s + y - 1) = s + y - 1 := IntWalk.i64_in _ (by omega)
        have hcell := hoc k hlt
        clear hoc
        go_wp2_with fail
        refine HC.out.mono ?_
        rintro e w2 ⟨rfl, hb2⟩
        have hb3 := hb.trans (hb2.mono hsz)
        have c1 := (hb3.cell (p := ⟨ob, off + k, none⟩) holb).trans hcell
        clear hb2 HC hb hA1 hO1
        by_cases hz : 0 ≤ Z o k
        · rw [if_pos hz] at hS
          have HS := Lib.hid hS
          clear hS
          go_wp2_with fail
          go_roundw
          case rel => exact ⟨k + 1, by omega, by go_num, by rw [HS.out], hb3⟩
          case measure => simp [intOf]; omega
        · rw [if_neg hz] at hS
          have HS := Lib.hid hS
          have dz : decide (0 ≤ Z o k) = false := decide_eq_false hz
          clear hS hz
          go_wp2_with fail
          go_roundw
          case rel => exact ⟨k + 1, by omega, by go_num, by rw [HS.out, Int.sub_zero], hb3⟩
          case measure => simp [intOf]; omega
      · have hlf : ¬ ((k : Int) < (o.length : Int)) := by omega
        go_wp2_with fail
        go_ret
        exact ⟨by rw [HV.out, show o.length = k by omega]; rfl, hb⟩
  · have H := Lib.hid (show ordOk L o = false by simpa using hok)
    have HB := Lib.hid (waitingV_no H.out)
    clear hok
    go_enter Try.func18, Try.ntmps18
    go_wp2_with fail
    refine HK.out.mono ?_
    rintro e w1 ⟨rfl, hb1⟩
    rw [H.out]
    go_wp2_with fail
    go_ret
    exact ⟨by rw [HB.out]; rfl, hb1⟩

set_option maxRecDepth 4000 in
set_option maxHeartbeats 8000000 in
theorem c_sWorkBy (L : List (Int × Int)) (A : Option Addr) (c : Nat) (w : World) (hA : Cs w w.heap.size A L) (hn : L.length ≤ 140737488351232) :
    Calls Try.prog 28 #[.slice A L.length c] w fun e w' => e = .returned (.int .i64 (workByV L)) ∧ Below w.heap.size w w' := by
  by_cases hc : cOk L = true
  · have H := Lib.hid hc
    have HV := Lib.hid (workByV_yes hc)
    have HE := Lib.hid (waits_yes hc)
    have Ht := Lib.hid (fun k (hk : k ≤ L.length) => show 0 ≤ workByTo L k ∧ workByTo L k ≤ 693 * k by have := halfTo_bd hc k hk; omega)
    have Hh := Lib.hid (fun k (hk : k < L.length) => half_bd hc hk)
    have Hb := Lib.hid (fun k (hk : k < L.length) => cOk_bd hc hk)
    have hlen := cOk_len hc
    clear hc
    go_enter Try.func28, Try.ntmps28
    go_wp2_with fail
    refine (c_sCustomersOk L A c _ hA hn).mono ?_
    rintro e w1 ⟨rfl, hb1⟩
    rw [H.out]
    have hs1 := hb1.size
    have hA1 := (hA.below hb1).more hs1
    have HC := Lib.hid (c_sWaitsOf L A c w1 hA1 hn)
    clear hA1
    go_wp2_with fail
    refine HC.out.mono ?_
    rintro e w2 ⟨v, rfl, o2, hb2⟩
    rw [HE.out] at o2
    obtain ⟨G, g, rfl, -, hG⟩ := o2.formG
    rw [waitsTo_len] at hG ⊢
    have HG := Lib.hid hG
    have hb3 := hb1.trans (hb2.mono hs1)
    have hs3 := hb3.size
    clear hG o2 hb2 hb1 HC
    go_wp2_with fail
    go_loopw [3, 5] (fun s i wr => ∃ k : Nat, k ≤ L.length ∧ i = .int .i64 k ∧ s = .int .i64 (workByTo L k) ∧ Below w2.heap.size w2 wr) (fun _ i _ => L.length - (intOf i).toNat)
    case atStart => exact ⟨0, by omega, rfl, rfl, Below.refl _ _⟩
    case round =>
      obtain ⟨k, hk, rfl, rfl, hb⟩ := hrel
      have hsz := hb.size
      by_cases hlt : k < L.length
      · obtain ⟨gb, rfl, -, hgb, hgc⟩ := HG.out (by omega)
        obtain ⟨b, off, rfl, hlb, hcc⟩ := hA (by omega)
        have c0 := hgc k hlt
        rw [Z_waitsTo hlt] at c0
        have c1 := (hb.cell (p := ⟨gb, k, none⟩) hgb).trans c0
        have c2 := ((hb3.trans (hb.mono hs3)).cell (p := ⟨b, off + k * 2 + 1, none⟩) hlb).trans (hcc k hlt).2
        obtain ⟨b1, b1'⟩ := Ht.out k (by omega)
        obtain ⟨h1, h2, h3, h4, h5, h6⟩ := Hh.out k hlt
        obtain ⟨-, -, b3, b4⟩ := Hb.out k hlt
        have HS := Lib.hid (show workByTo L (k + 1) = workByTo L k + Y L k * waitAt L k + (Y L k * (Y L k + 1)).tdiv 2 from rfl)
        have p1 : (0 : Int) ≤ (k : Int) := by omega
        have p2 : (k : Int) < (L.length : Int) := by omega
        have q0 : IntKind.i64.wrap (Y L k + 1) = Y L k + 1 := IntWalk.i64_in _ (by omega)
        have q1 : IntKind.i64.wrap (Y L k * waitAt L k) = Y L k * waitAt L k := IntWalk.i64_in _ (by omega)
        have q2 : IntKind.i64.wrap (Y L k * (Y L k + 1)) = Y L k * (Y L k + 1) := IntWalk.i64_in _ (by omega)
        have q3 : IntKind.i64.wrap ((Y L k * (Y L k + 1)).tdiv 2) = (Y L k * (Y L k + 1)).tdiv 2 := IntWalk.i64_in _ (by omega)
        have q4 : IntKind.i64.wrap (workByTo L k + Y L k * waitAt L k) = workByTo L k + Y L k * waitAt L k := IntWalk.i64_in _ (by omega)
        have q5 : IntKind.i64.wrap (workByTo L k + Y L k * waitAt L k + (Y L k * (Y L k + 1)).tdiv 2) = workByTo L k + Y L k * waitAt L k + (Y L k * (Y L k + 1)).tdiv 2 := IntWalk.i64_in _ (by omega)
        clear hgc hcc c0
        go_wp2_with fail
        go_quiet (fail)
        clear q0 q1 q2 q3 q4 q5
        have hbq : Below w2.heap.size w2 (wr.drewN nq) := by (repeat (first | exact hb | exact Below.refl _ _ | (with_reducible refine Below.drew ?_) | (with_reducible refine Below.drewN ?_ _) | (with_reducible refine Below.alloc ?_ ?_ _) | (with_reducible refine Below.setCell ?_ ?_ _) | (show _ ≤ _; focus (first | omega | (simp; done) | (simp; omega)))))
        generalize wr.drewN nq = wq at hbq ⊢
        clear hb c1 c2
        go_wp2_with fail
        go_roundw
        case rel => exact ⟨k + 1, by omega, by go_num, by rw [HS.out], hbq⟩
        case measure => simp [intOf]; omega
      · have hlf : ¬ ((k : Int) < (L.length : Int)) := by omega
        go_wp2_with fail
        go_ret
        exact ⟨by rw [HV.out, show L.length = k by omega]; rfl, hb3.trans (hb.mono hs3)⟩
  · have H := Lib.hid (show cOk L = false by simpa using hc)
    have HB := Lib.hid (workByV_no H.out)
    clear hc
    go_enter Try.func28, Try.ntmps28
    go_wp2_with fail
    refine (c_sCustomersOk L A c _ hA hn).mono ?_
    rintro e w1 ⟨rfl, hb1⟩
    rw [H.out]
    go_wp2_with fail
    go_ret
    exact ⟨by rw [HB.out]; rfl, hb1⟩

end Go.Proofs.Ytbipeoepcndecaa

