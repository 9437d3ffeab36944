/- walks of the laws of chapter 8, second part: FnDeepAt -/
import Derived.Test.YtmimcgjobgfgfaaKQ
import Derived.Test.YtmimcgjobgfgfaaI7
import Derived.Test.YtmimcgjobgfgfaaH
namespace Go.Proofs.Ytmimcgjobgfgfaa
set_option linter.unusedVariables false
open Go.RowKit
attribute [local go_sem ↓] Go.wp_at_zero Go.wp_at_succ

theorem orderR_one_len (L : List (Int × Int)) : (orderR L 1).length ≤ 200 := by
  cases hp : byOk L 1 with
  | false => rw [orderR_no hp]; simp
  | true =>
    obtain ⟨hc, -⟩ : cOk L = true ∧ decide (0 ≤ (1 : Int) ∧ (1 : Int) ≤ 3) = true := by simpa [byOk] using hp
    obtain ⟨T, hT, hT2⟩ := lastLeave_nat hc
    rw [orderR_yes hp, hT, orderTo_len]; omega
/-- nobody else comes then behind -/
def aloneAt (L : List (Int × Int)) (m : Nat) : Prop := m + 1 = L.length ∨ X L m < X L (m + 1)

set_option maxRecDepth 4000 in
set_option maxHeartbeats 8000000 in
theorem w_FnDeepAt (A : Option Addr) (n c : Nat) (w : World) (h : Bs w w.heap.size A n) (hc : n ≤ c) :
    Calls Try.prog 6 #[.slice A n c] w fun e w' => e = .returned (.bool true) ∧ Below w.heap.size w w' := by
  by_cases hn : n ≤ 1048576
  · go_enter Try.func6, Try.ntmps6
    go_wp2_with fail
    refine (c_DrawDeepAt A n c _ h hn hc).mono ?_
    rintro e w1 ⟨L, v, t, rfl, hv, hl, -, ht, hb1⟩
    obtain ⟨D, d, rfl, hd1, hd2, hD⟩ := hv.form
    have hs1 := hb1.size
    clear hv h
    go_wp2_with fail
    refine (c_iDeepAt L D d t _ hD hd1 (by omega)).mono ?_
    rintro e w2 ⟨rfl, hb2⟩
    have k2 := hb1.trans (hb2.mono hs1)
    have hs2 := k2.size
    have hD2 := (hD.below hb2).more hb2.size
    clear hb1 hb2 hD
    go_wp2_with fail
    refine (c_sDeepAt L D d t _ hD2 (by omega)).mono ?_
    rintro e w3 ⟨rfl, hb3⟩
    have k3 := k2.trans (hb3.mono hs2)
    have hs3 := k3.size
    have hD3 := (hD2.below hb3).more hb3.size
    have hne : (deepV L t != deepV L t) = false := by simp
    clear k2 hb3 hD2
    cases hp : placeOk L t with
    | true =>
      have hDV := deepV_yes hp
      obtain ⟨m, rfl, hml, hok⟩ := placeOk_nat hp
      rw [Int.toNat_natCast] at hDV
      rw [hDV] at hne ⊢
      have hdb := deepF_bd L m
      have KL := c_iLeftFor L D d (m : Int) w3 hD3 hd1 (by omega)
      rw [leftV_yes (placeOk_mk hok hml), Int.toNat_natCast] at KL
      have HKL := Lib.hid KL
      have HDN := Lib.hid (fun (h : leftF L m = -1) => deepF_none h)
      have HDL := Lib.hid (fun k (h : leftF L m = (k : Nat)) => deepF_left h)
      have HLT := Lib.hid (leftF_lt L m)
      have HTH := Lib.hid (fun hal => there_last hok hml hal)
      have HBD := Lib.hid (fun k (hk : k < L.length) => cOk_bd hok hk)
      have HDP := Lib.hid (fun (k : Nat) (hk : k < L.length) (W : World) (hW : Cs W W.heap.size D L) => show Calls Try.prog 25 #[.slice D L.length d, .int .i64 (k : Int)] W fun e w' => e = .returned (.int .i64 (deepF L k)) ∧ Below W.heap.size W w' from by
        have K := c_iDeepAt L D d (k : Int) W hW hd1 (by omega)
        rw [deepV_yes (placeOk_mk hok hk), Int.toNat_natCast] at K
        exact K)
      have hlen := cOk_len hok
      have hol := orderR_one_len L
      have HOL := Lib.hid hol
      clear hp hok hDV KL hol
      go_wp2_with fail
      refine HKL.out.mono ?_
      rintro e w4 ⟨rfl, hb4⟩
      have k4 := k3.trans (hb4.mono hs3)
      have hs4 := k4.size
      have hD4 := (hD3.below hb4).more hb4.size
      clear HKL
      obtain ⟨b, off, rfl, hlb, hcc⟩ := hD4 (by omega)
      have HCC := Lib.hid hcc
      have hD4' : Cs w4 w4.heap.size (some ⟨b, off, none⟩) L := fun _ => ⟨b, off, rfl, hlb, hcc⟩
      have c1 := (hcc m hml).1
      have bm := HBD.out m hml
      have p0 : (0 : Int) ≤ (m : Int) := by omega
      have p1 : (m : Int) < (L.length : Int) := by omega
      clear hcc hD3 hb4
      have hlt := HLT.out
      by_cases hk0 : leftF L m = -1
      · have hdm := HDN.out hk0
        rw [hk0, hdm]
        rw [hdm] at hne hdb
        clear hk0 hlt hne
        by_cases hal1 : m + 1 = L.length
        · have f1 : ((m : Int) + 1 == (L.length : Int)) = true := beq_iff_eq.2 (by omega)
          have hth : thereV L (orderR L 1) (X L m) = 1 := (HTH.out (.inl hal1)).trans hdm
          clear hdm hal1
          go_wp2_with fail
          go_quiet (fail)
          have hbq : Below w4.heap.size w4 (w4.drewN nq) := by (repeat (first | exact Below.refl w4.heap.size w4 | exact Below.refl _ _ | (with_reducible refine Below.drew ?_) | (with_reducible refine Below.drewN ?_ _) | (with_reducible refine Below.alloc ?_ ?_ _) | (with_reducible refine Below.setCell ?_ ?_ _) | (show _ ≤ _; focus (first | omega | (simp; done) | (simp; omega)))))
          generalize w4.drewN nq = wq at *
          have hsq := hbq.size
          have cq := (hbq.cell (p := ⟨b, off + m * 2, none⟩) hlb).trans c1
          have HOB := Lib.hid (fun (W : World) (hW : Below wq.heap.size wq W) => c_sOrderBy L (some ⟨b, off, none⟩) d 1 W ((hD4'.below (hbq.trans (hW.mono hsq))).more (by have := hW.size; omega)) (by omega))
          have HTA := Lib.hid (fun (W : World) (O6 : Option Addr) (d6 : Nat) (hW : Below wq.heap.size wq W) (hO : Is W W.heap.size O6 (orderR L 1)) => c_iThereAt L (orderR L 1) (some ⟨b, off, none⟩) O6 d d6 (X L m) W ((hD4'.below (hbq.trans (hW.mono hsq))).more (by have := hW.size; omega)) hO (by omega) (by have := HOL.out; omega))
          rw [hth] at HTA
          clear hth
          go_wp2_with fail
          go_region_held3 (fun w' => w'.cell? ⟨b, off + m * 2, none⟩ = some (.int .i64 (X L m)))
            (first
              | go_keep
              | exact (hx6.cell (p := ⟨b, off + m * 2, none⟩) (show b < wq.heap.size by omega)).trans cq
              | exact (hx7.cell (p := ⟨b, off + m * 2, none⟩) (show b < wq.heap.size by omega)).trans cq)
            (first
              | (go_at_call 28; refine (HOB.out _ (Below.refl _ wq).drew).mono ?_; rintro e w6 ⟨v6, rfl, o6, hb6⟩; obtain ⟨O6, d6, rfl, -, -, hO6⟩ := o6.form; have hx6 : Below wq.heap.size wq w6 := (Below.refl _ wq).drew.trans hb6)
              | (go_at_call 27; refine (HTA.out _ O6 d6 hx6 hO6).mono ?_; rintro e w7 ⟨rfl, hb7⟩; have hx7 : Below wq.heap.size wq w7 := hx6.trans (hb7.mono hx6.size)))
          have k7 := (k4.trans (hbq.mono hs4)).trans (hx7.mono (Nat.le_trans hs4 hsq))
          have hs7 := k7.size
          clear HTA HOB hb6 hb7 hx6 o6
          go_wp2_with fail
          go_ret
          exact ⟨rfl, k7⟩
        · by_cases hal2 : X L m < X L (m + 1)
          · have f1 : ((m : Int) + 1 == (L.length : Int)) = false := beq_eq_false_iff_ne.2 (by omega)
            have c2 := (HCC.out (m + 1) (by omega)).1
            have f2 : (0 : Int) ≤ (m : Int) + 1 := by omega
            have f3 : (m : Int) + 1 < (L.length : Int) := by omega
            have f4 : ((m : Int) + 1).toNat = m + 1 := by omega
            have f5 : decide (X L m < X L (m + 1)) = true := decide_eq_true hal2
            have hth : thereV L (orderR L 1) (X L m) = 1 := (HTH.out (.inr hal2)).trans hdm
            clear hdm hal1 hal2
            go_wp2_with fail
            go_quiet (fail)
            have hbq : Below w4.heap.size w4 (w4.drewN nq) := by (repeat (first | exact Below.refl w4.heap.size w4 | exact Below.refl _ _ | (with_reducible refine Below.drew ?_) | (with_reducible refine Below.drewN ?_ _) | (with_reducible refine Below.alloc ?_ ?_ _) | (with_reducible refine Below.setCell ?_ ?_ _) | (show _ ≤ _; focus (first | omega | (simp; done) | (simp; omega)))))
            generalize w4.drewN nq = wq at *
            have hsq := hbq.size
            have cq := (hbq.cell (p := ⟨b, off + m * 2, none⟩) hlb).trans c1
            have HOB := Lib.hid (fun (W : World) (hW : Below wq.heap.size wq W) => c_sOrderBy L (some ⟨b, off, none⟩) d 1 W ((hD4'.below (hbq.trans (hW.mono hsq))).more (by have := hW.size; omega)) (by omega))
            have HTA := Lib.hid (fun (W : World) (O6 : Option Addr) (d6 : Nat) (hW : Below wq.heap.size wq W) (hO : Is W W.heap.size O6 (orderR L 1)) => c_iThereAt L (orderR L 1) (some ⟨b, off, none⟩) O6 d d6 (X L m) W ((hD4'.below (hbq.trans (hW.mono hsq))).more (by have := hW.size; omega)) hO (by omega) (by have := HOL.out; omega))
            rw [hth] at HTA
            clear hth
            go_wp2_with fail
            go_region_held3 (fun w' => w'.cell? ⟨b, off + m * 2, none⟩ = some (.int .i64 (X L m)))
              (first
                | go_keep
                | exact (hx6.cell (p := ⟨b, off + m * 2, none⟩) (show b < wq.heap.size by omega)).trans cq
                | exact (hx7.cell (p := ⟨b, off + m * 2, none⟩) (show b < wq.heap.size by omega)).trans cq)
              (first
                | (go_at_call 28; refine (HOB.out _ (Below.refl _ wq).drew).mono ?_; rintro e w6 ⟨v6, rfl, o6, hb6⟩; obtain ⟨O6, d6, rfl, -, -, hO6⟩ := o6.form; have hx6 : Below wq.heap.size wq w6 := (Below.refl _ wq).drew.trans hb6)
                | (go_at_call 27; refine (HTA.out _ O6 d6 hx6 hO6).mono ?_; rintro e w7 ⟨rfl, hb7⟩; have hx7 : Below wq.heap.size wq w7 := hx6.trans (hb7.mono hx6.size)))
            have k7 := (k4.trans (hbq.mono hs4)).trans (hx7.mono (Nat.le_trans hs4 hsq))
            have hs7 := k7.size
            clear HTA HOB hb6 hb7 hx6 o6
            go_wp2_with fail
            go_ret
            exact ⟨rfl, k7⟩
          · have f1 : ((m : Int) + 1 == (L.length : Int)) = false := beq_eq_false_iff_ne.2 (by omega)
            have c2 := (HCC.out (m + 1) (by omega)).1
            have f2 : (0 : Int) ≤ (m : Int) + 1 := by omega
            have f3 : (m : Int) + 1 < (L.length : Int) := by omega
            have f4 : ((m : Int) + 1).toNat = m + 1 := by omega
            have f5 : decide (X L m < X L (m + 1)) = false := decide_eq_false hal2
            clear hdm hal1 hal2
            go_wp2_with fail
            go_quiet (fail)
            have hbq : Below w4.heap.size w4 (w4.drewN nq) := by (repeat (first | exact Below.refl w4.heap.size w4 | exact Below.refl _ _ | (with_reducible refine Below.drew ?_) | (with_reducible refine Below.drewN ?_ _) | (with_reducible refine Below.alloc ?_ ?_ _) | (with_reducible refine Below.setCell ?_ ?_ _) | (show _ ≤ _; focus (first | omega | (simp; done) | (simp; omega)))))
            generalize w4.drewN nq = wq at *
            have hsq := hbq.size
            have cq := (hbq.cell (p := ⟨b, off + m * 2, none⟩) hlb).trans c1
            have HOB := Lib.hid (fun (W : World) (hW : Below wq.heap.size wq W) => c_sOrderBy L (some ⟨b, off, none⟩) d 1 W ((hD4'.below (hbq.trans (hW.mono hsq))).more (by have := hW.size; omega)) (by omega))
            have HTA := Lib.hid (fun (W : World) (O6 : Option Addr) (d6 : Nat) (hW : Below wq.heap.size wq W) (hO : Is W W.heap.size O6 (orderR L 1)) => c_iThereAt L (orderR L 1) (some ⟨b, off, none⟩) O6 d d6 (X L m) W ((hD4'.below (hbq.trans (hW.mono hsq))).more (by have := hW.size; omega)) hO (by omega) (by have := HOL.out; omega))
            generalize thereV L (orderR L 1) (X L m) = th at HTA
            go_wp2_with fail
            go_region_held3 (fun w' => w'.cell? ⟨b, off + m * 2, none⟩ = some (.int .i64 (X L m)))
              (first
                | go_keep
                | exact (hx6.cell (p := ⟨b, off + m * 2, none⟩) (show b < wq.heap.size by omega)).trans cq
                | exact (hx7.cell (p := ⟨b, off + m * 2, none⟩) (show b < wq.heap.size by omega)).trans cq)
              (first
                | (go_at_call 28; refine (HOB.out _ (Below.refl _ wq).drew).mono ?_; rintro e w6 ⟨v6, rfl, o6, hb6⟩; obtain ⟨O6, d6, rfl, -, -, hO6⟩ := o6.form; have hx6 : Below wq.heap.size wq w6 := (Below.refl _ wq).drew.trans hb6)
                | (go_at_call 27; refine (HTA.out _ O6 d6 hx6 hO6).mono ?_; rintro e w7 ⟨rfl, hb7⟩; have hx7 : Below wq.heap.size wq w7 := hx6.trans (hb7.mono hx6.size)))
            have k7 := (k4.trans (hbq.mono hs4)).trans (hx7.mono (Nat.le_trans hs4 hsq))
            have hs7 := k7.size
            clear HTA HOB hb6 hb7 hx6 o6
            go_wp2_with fail
            go_ret
            exact ⟨rfl, k7⟩
      · obtain ⟨k, hk⟩ := Int.eq_ofNat_of_zero_le (show 0 ≤ leftF L m by omega)
        have hdm := HDL.out k hk
        have hkl : k < L.length := by omega
        rw [hk, hdm]
        rw [hdm] at hne hdb
        clear hk0 hlt hk hne
        by_cases hal1 : m + 1 = L.length
        · have f1 : ((m : Int) + 1 == (L.length : Int)) = true := beq_iff_eq.2 (by omega)
          have hth : thereV L (orderR L 1) (X L m) = 1 + deepF L k := (HTH.out (.inl hal1)).trans hdm
          clear hdm hal1
          go_wp2_with fail
          go_quiet (fail)
          have hbq : Below w4.heap.size w4 (w4.drewN nq) := by (repeat (first | exact Below.refl w4.heap.size w4 | exact Below.refl _ _ | (with_reducible refine Below.drew ?_) | (with_reducible refine Below.drewN ?_ _) | (with_reducible refine Below.alloc ?_ ?_ _) | (with_reducible refine Below.setCell ?_ ?_ _) | (show _ ≤ _; focus (first | omega | (simp; done) | (simp; omega)))))
          generalize w4.drewN nq = wq at *
          have hsq := hbq.size
          have cq := (hbq.cell (p := ⟨b, off + m * 2, none⟩) hlb).trans c1
          have HOB := Lib.hid (fun (W : World) (hW : Below wq.heap.size wq W) => c_sOrderBy L (some ⟨b, off, none⟩) d 1 W ((hD4'.below (hbq.trans (hW.mono hsq))).more (by have := hW.size; omega)) (by omega))
          have HTA := Lib.hid (fun (W : World) (O6 : Option Addr) (d6 : Nat) (hW : Below wq.heap.size wq W) (hO : Is W W.heap.size O6 (orderR L 1)) => c_iThereAt L (orderR L 1) (some ⟨b, off, none⟩) O6 d d6 (X L m) W ((hD4'.below (hbq.trans (hW.mono hsq))).more (by have := hW.size; omega)) hO (by omega) (by have := HOL.out; omega))
          rw [hth] at HTA
          clear hth
          go_wp2_with fail
          go_region_held3 (fun w' => w'.cell? ⟨b, off + m * 2, none⟩ = some (.int .i64 (X L m)))
            (first
              | go_keep
              | exact (hx6.cell (p := ⟨b, off + m * 2, none⟩) (show b < wq.heap.size by omega)).trans cq
              | exact (hx7.cell (p := ⟨b, off + m * 2, none⟩) (show b < wq.heap.size by omega)).trans cq)
            (first
              | (go_at_call 28; refine (HOB.out _ (Below.refl _ wq).drew).mono ?_; rintro e w6 ⟨v6, rfl, o6, hb6⟩; obtain ⟨O6, d6, rfl, -, -, hO6⟩ := o6.form; have hx6 : Below wq.heap.size wq w6 := (Below.refl _ wq).drew.trans hb6)
              | (go_at_call 27; refine (HTA.out _ O6 d6 hx6 hO6).mono ?_; rintro e w7 ⟨rfl, hb7⟩; have hx7 : Below wq.heap.size wq w7 := hx6.trans (hb7.mono hx6.size)))
          have k7 := (k4.trans (hbq.mono hs4)).trans (hx7.mono (Nat.le_trans hs4 hsq))
          have hs7 := k7.size
          have HKD := Lib.hid (HDP.out k hkl w7 ((hD4'.below (hbq.trans (hx7.mono hsq))).more (by have := hx7.size; omega)))
          have hdkb := deepF_bd L k
          clear HTA HOB hb6 hb7 hx6 o6
          generalize deepF L k = dk at *
          have f6 : (1 + dk == dk + 1) = true := beq_iff_eq.2 (by omega)
          have f7 : decide ((0 : Int) ≤ (k : Int)) = true := decide_eq_true (by omega)
          have f8 : decide ((k : Int) < 0) = false := decide_eq_false (by omega)
          go_wp2_with fail
          refine HKD.out.mono ?_
          rintro e w8 ⟨rfl, hb8⟩
          go_wp2_with fail
          go_ret
          exact ⟨rfl, k7.trans (hb8.mono hs7)⟩
        · by_cases hal2 : X L m < X L (m + 1)
          · have f1 : ((m : Int) + 1 == (L.length : Int)) = false := beq_eq_false_iff_ne.2 (by omega)
            have c2 := (HCC.out (m + 1) (by omega)).1
            have f2 : (0 : Int) ≤ (m : Int) + 1 := by omega
            have f3 : (m : Int) + 1 < (L.length : Int) := by omega
            have f4 : ((m : Int) + 1).toNat = m + 1 := by omega
            have f5 : decide (X L m < X L (m + 1)) = true := decide_eq_true hal2
            have hth : thereV L (orderR L 1) (X L m) = 1 + deepF L k := (HTH.out (.inr hal2)).trans hdm
            clear hdm hal1 hal2
            go_wp2_with fail
            go_quiet (fail)
            have hbq : Below w4.heap.size w4 (w4.drewN nq) := by (repeat (first | exact Below.refl w4.heap.size w4 | exact Below.refl _ _ | (with_reducible refine Below.drew ?_) | (with_reducible refine Below.drewN ?_ _) | (with_reducible refine Below.alloc ?_ ?_ _) | (with_reducible refine Below.setCell ?_ ?_ _) | (show _ ≤ _; focus (first | omega | (simp; done) | (simp; omega)))))
            generalize w4.drewN nq = wq at *
            have hsq := hbq.size
            have cq := (hbq.cell (p := ⟨b, off + m * 2, none⟩) hlb).trans c1
            have HOB := Lib.hid (fun (W : World) (hW : Below wq.heap.size wq W) => c_sOrderBy L (some ⟨b, off, none⟩) d 1 W ((hD4'.below (hbq.trans (hW.mono hsq))).more (by have := hW.size; omega)) (by omega))
            have HTA := Lib.hid (fun (W : World) (O6 : Option Addr) (d6 : Nat) (hW : Below wq.heap.size wq W) (hO : Is W W.heap.size O6 (orderR L 1)) => c_iThereAt L (orderR L 1) (some ⟨b, off, none⟩) O6 d d6 (X L m) W ((hD4'.below (hbq.trans (hW.mono hsq))).more (by have := hW.size; omega)) hO (by omega) (by have := HOL.out; omega))
            rw [hth] at HTA
            clear hth
            go_wp2_with fail
            go_region_held3 (fun w' => w'.cell? ⟨b, off + m * 2, none⟩ = some (.int .i64 (X L m)))
              (first
                | go_keep
                | exact (hx6.cell (p := ⟨b, off + m * 2, none⟩) (show b < wq.heap.size by omega)).trans cq
                | exact (hx7.cell (p := ⟨b, off + m * 2, none⟩) (show b < wq.heap.size by omega)).trans cq)
              (first
                | (go_at_call 28; refine (HOB.out _ (Below.refl _ wq).drew).mono ?_; rintro e w6 ⟨v6, rfl, o6, hb6⟩; obtain ⟨O6, d6, rfl, -, -, hO6⟩ := o6.form; have hx6 : Below wq.heap.size wq w6 := (Below.refl _ wq).drew.trans hb6)
                | (go_at_call 27; refine (HTA.out _ O6 d6 hx6 hO6).mono ?_; rintro e w7 ⟨rfl, hb7⟩; have hx7 : Below wq.heap.size wq w7 := hx6.trans (hb7.mono hx6.size)))
            have k7 := (k4.trans (hbq.mono hs4)).trans (hx7.mono (Nat.le_trans hs4 hsq))
            have hs7 := k7.size
            have HKD := Lib.hid (HDP.out k hkl w7 ((hD4'.below (hbq.trans (hx7.mono hsq))).more (by have := hx7.size; omega)))
            have hdkb := deepF_bd L k
            clear HTA HOB hb6 hb7 hx6 o6
            generalize deepF L k = dk at *
            have f6 : (1 + dk == dk + 1) = true := beq_iff_eq.2 (by omega)
            have f7 : decide ((0 : Int) ≤ (k : Int)) = true := decide_eq_true (by omega)
            have f8 : decide ((k : Int) < 0) = false := decide_eq_false (by omega)
            go_wp2_with fail
            refine HKD.out.mono ?_
            rintro e w8 ⟨rfl, hb8⟩
            go_wp2_with fail
            go_ret
            exact ⟨rfl, k7.trans (hb8.mono hs7)⟩
          · have f1 : ((m : Int) + 1 == (L.length : Int)) = false := beq_eq_false_iff_ne.2 (by omega)
            have c2 := (HCC.out (m + 1) (by omega)).1
            have f2 : (0 : Int) ≤ (m : Int) + 1 := by omega
            have f3 : (m : Int) + 1 < (L.length : Int) := by omega
            have f4 : ((m : Int) + 1).toNat = m + 1 := by omega
            have f5 : decide (X L m < X L (m + 1)) = false := decide_eq_false hal2
            clear hdm hal1 hal2
            go_wp2_with fail
            go_quiet (fail)
            have hbq : Below w4.heap.size w4 (w4.drewN nq) := by (repeat (first | exact Below.refl w4.heap.size w4 | exact Below.refl _ _ | (with_reducible refine Below.drew ?_) | (with_reducible refine Below.drewN ?_ _) | (with_reducible refine Below.alloc ?_ ?_ _) | (with_reducible refine Below.setCell ?_ ?_ _) | (show _ ≤ _; focus (first | omega | (simp; done) | (simp; omega)))))
            generalize w4.drewN nq = wq at *
            have hsq := hbq.size
            have cq := (hbq.cell (p := ⟨b, off + m * 2, none⟩) hlb).trans c1
            have HOB := Lib.hid (fun (W : World) (hW : Below wq.heap.size wq W) => c_sOrderBy L (some ⟨b, off, none⟩) d 1 W ((hD4'.below (hbq.trans (hW.mono hsq))).more (by have := hW.size; omega)) (by omega))
            have HTA := Lib.hid (fun (W : World) (O6 : Option Addr) (d6 : Nat) (hW : Below wq.heap.size wq W) (hO : Is W W.heap.size O6 (orderR L 1)) => c_iThereAt L (orderR L 1) (some ⟨b, off, none⟩) O6 d d6 (X L m) W ((hD4'.below (hbq.trans (hW.mono hsq))).more (by have := hW.size; omega)) hO (by omega) (by have := HOL.out; omega))
            generalize thereV L (orderR L 1) (X L m) = th at HTA
            go_wp2_with fail
            go_region_held3 (fun w' => w'.cell? ⟨b, off + m * 2, none⟩ = some (.int .i64 (X L m)))
              (first
                | go_keep
                | exact (hx6.cell (p := ⟨b, off + m * 2, none⟩) (show b < wq.heap.size by omega)).trans cq
                | exact (hx7.cell (p := ⟨b, off + m * 2, none⟩) (show b < wq.heap.size by omega)).trans cq)
              (first
                | (go_at_call 28; refine (HOB.out _ (Below.refl _ wq).drew).mono ?_; rintro e w6 ⟨v6, rfl, o6, hb6⟩; obtain ⟨O6, d6, rfl, -, -, hO6⟩ := o6.form; have hx6 : Below wq.heap.size wq w6 := (Below.refl _ wq).drew.trans hb6)
                | (go_at_call 27; refine (HTA.out _ O6 d6 hx6 hO6).mono ?_; rintro e w7 ⟨rfl, hb7⟩; have hx7 : Below wq.heap.size wq w7 := hx6.trans (hb7.mono hx6.size)))
            have k7 := (k4.trans (hbq.mono hs4)).trans (hx7.mono (Nat.le_trans hs4 hsq))
            have hs7 := k7.size
            have HKD := Lib.hid (HDP.out k hkl w7 ((hD4'.below (hbq.trans (hx7.mono hsq))).more (by have := hx7.size; omega)))
            have hdkb := deepF_bd L k
            clear HTA HOB hb6 hb7 hx6 o6
            generalize deepF L k = dk at *
            have f6 : (1 + dk == dk + 1) = true := beq_iff_eq.2 (by omega)
            have f7 : decide ((0 : Int) ≤ (k : Int)) = true := decide_eq_true (by omega)
            have f8 : decide ((k : Int) < 0) = false := decide_eq_false (by omega)
            go_wp2_with fail
            refine HKD.out.mono ?_
            rintro e w8 ⟨rfl, hb8⟩
            go_wp2_with fail
            go_ret
            exact ⟨rfl, k7.trans (hb8.mono hs7)⟩
    | false =>
      rw [deepV_no hp]
      clear hp hne
      go_wp2_with fail
      refine (c_alive _).mono ?_
      rintro e w5 ⟨rfl, hb5⟩
      go_wp2_with fail
      go_ret
      exact ⟨rfl, k3.trans (hb5.mono hs3)⟩
  · go_enter Try.func6, Try.ntmps6
    go_wp2_with fail
    go_ret
    exact ⟨rfl, Below.refl _ _⟩

end Go.Proofs.Ytmimcgjobgfgfaa

