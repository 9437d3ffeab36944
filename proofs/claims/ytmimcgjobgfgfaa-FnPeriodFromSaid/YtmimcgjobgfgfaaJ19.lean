/- walks of the laws of chapter 8, third part: FnLastTimes -/
import Derived.Test.YtmimcgjobgfgfaaKQ
import Derived.Test.YtmimcgjobgfgfaaV10
import Derived.Test.YtmimcgjobgfgfaaI7
import Derived.Test.YtmimcgjobgfgfaaH
namespace Go.Proofs.Ytmimcgjobgfgfaa
set_option linter.unusedVariables false
open Go.RowKit
attribute [local go_sem ↓] Go.wp_at_zero Go.wp_at_succ

theorem lastR_yes {L : List (Int × Int)} (hc : cOk L = true) : lastR L = (List.range L.length).map fun k => perE L k - X L k := lasts hc
theorem lastR_no {L : List (Int × Int)} (hc : cOk L = false) : lastR L = [] := by
  have h : ordOk L (orderR L 1) = false := by simp [ordOk, hc]
  unfold lastR; rw [timesR_no h]
theorem lastR_Z {L : List (Int × Int)} (hc : cOk L = true) {k : Nat} (hk : k < L.length) : Z (lastR L) k = perE L k - X L k := by
  rw [lastR_yes hc]; simp [Z, hk]
theorem lastR_tail {L : List (Int × Int)} (hc : cOk L = true) : lastR (L.drop 1) = (lastR L).drop 1 := by
  rw [lastR_yes hc, lastR_yes (cOk_drop hc 1)]
  refine List.ext_getElem (by simp) fun k h1 h2 => ?_
  simp only [List.getElem_map, List.getElem_range, List.getElem_drop, perE_drop, X_drop]
theorem Cs.dropC {w : World} {B b off : Nat} {L : List (Int × Int)} (h : Cs w B (some ⟨b, off, none⟩) L) (k : Nat) : Cs w B (some ⟨b, off + k * 2, none⟩) (L.drop k) := by
  intro hp
  rw [List.length_drop] at hp
  obtain ⟨b', off', e, hlt, hc⟩ := h (by omega)
  cases e
  refine ⟨b, off + k * 2, rfl, hlt, fun j hj => ?_⟩
  rw [List.length_drop] at hj
  rw [X_drop, Y_drop]
  have := hc (k + j) (by omega)
  rw [show off + k * 2 + j * 2 = off + (k + j) * 2 by omega]
  exact this
theorem Is.dropD {w : World} {B b off : Nat} {xs : List Int} (h : Is w B (some ⟨b, off, none⟩) xs) (k : Nat) : Is w B (some ⟨b, off + k, none⟩) (xs.drop k) := by
  intro hp
  rw [List.length_drop] at hp
  obtain ⟨b', off', e, hlt, hc⟩ := h (by omega)
  cases e
  refine ⟨b, off + k, rfl, hlt, fun j hj => ?_⟩
  rw [List.length_drop] at hj
  have := hc (k + j) (by omega)
  rw [show off + k + j = off + (k + j) by omega, this]
  simp [Z]

set_option maxRecDepth 4000 in
set_option maxHeartbeats 8000000 in
theorem w_FnLastTimes (A : Option Addr) (n c : Nat) (w : World) (h : Bs w w.heap.size A n) (hc : n ≤ c) :
    Calls Try.prog 3 #[.slice A n c] w fun e w' => e = .returned (.bool true) ∧ Below w.heap.size w w' := by
  by_cases hn : n ≤ 1048576
  · go_enter Try.func3, Try.ntmps3
    go_wp2_with fail
    refine (c_DrawLastTimes A n c _ h hn hc).mono ?_
    rintro e w1 ⟨L, v, rfl, hv, hl, -, hb1⟩
    obtain ⟨D, d, rfl, hd1, hd2, hD⟩ := hv.form
    have hs1 := hb1.size
    have hrl := lastR_len L
    clear hv h
    go_wp2_with fail
    refine (c_iLastTimes L D d _ hD hd1 (by omega)).mono ?_
    rintro e w2 ⟨v2, rfl, o2, hb2⟩
    have k2 := hb1.trans (hb2.mono hs1)
    have hs2 := k2.size
    have hD2 := (hD.below hb2).more hb2.size
    obtain ⟨G, g, rfl, hg1, hg2, hG⟩ := o2.form
    clear hb1 hb2 hD o2
    go_wp2_with fail
    refine (c_sLastTimes L D d _ hD2 (by omega)).mono ?_
    rintro e w3 ⟨v3, rfl, o3, hb3⟩
    have k3 := k2.trans (hb3.mono hs2)
    have hs3 := k3.size
    have hD3 := (hD2.below hb3).more hb3.size
    have hG3 := (hG.below hb3).more hb3.size
    obtain ⟨S, s, rfl, hg4, hg5, hS⟩ := o3.form
    clear k2 hb3 hD2 hG o3
    go_wp2_with fail
    refine (c_sameInts (lastR L) G S _ _ g s _ hG3 hS (by omega)).mono ?_
    rintro e w4 ⟨rfl, hb4⟩
    have k4 := k3.trans (hb4.mono hs3)
    have hs4 := k4.size
    have hD4 := (hD3.below hb4).more hb4.size
    have hG4 := (hG3.below hb4).more hb4.size
    clear k3 hb4 hD3 hG3 hS
    cases hok : cOk L with
    | true =>
      by_cases h0 : 0 < L.length
      · have hll : (lastR L).length = L.length := by rw [lastR_yes hok]; simp
        have hz : ((L.length : Int) == 0) = false := beq_eq_false_iff_ne.2 (by omega)
        have HZ := Lib.hid (fun k (hk : k < L.length) => lastR_Z hok hk)
        have HT := Lib.hid (lastR_tail hok)
        have HPV := Lib.hid (fun (k : Nat) (hk : k < L.length) (W : World) (hW : Cs W W.heap.size D L) => show Calls Try.prog 17 #[.slice D L.length d, .int .i64 (k : Int)] W fun e w' => e = .returned (.int .i64 (perE L k - X L k)) ∧ Below W.heap.size W w' from by
          have K := c_iPeriodFrom L D d (k : Int) W hW hd1 (by omega)
          rw [perV_yes (placeOk_mk hok hk), Int.toNat_natCast] at K
          exact K)
        rw [hll] at hg1 hg4 ⊢
        have HLL := Lib.hid hll
        clear hok hll hrl
        go_wp2_with fail
        go_loopw [5] (fun iv wr => ∃ k : Nat, k ≤ L.length ∧ iv = .int .i64 k ∧ Below w4.heap.size w4 wr) (fun iv _ => L.length - (intOf iv).toNat)
        case atStart => exact ⟨0, by omega, rfl, Below.refl _ _⟩
        case round =>
          obtain ⟨k, hk, rfl, hb⟩ := hrel
          have hsz := hb.size
          have hDr := (hD4.below hb).more hsz
          have hGr := (hG4.below hb).more hsz
          by_cases hlt : k < L.length
          · obtain ⟨gb, go, rfl, hgb, hgc⟩ := hGr (by rw [HLL.out]; omega)
            have c0 := hgc k (by rw [HLL.out]; omega)
            rw [HZ.out k hlt] at c0
            have r0 : (0 : Int) ≤ (k : Int) := by omega
            have r1 : (k : Int) < (L.length : Int) := by omega
            have HK := Lib.hid (HPV.out k hlt)
            have hne : (perE L k - X L k != perE L k - X L k) = false := by simp
            clear hgc
            generalize perE L k - X L k = q at *
            have e1 := WB.cell (B := wr.heap.size) hgb c0
            go_wp2_with fail
            refine wp_region_wb wr.heap.size (by kernel_rfl) (by kernel_rfl) ?_
            repeat (go_big_quiet_step ((go_at_call 17; exact Calls.inB (Nat.le_refl _) (HK.out _ (WB.cs _ hDr (Nat.le_refl _))))))
            refine wpQuiet_nil ?_
            rintro w5 ⟨⟨_, hb5⟩, rfl⟩
            clear e1 c0 HK
            go_wp2_with fail
            go_roundw
            case rel => exact ⟨k + 1, by omega, by go_num, hb.trans (hb5.mono hsz)⟩
            case measure => simp [intOf]; omega
          · have hlf : ¬ ((k : Int) < (L.length : Int)) := by omega
            have kr := k4.trans (hb.mono hs4)
            have hsr := kr.size
            obtain ⟨b, off, rfl, hlb, hcc⟩ := hDr h0
            obtain ⟨gb, go, rfl, hgb, hgc⟩ := hGr (by rw [HLL.out]; omega)
            have hDr2 : Cs wr wr.heap.size (some ⟨b, off, none⟩) L := fun _ => ⟨b, off, rfl, hlb, hcc⟩
            have hGr2 : Is wr wr.heap.size (some ⟨gb, go, none⟩) (lastR L) := fun _ => ⟨gb, go, rfl, hgb, hgc⟩
            have hll2 : (lastR (L.drop 1)).length = L.length - 1 := by rw [HT.out, List.length_drop, HLL.out]
            have hd1' : (1 : Int) ≤ (d : Int) := by omega
            have hg1' : (1 : Int) ≤ (g : Int) := by omega
            have p2 : (1 : Int) ≤ (L.length : Int) := by omega
            have hcs := hDr2.dropC 1
            have his := hGr2.dropD 1
            rw [← HT.out] at his
            rw [Nat.one_mul] at hcs
            have HLW := Lib.hid (fun (Q : Option Addr) (q : Nat) (W : World) (hb : Below wr.heap.size wr W) (h : Cs wr wr.heap.size Q (L.drop 1)) (hq : L.length - 1 ≤ q) => show Calls Try.prog 12 #[.slice Q (L.length - 1) q] W fun e w' => ∃ v, e = .returned v ∧ IO w' W.heap.size v (lastR (L.drop 1)) ∧ Below W.heap.size W w' from by
              have K := c_iLastTimes (L.drop 1) Q q W ((h.below hb).more hb.size) (by rw [List.length_drop]; omega) (by rw [List.length_drop]; omega)
              rw [List.length_drop] at K
              exact K)
            have HSW := Lib.hid (fun (Q R : Option Addr) (q r B1 B2 : Nat) (W : World) (h : Is W B1 Q (lastR (L.drop 1))) (h2 : Is W B2 R (lastR (L.drop 1))) => show Calls Try.prog 13 #[.slice Q (L.length - 1) q, .slice R (L.length - 1) r] W fun e w' => e = .returned (.bool true) ∧ Below W.heap.size W w' from by
              have K := c_sameInts (lastR (L.drop 1)) Q R B1 B2 q r W h h2 (by rw [hll2]; omega)
              rw [hll2] at K
              exact K)
            have hcs1 : Cs wr wr.heap.size (if d = 1 then some ⟨b, off, none⟩ else some ⟨b, off + 2, none⟩) (L.drop 1) := by
              split
              · intro hp; rw [List.length_drop] at hp; omega
              · exact hcs
            have his1 : Is wr wr.heap.size (if g = 1 then some ⟨gb, go, none⟩ else some ⟨gb, go + 1, none⟩) (lastR (L.drop 1)) := by
              split
              · intro hp; rw [hll2] at hp; omega
              · exact his
            clear hgc hcc hGr2 hDr2 HPV HT HZ hcs his
            generalize lastR (L.drop 1) = T at *
            obtain ⟨Q1, hQ1⟩ : ∃ Q1, (if d = 1 then some (⟨b, off, none⟩ : Addr) else some ⟨b, off + 2, none⟩) = Q1 := ⟨_, rfl⟩
            obtain ⟨R1, hR1⟩ : ∃ R1, (if g = 1 then some (⟨gb, go, none⟩ : Addr) else some ⟨gb, go + 1, none⟩) = R1 := ⟨_, rfl⟩
            rw [hQ1] at hcs1
            rw [hR1] at his1
            go_wp2_with fail
            go_region_held3 (fun _ => True)
              (first
                | go_keep
                | trivial)
              (first
                | (go_at_call 12; refine (HLW.out _ _ _ (Below.refl _ wr).drew hcs1 (by omega)).mono ?_; rintro e w6 ⟨v6, rfl, o6, hb6⟩; obtain ⟨O6, d6, rfl, -, -, hO6⟩ := o6.form; rw [hll2]; have hx6 : Below wr.heap.size wr w6 := (Below.refl _ wr).drew.trans hb6)
                | (go_at_call 13; refine (HSW.out _ _ _ _ _ _ _ hO6 ((his1.below hx6).more hx6.size)).mono ?_; rintro e w7 ⟨rfl, hb7⟩; have hx7 : Below wr.heap.size wr w7 := hx6.trans (hb7.mono hx6.size)))
            go_wp2_with fail
            go_ret
            exact ⟨rfl, kr.trans (hx7.mono hsr)⟩
      · have hL0 : L = [] := List.eq_nil_of_length_eq_zero (by omega)
        subst hL0
        have hl0 : (lastR []).length = 0 := by rw [lastR_yes hok]; rfl
        rw [hl0]
        clear hl0 hg1 hok hrl
        go_wp2_with fail
        refine (c_alive _).mono ?_
        rintro e w6 ⟨rfl, hb6⟩
        go_wp2_with fail
        go_ret
        exact ⟨rfl, k4.trans (hb6.mono hs4)⟩
    | false =>
      have hp : 0 < L.length := by
        rcases Nat.eq_zero_or_pos L.length with h | h
        · rw [List.eq_nil_of_length_eq_zero h] at hok; exact absurd hok (by decide)
        · exact h
      have hLb : ((L.length : Int) == 0) = false := beq_eq_false_iff_ne.2 (by omega)
      have hl0 : (lastR L).length = 0 := by rw [lastR_no hok]; rfl
      have H := Lib.hid hok
      clear hok hrl
      rw [hl0]
      clear hl0 hg1
      go_wp2_with fail
      refine (c_iCustomersOk L D d _ hD4 (by omega)).mono ?_
      rintro e w5 ⟨rfl, hb5⟩
      rw [H.out]
      have k5 := k4.trans (hb5.mono hs4)
      have hs5 := k5.size
      go_wp2_with fail
      refine (c_alive _).mono ?_
      rintro e w6 ⟨rfl, hb6⟩
      go_wp2_with fail
      go_ret
      exact ⟨rfl, k5.trans (hb6.mono hs5)⟩
  · go_enter Try.func3, Try.ntmps3
    go_wp2_with fail
    go_ret
    exact ⟨rfl, Below.refl _ _⟩

end Go.Proofs.Ytmimcgjobgfgfaa

