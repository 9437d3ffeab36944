/- helpers of the exact laws for desks: marks -/
import Derived.Test.YtpbmehodcllncaaX8
namespace Go.Proofs.Ytpbmehodcllncaa
set_option linter.unusedVariables false
open Go.RowKit
attribute [local go_sem ↓] Go.wp_at_zero Go.wp_at_succ

/-- the first i lists are marked -/
def markedTo (Ls : List (List (Int × Int))) (k0 : Int) (i : Nat) : List (List (Int × Int)) := (List.range Ls.length).map fun j => if j < i then marks (LL Ls j).length (k0 + 2 * (totL Ls j : Int)) else LL Ls j
theorem markedTo_len (Ls : List (List (Int × Int))) (k0 : Int) (i : Nat) : (markedTo Ls k0 i).length = Ls.length := by simp [markedTo]
theorem markedTo_LL {Ls : List (List (Int × Int))} {k0 : Int} {i j : Nat} (h : j < Ls.length) : LL (markedTo Ls k0 i) j = if j < i then marks (LL Ls j).length (k0 + 2 * (totL Ls j : Int)) else LL Ls j := by
  rw [LL_get (by rw [markedTo_len]; exact h)]
  simp [markedTo]
theorem markedTo_zero (Ls : List (List (Int × Int))) (k0 : Int) : markedTo Ls k0 0 = Ls := by
  refine List.ext_getElem (markedTo_len _ _ _) fun i h1 h2 => ?_
  have := markedTo_LL (Ls := Ls) (k0 := k0) (i := 0) h2
  rw [LL_get h1, if_neg (by omega), LL_get h2] at this
  exact this
theorem markedTo_succ {Ls : List (List (Int × Int))} {k0 : Int} {i : Nat} (h : i < Ls.length) : (markedTo Ls k0 i).set i (marks (LL Ls i).length (k0 + 2 * (totL Ls i : Int))) = markedTo Ls k0 (i + 1) := by
  refine List.ext_getElem (by simp [markedTo]) fun j h1 h2 => ?_
  have hj : j < Ls.length := by rw [List.length_set, markedTo_len] at h1; exact h1
  rw [List.getElem_set]
  by_cases e : i = j
  · subst e
    simp [markedTo]
  · rw [if_neg e]
    simp only [markedTo, List.getElem_map, List.getElem_range]
    by_cases hi : j < i
    · rw [if_pos hi, if_pos (by omega)]
    · rw [if_neg hi, if_neg (by omega)]
/-- one of the rows is written -/
theorem PL.write {w w' : World} {base : Nat} {v : Value} {Ls : List (List (Int × Int))} {vs : List Value} {k : Nat} {ys : List (Int × Int)} (h : PL w base v Ls vs) (hk : k < Ls.length) (hin : CO w' base (vs.getD k undef) ys) (hg : w.grownBy w' (vs.getD k undef).ownBlock) : PL w' base v (Ls.set k ys) vs := by
  have hll : ∀ j, j < Ls.length → LL (Ls.set k ys) j = if k = j then ys else LL Ls j := fun j hj => by
    rw [LL_get (by simpa using hj), List.getElem_set, LL_get hj]
  refine ⟨?_, by rw [List.length_set]; exact h.len, fun j hj => ?_, fun j hj => ?_, fun i j hi hj => ?_⟩
  · rw [List.length_set]
    rcases h.row with ⟨rfl, h0⟩ | ⟨g, off, c, rfl, h1, h2, h3, h4, h5, h6⟩
    · rw [h0] at hk; simp at hk
    · have hne : (Value.slice (some ⟨g, off, none⟩) Ls.length c).ownBlock = some g := rfl
      have hb : ∀ o, (w'.heap[(⟨g, o, none⟩ : Addr).block]?) = w.heap[(⟨g, o, none⟩ : Addr).block]? := fun o => hg.block g h4 fun e => h.apart k hk g e.symm hne
      exact .inr ⟨g, off, c, rfl, h1, h2, h3, Nat.lt_of_lt_of_le h4 hg.size, fun j hj => (World.cell?_of_block (hb _)).trans (h5 j hj), fun j hj => by
        have := h6 j hj
        rw [World.cell?_of_block (hb _), World.frozen?_of_block (hb _)]
        exact this⟩
  · rw [List.length_set] at hj
    rw [hll j hj]
    by_cases e : k = j
    · subst e; rw [if_pos rfl]; exact hin
    · rw [if_neg e]
      exact (h.inner j hj).grownR' hg (fun r hr e2 => h.diff k j hk hj e r e2 hr)
  · rw [List.length_set] at hj; exact h.apart j hj
  · rw [List.length_set] at hi hj; exact h.diff i j hi hj

set_option maxRecDepth 8000 in
set_option maxHeartbeats 4000000 in
theorem c_markCC (Ls : List (List (Int × Int))) (k0 : Int) (v : Value) (vs : List Value) (base : Nat) (w : World) (hv : PL w base v Ls vs) (hn : Ls.length ≤ 1048576) (ht : totL Ls Ls.length ≤ 1048576) (hk0 : 0 ≤ k0) (hk1 : k0 ≤ 100000000) (hbase : base ≤ w.heap.size) :
    Calls Try.prog 65 #[v, .int .i64 k0] w fun e w' => e = .returned (.int .i64 (k0 + 2 * (totL Ls Ls.length : Int))) ∧ PL w' base v (markedTo Ls k0 Ls.length) vs ∧ Below base w w' ∧ (∀ b, b < w.heap.size → (∀ k, k < Ls.length → (vs.getD k undef).ownBlock ≠ some b) → w'.heap[b]? = w.heap[b]?) := by
  obtain ⟨A, c, rfl⟩ : ∃ A c, v = .slice A Ls.length c := by
    rcases hv.row with ⟨rfl, h0⟩ | ⟨g, off, c, rfl, _⟩
    · exact ⟨none, 0, by rw [h0]; rfl⟩
    · exact ⟨_, c, rfl⟩
  have HT := Lib.hid (fun k (hk : k < Ls.length) => totL_at hk)
  go_enter Try.func65, Try.ntmps65
  go_wp2_with fail
  go_loopw [1, 5] (fun q i wr => ∃ k : Nat, k ≤ Ls.length ∧ i = .int .i64 k ∧ q = .int .i64 (k0 + 2 * (totL Ls k : Int)) ∧ PL wr base (.slice A Ls.length c) (markedTo Ls k0 k) vs ∧ Below base w wr ∧ Hid (∀ b, b < w.heap.size → (∀ k, k < Ls.length → (vs.getD k undef).ownBlock ≠ some b) → wr.heap[b]? = w.heap[b]?)) (fun _ i _ => Ls.length - (intOf i).toNat)
  case atStart => exact ⟨0, Nat.zero_le _, rfl, by simp [totL], by rw [markedTo_zero]; exact hv, Below.refl _ _, Lib.hid fun _ _ _ => rfl⟩
  case round =>
    obtain ⟨k, hk, rfl, rfl, hown, hb, HO⟩ := hrel
    have hsz := hb.size
    by_cases hlt : k < Ls.length
    · have htk := HT.out k hlt
      have hin := hown.inner k (by rw [markedTo_len]; exact hlt)
      rw [markedTo_LL hlt, if_neg (by omega)] at hin
      obtain ⟨g, off, rfl, c1⟩ : ∃ g off, A = some ⟨g, off, none⟩ ∧ wr.cell? ⟨g, off + k, none⟩ = some (vs.getD k undef) := by
        rcases hown.row with ⟨e, h0⟩ | ⟨g, off, c', e, -, -, -, -, h5, -⟩
        · have := markedTo_len Ls k0 k; rw [h0] at this; simp at this; omega
        · injection e with e1
          exact ⟨g, off, e1, h5 k (by rw [markedTo_len]; exact hlt)⟩
      obtain ⟨ri, ci, hvk, -, -, -⟩ := hin.form
      have HW := Lib.hid (fun w' (h1 : CO w' base (vs.getD k undef) (marks (LL Ls k).length (k0 + 2 * (totL Ls k : Int)))) (h2 : wr.grownBy w' (vs.getD k undef).ownBlock) => show PL w' base (.slice (some ⟨g, off, none⟩) Ls.length c) (markedTo Ls k0 (k + 1)) vs from by
        have := hown.write (k := k) (by rw [markedTo_len]; exact hlt) h1 h2
        rw [markedTo_succ hlt] at this
        exact this)
      have HK := Lib.hid (c_markCustomerS (LL Ls k) (k0 + 2 * (totL Ls k : Int)) (vs.getD k undef) base wr hin (by omega) (by omega) (by omega))
      have HB := Lib.hid (owns_base hin)
      have HV := Lib.hid hvk
      have HNE := Lib.hid (fun b (hall : ∀ j, j < Ls.length → (vs.getD j undef).ownBlock ≠ some b) => show (vs.getD k undef).ownBlock ≠ some b from hall k hlt)
      have p1 : (0 : Int) ≤ (k : Int) := by omega
      have p2 : (k : Int) < (Ls.length : Int) := by omega
      generalize vs.getD k undef = vk at *
      subst hvk
      clear hin hown
      go_wp2_with fail
      refine HK.out.mono ?_
      rintro e w1 ⟨rfl, hin1, hg1⟩
      have hw := HW.out w1 hin1 hg1
      have hb1 : Below base wr w1 := (Below.refl _ _).grown hg1 (by omega) HB.out
      have HO2 : Hid (∀ b, b < w.heap.size → (∀ k, k < Ls.length → (vs.getD k undef).ownBlock ≠ some b) → w1.heap[b]? = w.heap[b]?) := Lib.hid fun b hbl hall => (hg1.block b (by omega) (fun e => HNE.out b hall e.symm)).trans (HO.out b hbl hall)
      clear hg1 hin1 HW HK HV
      go_wp2_with fail
      go_roundw
      case rel => exact ⟨k + 1, by omega, by go_num, by simp only [totL]; congr 1; simp; omega, hw, hb.trans hb1, HO2⟩
      case measure => simp [intOf]; omega
    · go_wp2_with fail
      go_ret
      obtain rfl : k = Ls.length := by omega
      exact ⟨rfl, hown, hb, HO.out⟩

set_option maxRecDepth 8000 in
set_option maxHeartbeats 2000000 in
theorem c_heldCC (Ls : List (List (Int × Int))) (k0 : Int) (A : Option Addr) (c B : Nat) (w : World) (hA : Css w B A (markedTo Ls k0 Ls.length)) (ht : totL Ls Ls.length ≤ 1048576) (hk0 : 0 ≤ k0) (hk1 : k0 ≤ 100000000) (hn : Ls.length ≤ 1048576) :
    Calls Try.prog 67 #[.slice A Ls.length c, .int .i64 k0] w fun e w' => e = .returned (.int .i64 (k0 + 2 * (totL Ls Ls.length : Int))) ∧ w = w' := by
  have HA := Lib.hid hA
  have HT := Lib.hid (fun k (hk : k < Ls.length) => totL_at hk)
  clear hA
  go_enter Try.func67, Try.ntmps67
  go_wp2_with fail
  go_loop [1, 5] (fun q i => ∃ k : Nat, k ≤ Ls.length ∧ i = .int .i64 k ∧ q = .int .i64 (k0 + 2 * (totL Ls k : Int))) (fun _ i => Ls.length - (intOf i).toNat)
  case atStart => exact ⟨0, Nat.zero_le _, rfl, by simp [totL]⟩
  case round =>
    obtain ⟨k, hk, rfl, rfl⟩ := hrel
    by_cases hlt : k < Ls.length
    · have htk := HT.out k hlt
      obtain ⟨b, off, rfl, hlb, hc⟩ := HA.out (by rw [markedTo_len]; omega)
      obtain ⟨Ak, ck, c1, -, hcs⟩ := hc k (by rw [markedTo_len]; exact hlt)
      rw [markedTo_LL hlt, if_pos hlt] at c1 hcs
      rw [marks_len] at c1
      have HK := Lib.hid (c_heldCustomerS (LL Ls k).length (k0 + 2 * (totL Ls k : Int)) Ak ck B w hcs (by omega) (by omega) (by omega))
      have p1 : (0 : Int) ≤ (k : Int) := by omega
      have p2 : (k : Int) < (Ls.length : Int) := by omega
      have p3 : decide (k0 + 2 * (totL Ls k : Int) + 2 * ((LL Ls k).length : Int) < 0) = false := decide_eq_false (by omega)
      clear hc hcs
      go_wp2_with fail
      refine HK.out.mono ?_
      rintro e w1 ⟨rfl, rfl⟩
      go_wp2_with fail
      go_round
      case rel => exact ⟨k + 1, by omega, by go_num, by simp only [totL]; congr 1; simp; omega⟩
      case measure => simp [intOf]; omega
    · go_wp2_with fail
      go_ret
      obtain rfl : k = Ls.length := by omega
      exact ⟨rfl, rfl⟩

end Go.Proofs.Ytpbmehodcllncaa

