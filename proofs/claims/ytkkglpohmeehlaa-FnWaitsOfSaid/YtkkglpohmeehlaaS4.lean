/- GreatestLack -/
import Derived.Test.YtkkglpohmeehlaaS3
namespace Go.Proofs.Ytkkglpohmeehlaa
set_option linter.unusedVariables false
open Go.RowKit
attribute [local go_sem ↓] Go.wp_at_zero Go.wp_at_succ

set_option maxHeartbeats 400000 in
theorem c_isPlace (L : List (Int × Int)) (A : Option Addr) (c : Nat) (t : Int) (w : World) (hn : L.length ≤ 140737488351232) :
    Calls Try.prog 51 #[.slice A L.length c, .int .i64 t] w fun e w' => e = .returned (.bool (decide (0 ≤ t ∧ t ≤ (L.length : Int) - 1))) ∧ w = w' := by
  go_enter Try.func51, Try.ntmps51
  go_wp2_with fail
  refine (c_within _ _ _ _).mono ?_
  rintro e w' ⟨rfl, rfl⟩
  go_wp2_with fail
  go_ret
  exact ⟨by simp, rfl⟩

theorem heap_new2 (w : World) (o p : Obj) : ((w.alloc o).alloc p).heap[w.heap.size + 1]? = some p := by
  have h := heap_alloc_new (w.alloc o) p
  rwa [show (w.alloc o).heap.size = w.heap.size + 1 by simp] at h

theorem box_kept {w w' : World} {base : Nat} {v : Value} {xs : List Int} {o p : Obj} (hown : IO w base v xs) (hg : ((w.alloc o).alloc p).grownBy w' v.ownBlock) : w'.heap[w.heap.size]? = some o := by
  rw [hg.block w.heap.size (by simp; omega) (fun e => by have := owns_lt hown _ e.symm; omega), Below.heap_alloc _ _ _ (by simp)]
  exact heap_alloc_new _ _

def preTo (L : List (Int × Int)) (k : Nat) : List Int := (List.range k).map (pre L)
theorem preTo_len (L : List (Int × Int)) (k : Nat) : (preTo L k).length = k := by simp [preTo]
theorem preTo_succ (L : List (Int × Int)) (k : Nat) : preTo L (k + 1) = preTo L k ++ [pre L k] := by simp [preTo, List.range_succ]
theorem Z_preTo {L : List (Int × Int)} {n k : Nat} (h : k < n) : Z (preTo L n) k = pre L k := by simp [Z, preTo, h]

section
variable {w : World}
/-- out = append(out, y) of a prefix table, in a region in the text's order -/
theorem app_P {ops : Array Oper} {rest : List Oper} {o : Oper} {a : Act} {Q : Exit → Act → World → Prop} (hgd : o.guard = none) (s x : Operand)
    (ho : o.op = .call { callee := .builtin .append, args := #[s, x], argTypes := #[53, 53] })
    (base : Nat) (v : Value) (xs : List Int) (y : Int) (B : Nat) (hs : a.eval s = v) (hown : IO w base v xs) (hx : a.eval x = .slice (some ⟨B, 0, none⟩) 1 1)
    (hB : w.heap[B]? = some (.cells #[.int .i64 y] 3 (0, 0))) (hlen : xs.length ≤ 1000000000000) (hbase : base ≤ w.heap.size)
    (h : ∀ g cap w', IO w' base (.slice (some ⟨g, 0, none⟩) (xs.length + 1) cap) (xs ++ [y]) → w.grownBy w' v.ownBlock → Below base w w' → wpList Try.prog ops Q rest (a.put o.dst (.slice (some ⟨g, 0, none⟩) (xs.length + 1) cap)) w') :
    wpList Try.prog ops Q (o :: rest) a w := by
  obtain ⟨i0, hi, hz0, hz1, hz2⟩ := info_parts infoI
  refine wpList_append_lies w hgd s x _ ho base 3 i0 _ 1 8 Try.underlying53 hi hz0 hz1 hz2 rfl (by decide) v xs.length _ hs hown
    ⟨B, 0, none⟩ 1 1 [.int .i64 y] hx rfl (World.news_of_block (cs := #[.int .i64 y]) hB) (by simp [Value.oneCell']) (by decide) (by simp only [maxLen]; omega) (by omega) hbase _ rfl ?_
  intro g cap w' h1 h2 _ _
  exact h g cap w' (by simpa [IO] using h1) h2 ((Below.refl _ _).grown h2 hbase (owns_base hown))
end

set_option maxHeartbeats 2000000 in
theorem c_prefixesOf (L : List (Int × Int)) (h : cOk L = true) (A : Option Addr) (c : Nat) (w : World) (hA : Cs w w.heap.size A L) (hn : L.length ≤ 140737488351232) :
    Calls Try.prog 52 #[.slice A L.length c] w fun e w' => ∃ v, e = .returned v ∧ IO w' w.heap.size v (preTo L L.length) ∧ Below w.heap.size w w' := by
  have Hbd := Lib.hid (fun k => @cOk_bd L k h)
  have Hsb := Lib.hid (sumTo_bd h)
  have hlen := cOk_len h
  clear h
  go_enter Try.func52, Try.ntmps52
  go_wp2_with fail
  go_loopw [3, 4, 9] (fun o s i wr => ∃ k : Nat, k ≤ L.length ∧ i = .int .i64 k ∧ s = .int .i64 (sumTo L k) ∧ IO wr w.heap.size o (preTo L k) ∧ Below w.heap.size w wr)
    (fun _ _ i _ => L.length - (intOf i).toNat)
  case atStart => exact ⟨0, by omega, rfl, rfl, IO.nil _ _, Below.refl _ _⟩
  case round =>
    obtain ⟨k, hk, rfl, rfl, hown, hb⟩ := hrel
    have hsz := hb.size
    by_cases hlt : k < L.length
    · obtain ⟨b, off, rfl, hlb, hc⟩ := hA (by omega)
      have c1 := (hb.cell (p := ⟨b, off + k * 2, none⟩) hlb).trans (hc k hlt).1
      have c2 := (hb.cell (p := ⟨b, off + k * 2 + 1, none⟩) hlb).trans (hc k hlt).2
      clear hc
      have bd := Hbd.out k hlt
      have b1 := Hsb.out k (by omega)
      have q5 : (preTo L k).length ≤ 1000000000000 := by rw [preTo_len]; omega
      have hbox : Below wr.heap.size wr (wr.alloc (.cells #[.int .i64 (X L k), .int .i64 (Y L k)] 35)) := by (repeat (first | exact rfl | exact Below.refl _ _ | (with_reducible refine Below.drew ?_) | (with_reducible refine Below.drewN ?_ _) | (with_reducible refine Below.alloc ?_ ?_ _) | (with_reducible refine Below.setCell ?_ ?_ _) | (show _ ≤ _; focus (first | omega | (simp; done) | (simp; omega)))))
      go_wp2_with (refine app_P ?_ (.tmp 13) (.tmp 18) ?_ w.heap.size u3 (preTo L k) (sumTo L k - X L k) (wr.heap.size + 1) ?_ ?_ ?_ ?_ ?_ ?_ ?_; rfl; rfl; rfl; exact ((hown.alloc _).alloc _); rfl; exact (heap_new2 _ _ _); exact q5; exact (Nat.le_trans hsz (by simp; omega)); intro g7 cap w7 hown7 hgr7 hb7; have hbx := box_kept hown hgr7; have c5 : w7.cell? ⟨wr.heap.size, 1, none⟩ = some (.int .i64 (Y L k)) := by simp [cell_of_row w7 wr.heap.size 1 _ _ _ hbx])
      go_roundw
      case rel =>
        refine ⟨k + 1, by omega, by go_num, rfl, by rw [preTo_succ]; exact hown7, ?_⟩
        refine Below.trans ?_ hb7
        (repeat (first | exact hb | exact Below.refl _ _ | (with_reducible refine Below.drew ?_) | (with_reducible refine Below.drewN ?_ _) | (with_reducible refine Below.alloc ?_ ?_ _) | (with_reducible refine Below.setCell ?_ ?_ _) | (show _ ≤ _; focus (first | omega | (simp; done) | (simp; omega)))))
      case measure => simp [intOf]; omega
    · go_wp2_with fail
      go_ret
      refine ⟨_, rfl, ?_, hb⟩
      rw [show L.length = k by omega]
      exact hown

set_option maxHeartbeats 2000000 in
theorem c_lack (xs : List Int) (A : Option Addr) (c : Nat) (i j : Nat) (w : World) (hA : Is w w.heap.size A xs) (hi : i < xs.length) (hj : j < xs.length) (hn : xs.length ≤ 1000) (hb : -9223372036854775808 ≤ Z xs j - Z xs i ∧ Z xs j - Z xs i ≤ 9223372036854775807) :
    Calls Try.prog 68 #[.slice A xs.length c, .int .i64 i, .int .i64 j] w fun e w' => e = .returned (.int .i64 (Z xs j - Z xs i)) ∧ Below w.heap.size w w' := by
  obtain ⟨b, off, rfl, hlb, hc⟩ := hA (by omega)
  have c1 := hc i hi
  have c2 := hc j hj
  clear hc
  have k1 : (i : Int) < (xs.length : Int) := by omega
  have k2 : (j : Int) < (xs.length : Int) := by omega
  have k3 : (0 : Int) ≤ (i : Int) := by omega
  have k4 : (0 : Int) ≤ (j : Int) := by omega
  have q1 : IntKind.i64.wrap (Z xs j - Z xs i) = Z xs j - Z xs i := IntWalk.i64_in _ (by omega)
  go_enter Try.func68, Try.ntmps68
  go_wp2_with fail
  go_quiet (fail)
  go_wp2_with fail
  go_ret
  exact ⟨rfl, by (repeat (first | exact rfl | exact Below.refl _ _ | (with_reducible refine Below.drew ?_) | (with_reducible refine Below.drewN ?_ _) | (with_reducible refine Below.alloc ?_ ?_ _) | (with_reducible refine Below.setCell ?_ ?_ _) | (show _ ≤ _; focus (first | omega | (simp; done) | (simp; omega)))))⟩

set_option maxHeartbeats 2000000 in
theorem c_greatestLack (L : List (Int × Int)) (h : cOk L = true) (A : Option Addr) (c : Nat) (n : Nat) (hn : n < L.length) (w : World) (hA : Is w w.heap.size A (preTo L L.length)) :
    Calls Try.prog 53 #[.slice A L.length c, .int .i64 n] w fun e w' => e = .returned (.int .i64 (waitAt L n)) ∧ Below w.heap.size w w' := by
  have Hbd := Lib.hid (fun k => @pre_bd L h k)
  have hlen := cOk_len h
  clear h
  go_enter Try.func53, Try.ntmps53
  go_wp2_with fail
  go_loopw [5, 8] (fun s i wr => ∃ k : Nat, k ≤ n ∧ i = .int .i64 k ∧ s = .int .i64 (lackF L n k) ∧ Below w.heap.size w wr)
    (fun _ i _ => n - (intOf i).toNat)
  case atStart => exact ⟨0, by omega, rfl, rfl, Below.refl _ _⟩
  case round =>
    obtain ⟨k, hk, rfl, rfl, hb⟩ := hrel
    have hsz := hb.size
    by_cases hlt : k < n
    · have b1 := Hbd.out k (by omega)
      have b2 := Hbd.out n hn
      have K := c_lack (preTo L L.length) A c k n wr ((hA.below hb).more hsz) (by rw [preTo_len]; omega) (by rw [preTo_len]; omega) (by rw [preTo_len]; omega) (by rw [Z_preTo hn, Z_preTo (by omega)]; omega)
      rw [preTo_len, Z_preTo hn, Z_preTo (by omega)] at K
      have HK := Lib.hid K; clear K b1 b2
      go_wp2_with fail
      refine HK.out.mono ?_
      rintro e w5 ⟨rfl, hb5⟩
      have hb7 := hb.trans (hb5.mono hsz)
      go_wp2_with fail
      go_roundw
      case rel => exact ⟨k + 1, by omega, by go_num, by simp only [lackF]; congr 1; split <;> omega, hb7⟩
      case measure => simp [intOf]; omega
    · go_wp2_with fail
      go_ret
      obtain rfl : k = n := by omega
      exact ⟨by rw [lackF_all]; rfl, hb⟩

end Go.Proofs.Ytkkglpohmeehlaa

