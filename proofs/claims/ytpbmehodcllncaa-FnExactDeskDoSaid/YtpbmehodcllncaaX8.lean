/- helpers of the exact laws for desks: sizes, copies, equality -/
import Derived.Test.YtpbmehodcllncaaX
import Derived.Test.YtpbmehodcllncaaO11
import Derived.Test.YtpbmehodcllncaaK33
namespace Go.Proofs.Ytpbmehodcllncaa
set_option linter.unusedVariables false
open Go.RowKit
attribute [local go_sem ↓] Go.wp_at_zero Go.wp_at_succ

set_option maxHeartbeats 1000000 in
theorem c_szC (A : Option Addr) (n c : Nat) (l : Int) (w : World) (h0 : 0 ≤ l) (hl : l ≤ 1048576) (hn : n ≤ 9223372036854775807) :
    Calls Try.prog 32 #[.slice A n c, .int .i64 l] w fun e w' => ∃ r : Int, e = .returned (.int .i64 r) ∧ w = w' ∧ ((r = -1 ∧ l < n) ∨ (r = l - n ∧ (n : Int) ≤ l)) := by
  by_cases h : (n : Int) ≤ l
  · exact (c_sz_yes A n c l w h hl hn).mono fun e w' ⟨h1, h2⟩ => ⟨_, h1, h2, .inr ⟨rfl, h⟩⟩
  · exact (c_sz_no A n c l w (by omega) h0 hl hn).mono fun e w' ⟨h1, h2⟩ => ⟨_, h1, h2, .inl ⟨rfl, by omega⟩⟩

/-- how many customers the first k lists have together -/
def totL (Ls : List (List (Int × Int))) : Nat → Nat
  | 0 => 0
  | k + 1 => totL Ls k + (LL Ls k).length
theorem totL_mono (Ls : List (List (Int × Int))) : ∀ d k, totL Ls k ≤ totL Ls (k + d) := by
  intro d
  induction d with
  | zero => intro k; exact Nat.le_refl _
  | succ d ih => intro k; have := ih k; show _ ≤ totL Ls (k + d) + _; omega
theorem totL_at {Ls : List (List (Int × Int))} {k : Nat} (h : k < Ls.length) : (LL Ls k).length + totL Ls k ≤ totL Ls Ls.length := by
  have := totL_mono Ls (Ls.length - (k + 1)) (k + 1)
  rw [show k + 1 + (Ls.length - (k + 1)) = Ls.length by omega] at this
  simp only [totL] at this
  omega

set_option maxHeartbeats 2000000 in
theorem c_szCC (Ls : List (List (Int × Int))) (A : Option Addr) (c B : Nat) (l : Int) (w : World) (hA : Css w B A Ls) (h0 : 0 ≤ l) (hl : l ≤ 1048576) (hn : Ls.length ≤ 9223372036854775807) (hm : ∀ k, k < Ls.length → (LL Ls k).length ≤ 9223372036854775807) :
    Calls Try.prog 60 #[.slice A Ls.length c, .int .i64 l] w fun e w' => ∃ r : Int, e = .returned (.int .i64 r) ∧ w = w' ∧ -1 ≤ r ∧ r ≤ 1048576 ∧ (0 ≤ r → r = l - (Ls.length : Int) - (totL Ls Ls.length : Int)) := by
  have HA := Lib.hid hA
  have HM := Lib.hid hm
  clear hA hm
  go_enter Try.func60, Try.ntmps60
  by_cases hb : (Ls.length : Int) ≤ l
  · have q1 : IntKind.i64.wrap (l - (Ls.length : Int)) = l - (Ls.length : Int) := IntWalk.i64_in _ (by omega)
    have q2 : decide (l - (Ls.length : Int) < 0) = false := decide_eq_false (by omega)
    go_wp2_with fail
    go_loop [1, 5] (fun q i => ∃ (k : Nat) (m : Int), k ≤ Ls.length ∧ i = .int .i64 k ∧ q = .int .i64 m ∧ 0 ≤ m ∧ m ≤ 1048576 ∧ Hid (m = l - (Ls.length : Int) - (totL Ls k : Int))) (fun _ i => Ls.length - (intOf i).toNat)
    case atStart => exact ⟨0, l - (Ls.length : Int), Nat.zero_le _, rfl, rfl, by omega, by omega, Lib.hid (by simp [totL])⟩
    case round =>
      obtain ⟨k, m, hk, rfl, rfl, hm0, hm1, HJ⟩ := hrel
      by_cases hlt : k < Ls.length
      · obtain ⟨b, off, rfl, hlb, hc⟩ := HA.out (by omega)
        obtain ⟨Ak, ck, c1, -, -⟩ := hc k hlt
        have HS := Lib.hid (c_szC Ak (LL Ls k).length ck m w hm0 hm1 (HM.out k hlt))
        clear hc
        go_wp2_with fail
        refine HS.out.mono ?_
        rintro e w1 ⟨r, rfl, rfl, hr⟩
        rcases hr with ⟨rfl, hr⟩ | ⟨rfl, hr⟩
        · go_wp2_with fail
          go_ret
          exact ⟨-1, rfl, rfl, by omega, by omega, fun h => by omega⟩
        · have q3 : decide (m - ((LL Ls k).length : Int) < 0) = false := decide_eq_false (by omega)
          have HJ2 : Hid (m - ((LL Ls k).length : Int) = l - (Ls.length : Int) - (totL Ls (k + 1) : Int)) := Lib.hid (by have := HJ.out; simp only [totL]; omega)
          go_wp2_with fail
          go_round
          case rel => exact ⟨k + 1, _, by omega, by go_num, rfl, by omega, by omega, HJ2⟩
          case measure => simp [intOf]; omega
      · go_wp2_with fail
        go_ret
        obtain rfl : k = Ls.length := by omega
        exact ⟨m, rfl, rfl, by omega, by omega, fun _ => HJ.out⟩
  · have q0 : -9223372036854775808 ≤ l - (Ls.length : Int) := by omega
    have q1 : IntKind.i64.wrap (l - (Ls.length : Int)) = l - (Ls.length : Int) := IntWalk.i64_in _ (by omega)
    have q2 : decide (l - (Ls.length : Int) < 0) = true := decide_eq_true (by omega)
    go_wp2_with fail
    go_ret
    exact ⟨-1, rfl, rfl, by omega, by omega, fun h => by omega⟩

/-- the first k of Ls, empty ones behind -/
def fillK (Ls : List (List (Int × Int))) (k : Nat) : List (List (Int × Int)) := Ls.take k ++ List.replicate (Ls.length - k) []
theorem fillK_len {Ls : List (List (Int × Int))} {k : Nat} (h : k ≤ Ls.length) : (fillK Ls k).length = Ls.length := by simp [fillK]; omega
theorem fillK_all (Ls : List (List (Int × Int))) : fillK Ls Ls.length = Ls := by simp [fillK]
theorem fillK_succ {Ls : List (List (Int × Int))} {k : Nat} (h : k < Ls.length) : (fillK Ls k).set k (LL Ls k) = fillK Ls (k + 1) := by
  apply List.ext_getElem (by simp [fillK]; omega)
  intro i h1 h2
  simp only [fillK, List.length_set, List.length_append, List.length_take, List.length_replicate] at h1 h2
  rw [List.getElem_set]
  by_cases e : k = i
  · subst e
    simp only [if_true, fillK]
    rw [List.getElem_append_left (by simp; omega), List.getElem_take, LL_get h]
  · rw [if_neg e]
    simp only [fillK]
    by_cases hi : i < k
    · rw [List.getElem_append_left (by simp; omega), List.getElem_append_left (by simp; omega), List.getElem_take, List.getElem_take]
    · rw [List.getElem_append_right (by simp; omega), List.getElem_append_right (by simp; omega)]
      simp
theorem COO.made {w : World} {base g n : Nat} (h : w.ownsRow base 23 1 (.slice (some ⟨g, 0, none⟩) n n) n (List.replicate n (.slice none 0 0))) : COO w base (.slice (some ⟨g, 0, none⟩) n n) (List.replicate n []) (List.replicate n (.slice none 0 0)) := by
  have gv : ∀ k, k < n → (List.replicate n (Value.slice none 0 0)).getD k undef = .slice none 0 0 := fun k hk => by simp [List.getD_eq_getElem?_getD, hk]
  refine ⟨by simpa using h, fun k hk => ?_, fun k hk r hr => ?_, fun i j hi hj hij r hr => ?_⟩
  · rw [List.length_replicate] at hk
    rw [gv k hk]
    simp only [List.getD_eq_getElem?_getD, List.getElem?_replicate, hk, if_true, Option.getD_some]
    exact CO.nil _ _
  · rw [List.length_replicate] at hk
    rw [gv k hk] at hr
    simp [Value.ownBlock] at hr
  · rw [List.length_replicate] at hi
    rw [gv i hi] at hr
    simp [Value.ownBlock] at hr

set_option maxRecDepth 8000 in
set_option maxHeartbeats 4000000 in
theorem c_toCC (Ls : List (List (Int × Int))) (A : Option Addr) (c : Nat) (w : World) (hA : Css w w.heap.size A Ls) (hn : Ls.length ≤ 1048576) (hm : ∀ k, k < Ls.length → (LL Ls k).length ≤ 1048576) :
    Calls Try.prog 61 #[.slice A Ls.length c] w fun e w' => ∃ v vs, e = .returned v ∧ COO w' w.heap.size v Ls vs ∧ Below w.heap.size w w' := by
  obtain ⟨i0, hi, hz0, hz1, hz2⟩ := info_parts infoCS
  have HA := Lib.hid hA
  have HM := Lib.hid hm
  clear hA hm
  go_enter Try.func61, Try.ntmps61
  go_wp2_with (at_make; refine wpList_make_full w rfl _ _ _ rfl w.heap.size 23 i0 _ 1 Try.underlying24 hi hz0 hz1 .i64 .i64 _ _ Ls.length rfl rfl rfl rfl (by rw [hz2]; omega) (by simp only [maxLen]; omega) (Nat.le_refl _) ?_; intro w1 hown1 hgr1)
  have hb1 : Below w.heap.size w w1 := (Below.refl _ _).grown hgr1 (Nat.le_refl _) (by simp)
  have o1 : COO w1 w.heap.size (.slice (some ⟨w.heap.size, 0, none⟩) Ls.length Ls.length) (fillK Ls 0) (List.replicate Ls.length (.slice none 0 0)) := by
    rw [show fillK Ls 0 = List.replicate Ls.length [] by simp [fillK]]
    refine COO.made ?_
    have e : (madeCells (Value.slice none 0 0).cells (Ls.length * 1)).toList = List.replicate Ls.length (.slice none 0 0) := by rw [Nat.mul_one]; exact toList_madeCells_one _ _
    rw [← e]
    exact hown1
  clear hown1 hgr1
  go_loopw [4] (fun i wr => ∃ (k : Nat) (vs : List Value), k ≤ Ls.length ∧ i = .int .i64 k ∧ COO wr w.heap.size (.slice (some ⟨w.heap.size, 0, none⟩) Ls.length Ls.length) (fillK Ls k) vs ∧ Below w.heap.size w wr)
    (fun i _ => Ls.length - (intOf i).toNat)
  case atStart => exact ⟨0, _, by omega, rfl, o1, hb1⟩
  case round =>
    obtain ⟨k, vs, hk, rfl, hown, hb⟩ := hrel
    have hsz := hb.size
    by_cases hlt : k < Ls.length
    · obtain ⟨b, off, rfl, hlb, hc⟩ := HA.out (by omega)
      obtain ⟨Ak, ck, c1, -, hcs⟩ := hc k hlt
      have c1 := (hb.cell (p := ⟨b, off + k, none⟩) hlb).trans c1
      have HT := Lib.hid (c_toCustomerS (LL Ls k) Ak ck wr ((hcs.below hb).more hsz) (HM.out k hlt))
      have p1 : (0 : Int) ≤ (k : Int) := by omega
      have p2 : (k : Int) < (Ls.length : Int) := by omega
      clear hb1 o1 hc hcs
      go_wp2_with fail
      refine HT.out.mono ?_
      rintro e w5 ⟨v5, rfl, o5, hb5⟩
      obtain ⟨G5, g5, rfl, -, -, -⟩ := o5.form
      have hb7 := hb.trans (hb5.mono hsz)
      have hcl := hown.cells
      have hlt0 := owns_lt hown.row w.heap.size (by simp [Value.ownBlock])
      have d1 := (hb5.cell (p := ⟨w.heap.size, k, none⟩) hlt0).trans (hcl.2.1 k hlt)
      have f1 : w5.frozen? ⟨w.heap.size, k, none⟩ = false := by
        rw [World.frozen?_of_block (hb5.block w.heap.size hlt0)]; exact hcl.2.2 k
      have HO := Lib.hid (hown.store hb5 (o5.mono (by omega)) (fun r hr => owns_base o5 r hr) k hlt)
      rw [fillK_succ hlt] at HO
      clear hcl HT hown o5
      go_wp2_with fail
      go_roundw
      case rel => exact ⟨k + 1, _, by omega, by go_num, HO.out, hb7.setCell (p := ⟨w.heap.size, k, none⟩) (Nat.le_refl _) _⟩
      case measure => simp [intOf]; omega
    · go_wp2_with fail
      go_ret
      obtain rfl : k = Ls.length := by omega
      rw [fillK_all] at hown
      exact ⟨_, vs, rfl, hown, hb⟩

set_option maxRecDepth 8000 in
set_option maxHeartbeats 2000000 in
theorem c_eqCC (Ls : List (List (Int × Int))) (A B : Option Addr) (c d : Nat) (w : World) (hA : Css w w.heap.size A Ls) (hB : Css w w.heap.size B Ls) (hn : Ls.length ≤ 1048576) (hm : ∀ k, k < Ls.length → (LL Ls k).length ≤ 1048576) :
    Calls Try.prog 62 #[.slice A Ls.length c, .slice B Ls.length d] w fun e w' => e = .returned (.bool true) ∧ Below w.heap.size w w' := by
  have HA := Lib.hid hA
  have HB := Lib.hid hB
  have HM := Lib.hid hm
  clear hA hB hm
  go_enter Try.func62, Try.ntmps62
  go_wp2_with fail
  go_loopw [5] (fun i wr => ∃ k : Nat, k ≤ Ls.length ∧ i = .int .i64 k ∧ Below w.heap.size w wr) (fun i _ => Ls.length - (intOf i).toNat)
  case atStart => exact ⟨0, Nat.zero_le _, rfl, Below.refl _ _⟩
  case round =>
    obtain ⟨k, hk, rfl, hb⟩ := hrel
    have hsz := hb.size
    by_cases hlt : k < Ls.length
    · obtain ⟨b, off, rfl, hlb, hc⟩ := HA.out (by omega)
      obtain ⟨b2, off2, rfl, hlb2, hc2⟩ := HB.out (by omega)
      obtain ⟨Ak, ck, p1, -, p3⟩ := hc k hlt
      obtain ⟨Bk, dk, q1, -, q3⟩ := hc2 k hlt
      have c0 := WB.cell (B := w.heap.size) (w := wr) hlb ((hb.cell (p := ⟨b, off + k, none⟩) hlb).trans p1)
      have c1 := WB.cell (B := w.heap.size) (w := wr) hlb2 ((hb.cell (p := ⟨b2, off2 + k, none⟩) hlb2).trans q1)
      have z1 : (0 : Int) ≤ (k : Int) := by omega
      have z2 : (k : Int) < (Ls.length : Int) := by omega
      have HK := Lib.hid (fun W (hW : Below w.heap.size wr W) => c_eqCustomerS (LL Ls k) Ak Bk ck dk W ((p3.below (hb.trans hW)).more (hb.trans hW).size) ((q3.below (hb.trans hW)).more (hb.trans hW).size) (HM.out k hlt))
      clear hc hc2 p1 q1 p3 q3
      go_wp2_with fail
      refine wp_region_wb w.heap.size (by kernel_rfl) (by kernel_rfl) ?_
      repeat (go_big_quiet_step ((go_at_call 34; exact Calls.inB hsz (HK.out _ (WB.below _)))))
      refine wpQuiet_nil ?_
      rintro w5 ⟨⟨_, hb5⟩, rfl⟩
      go_wp2_with fail
      go_roundw
      case rel => exact ⟨k + 1, by omega, by go_num, hb.trans hb5⟩
      case measure => simp [intOf]; omega
    · go_wp2_with fail
      go_ret
      exact ⟨rfl, hb⟩

end Go.Proofs.Ytpbmehodcllncaa

