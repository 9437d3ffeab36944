/- spec.l9Least (a recursion) and spec.LeastWay (ahead of the landing) -/
import Derived.Test.YtofjfhifldafcaaK21
import Derived.Test.YtofjfhifldafcaaO4
namespace Go.Proofs.Ytofjfhifldafcaa
set_option linter.unusedVariables false
open Go.RowKit
attribute [local go_sem ↓] Go.wp_at_zero Go.wp_at_succ

def okB9 (L : List (Int × Int)) (m : Nat) (o : List Int) : Prop := o.length + m = L.length ∧ o.Nodup ∧ ∀ v, v ∈ o → 0 ≤ v ∧ v ≤ (L.length : Int) - 1
theorem okB9.next {L : List (Int × Int)} {m : Nat} {o : List Int} (h : okB9 L (m + 1) o) {k : Nat} (hk : k < L.length) (hs : hasN o k o.length = false) : okB9 L m (o ++ [(k : Int)]) := by
  obtain ⟨h1, h2, h3⟩ := h
  have hn : (k : Int) ∉ o := fun h => by rw [hasN_mem.2 h] at hs; cases hs
  refine ⟨by simp; omega, ?_, fun v hv => ?_⟩
  · refine List.nodup_append.2 ⟨h2, by simp, fun a ha b hb => ?_⟩
    simp at hb; subst hb
    intro e; exact hn (e ▸ ha)
  · rcases List.mem_append.1 hv with hv | hv
    · exact h3 v hv
    · simp at hv; subst hv; omega
theorem okB9.full {L : List (Int × Int)} {o : List Int} (ht : bOk L = true) (h : okB9 L 0 o) : inOk L o = true ∧ longV (inV L o) = lw (inOrd L o) := by
  obtain ⟨h1, h2, h3⟩ := h
  have hl := (bOk_parts ht).2
  have he : eachV o L.length = true := each_iff.2 ⟨by omega, by omega, h3, h2⟩
  have hi : inOk L o = true := by simp [inOk, ht, he]
  exact ⟨hi, by rw [inV_yes hi, long_inOrd ht he]⟩
/-- the least of all longest ways that go on an order -/
def best9 (L : List (Int × Int)) (m : Nat) (o : List Int) : Int := bestG (fun o => lw (inOrd L o)) L.length m o

set_option maxRecDepth 4000 in
set_option maxHeartbeats 8000000 in
theorem c_l9Least (L : List (Int × Int)) (A : Option Addr) (c : Nat) (ht : bOk L = true) : ∀ (m : Nat) (o : List Int) (O : Option Addr) (d : Nat) (w : World), okB9 L m o → Cs w w.heap.size A L → Is w w.heap.size O o →
    Calls Try.prog 72 #[.slice A L.length c, .slice O o.length d] w fun e w' => e = .returned (.int .i64 (best9 L m o)) ∧ Below w.heap.size w w' := by
  have hl6 := (bOk_parts ht).2.2
  intro m
  induction m with
  | zero =>
    intro o O d w hp hA hO
    have hol : o.length = L.length := by have := hp.1; omega
    have hb : ((o.length : Int) == (L.length : Int)) = true := beq_iff_eq.2 (by omega)
    obtain ⟨hi, hv⟩ := hp.full ht
    have HI := Lib.hid (c_sInOrder L o A O c d w hA hO (by omega) (by omega))
    have hlv : (inV L o).length ≤ 140737488351232 := by rw [inV_yes hi, inOrd_len]; omega
    have HW := Lib.hid (fun (B : Option Addr) (b : Nat) W hW => c_sLongestWay (inV L o) B b W hW hlv)
    have HV := Lib.hid (show longV (inV L o) = best9 L 0 o from hv)
    have HI2 := Lib.hid hi
    clear hp ht hol hi hv hlv
    go_enter Try.func72, Try.ntmps72
    go_wp2_with fail
    refine HI.out.mono ?_
    rintro e w1 ⟨v1, rfl, o1, hb1⟩
    obtain ⟨G, g, rfl, -, -, hG⟩ := o1.form
    have hs1 := hb1.size
    go_wp2_with fail
    refine (HW.out G g _ hG).mono ?_
    rintro e w2 ⟨rfl, hb2⟩
    go_wp2_with fail
    go_ret
    exact ⟨by rw [← HV.out]; rfl, hb1.trans (hb2.mono hs1)⟩
  | succ m ih =>
    intro o O d w hp hA hO
    have hne : ((o.length : Int) == (L.length : Int)) = false := beq_eq_false_iff_ne.2 (by have := hp.1; omega)
    have hol : o.length < L.length := by have := hp.1; omega
    have HN := Lib.hid (fun (k : Nat) (hk : k < L.length) hs => hp.next hk hs)
    have HI := Lib.hid ih
    have HE := Lib.hid (show best9 L (m + 1) o = minTo (fun k => best9 L m (o ++ [(k : Int)])) (fun k => hasN o k o.length) L.length from rfl)
    have HS := Lib.hid (fun (k : Nat) => show minTo (fun k => best9 L m (o ++ [(k : Int)])) (fun k => hasN o k o.length) (k + 1) = if hasN o k o.length = true then minTo (fun k => best9 L m (o ++ [(k : Int)])) (fun k => hasN o k o.length) k else if minTo (fun k => best9 L m (o ++ [(k : Int)])) (fun k => hasN o k o.length) k < 0 ∨ best9 L m (o ++ [(k : Int)]) < minTo (fun k => best9 L m (o ++ [(k : Int)])) (fun k => hasN o k o.length) k then best9 L m (o ++ [(k : Int)]) else minTo (fun k => best9 L m (o ++ [(k : Int)])) (fun k => hasN o k o.length) k from rfl)
    have HZ := Lib.hid (show minTo (fun k => best9 L m (o ++ [(k : Int)])) (fun k => hasN o k o.length) 0 = -1 from rfl)
    generalize hmt : minTo (fun k => best9 L m (o ++ [(k : Int)])) (fun k => hasN o k o.length) = mt at *
    clear hp ht ih hmt
    go_enter Try.func72, Try.ntmps72
    go_wp2_with fail
    go_loopw [7, 8] (fun b i wr => ∃ k : Nat, k ≤ L.length ∧ i = .int .i64 k ∧ b = .int .i64 (mt k) ∧ Below w.heap.size w wr) (fun _ i _ => L.length - (intOf i).toNat)
    case atStart => exact ⟨0, by omega, rfl, by rw [HZ.out], Below.refl _ _⟩
    case round =>
      obtain ⟨k, hk, rfl, rfl, hb⟩ := hrel
      have hsz := hb.size
      by_cases hlt : k < L.length
      · have p2 : (k : Int) < (L.length : Int) := by omega
        go_wp2_with fail
        go_loopw [9, 10] (fun th i wq => ∃ j : Nat, j ≤ o.length ∧ i = .int .i64 j ∧ th = .bool (hasN o k j) ∧ wq = wr) (fun _ i _ => o.length - (intOf i).toNat)
        case atStart => exact ⟨0, by omega, rfl, rfl, rfl⟩
        case round =>
          obtain ⟨j, hj, rfl, rfl, rfl⟩ := hrel
          by_cases hlt2 : j < o.length
          · obtain ⟨ob, oo, rfl, hob, hoc⟩ := hO (by omega)
            have c0 := (hb.cell (p := ⟨ob, oo + j, none⟩) hob).trans (hoc j hlt2)
            have q1 : (0 : Int) ≤ (j : Int) := by omega
            have q2 : (j : Int) < (o.length : Int) := by omega
            have hS : hasN o k (j + 1) = (hasN o k j || decide (Z o j = (k : Int))) := rfl
            have HH := Lib.hid hS
            clear hoc hS
            cases hh : hasN o k j with
            | true =>
              have HX := Lib.hid (show hasN o k (j + 1) = true by rw [HH.out, hh]; rfl)
              clear hh
              go_wp2_with fail
              go_roundw
              case rel => exact ⟨j + 1, by omega, by go_num, by rw [HX.out], trivial⟩
              case measure => simp [intOf]; omega
            | false =>
              by_cases he : Z o j = (k : Int)
              · have HX := Lib.hid (show hasN o k (j + 1) = true by rw [HH.out, hh, decide_eq_true he]; rfl)
                have heb : (Z o j == (k : Int)) = true := beq_iff_eq.2 he
                clear hh he
                go_wp2_with fail
                go_roundw
                case rel => exact ⟨j + 1, by omega, by go_num, by rw [HX.out], trivial⟩
                case measure => simp [intOf]; omega
              · have HX := Lib.hid (show hasN o k (j + 1) = false by rw [HH.out, hh, decide_eq_false he]; rfl)
                have heb : (Z o j == (k : Int)) = false := beq_eq_false_iff_ne.2 he
                clear hh he
                go_wp2_with fail
                go_roundw
                case rel => exact ⟨j + 1, by omega, by go_num, by rw [HX.out], trivial⟩
                case measure => simp [intOf]; omega
          · have hlf : ¬ ((j : Int) < (o.length : Int)) := by omega
            obtain rfl : j = o.length := by omega
            cases hh : hasN o k o.length with
            | true =>
              have HX := Lib.hid (show mt (k + 1) = mt k by rw [HS.out, if_pos hh])
              clear hh
              go_wp2_with fail
              go_roundw
              case rel => exact ⟨k + 1, by omega, by go_num, by rw [HX.out], hb⟩
              case measure => simp [intOf]; omega
            | false =>
              have HNk := Lib.hid (HN.out k hlt hh)
              have HX := Lib.hid ((HS.out k).trans (if_neg (by rw [hh]; simp)))
              generalize hf : best9 L m (o ++ [(k : Int)]) = f at *
              have q9 : wr.heap.size ≤ (wr.alloc (.cells #[] 3)).heap.size := by simp
              have hba : Below wr.heap.size wr (wr.alloc (.cells #[] 3)) := by (repeat (first | exact rfl | exact Below.refl _ _ | (with_reducible refine Below.drew ?_) | (with_reducible refine Below.drewN ?_ _) | (with_reducible refine Below.alloc ?_ ?_ _) | (with_reducible refine Below.setCell ?_ ?_ _) | (show _ ≤ _; focus (first | omega | (simp; done) | (simp; omega)))))
              have hO2 : Is wr wr.heap.size O o := (hO.below hb).more hsz
              have HO2 := Lib.hid hO2
              have HF := Lib.hid hf
              have q3 : ([] : List Int).length + o.length = o.length := by simp
              clear hh hO2 hf
              go_wp2_with (first
                | (refine app_IIn (by rfl) (.tmp 48) (.tmp 49) (by rfl) wr.heap.size (.slice (some ⟨wr.heap.size, 0, none⟩) 0 0) [] o O d wr.heap.size o.length o.length (by rfl) (IO.empty wr (Nat.le_refl _)) (by rfl) rfl q3 (HO2.out.below hba) (by omega) q9 ?_; intro G2 g2 w2 o2 hgr2 hb2; rw [List.nil_append] at o2; have hx2 : Below wr.heap.size wr w2 := hba.trans hb2; have hz2 := hx2.size; have q10 : wr.heap.size ≤ (w2.alloc (.cells #[.int .i64 (k : Int)] 3)).heap.size := by simp; omega)
                | (refine app_In (by rfl) (.tmp 50) (.tmp 52) (by rfl) wr.heap.size (.slice G2 o.length g2) o (k : Int) w2.heap.size (o.length + 1) (by rfl) (o2.alloc _) (by rfl) rfl (heap_alloc_new _ _) (by omega) q10 ?_; intro g3 c3 w3 o3 hgr3 hb3; have hx3 : Below wr.heap.size wr w3 := (hx2.alloc hz2 _).trans hb3; have hz3 := hx3.size))
              have hb3' := hb.trans (hx3.mono hsz)
              have KB := HI.out (o ++ [(k : Int)]) (some ⟨g3, 0, none⟩) c3 w3 HNk.out ((hA.below hb3').more (by omega)) o3.isOf.2
              rw [HF.out, List.length_append, List.length_singleton] at KB
              have HKB := Lib.hid KB
              clear KB
              refine HKB.out.mono ?_
              rintro e w5 ⟨rfl, hb5⟩
              have hb6 := hb3'.trans (hb5.mono (by omega))
              clear HKB hb5 hb3' o3 o2
              generalize mt k = b at *
              by_cases h1 : b < 0
              · have HY := Lib.hid (HX.out.trans (if_pos (.inl h1)))
                have d1 : decide (b < 0) = true := decide_eq_true h1
                go_wp2_with fail
                go_roundw
                case rel => exact ⟨k + 1, by omega, by go_num, by rw [HY.out], hb6⟩
                case measure => simp [intOf]; omega
              · have d1 : decide (b < 0) = false := decide_eq_false h1
                by_cases h2 : f < b
                · have HY := Lib.hid (HX.out.trans (if_pos (.inr h2)))
                  have d2 : decide (f < b) = true := decide_eq_true h2
                  go_wp2_with fail
                  go_roundw
                  case rel => exact ⟨k + 1, by omega, by go_num, by rw [HY.out], hb6⟩
                  case measure => simp [intOf]; omega
                · have HY := Lib.hid (HX.out.trans (if_neg (fun h => h.elim h1 h2)))
                  have d2 : decide (f < b) = false := decide_eq_false h2
                  go_wp2_with fail
                  go_roundw
                  case rel => exact ⟨k + 1, by omega, by go_num, by rw [HY.out], hb6⟩
                  case measure => simp [intOf]; omega
      · have hlf : ¬ ((k : Int) < (L.length : Int)) := by omega
        obtain rfl : k = L.length := by omega
        go_wp2_with fail
        go_ret
        exact ⟨by rw [HE.out]; rfl, hb⟩

theorem c_sLeastWay (L : List (Int × Int)) (A : Option Addr) (c : Nat) (w : World) (hA : Cs w w.heap.size A L) (hn : L.length ≤ 140737488351232) :
    Calls Try.prog 41 #[.slice A L.length c] w fun e w' => e = .returned (.int .i64 (leastB L)) ∧ Below w.heap.size w w' := by
  have HK := Lib.hid (c_sBothOk L A c w hA hn)
  have hb0 : ∀ w1 : World, Below w1.heap.size w1 (w1.alloc (.cells #[] 3)) := fun w1 => by (repeat (first | exact rfl | exact Below.refl _ _ | (with_reducible refine Below.drew ?_) | (with_reducible refine Below.drewN ?_ _) | (with_reducible refine Below.alloc ?_ ?_ _) | (with_reducible refine Below.setCell ?_ ?_ _) | (show _ ≤ _; focus (first | omega | (simp; done) | (simp; omega)))))
  by_cases ht : bOk L = true
  · have H := Lib.hid ht
    have HV := Lib.hid (leastB_yes ht)
    have hp : okB9 L L.length [] := ⟨by simp, by simp, fun v hv => by cases hv⟩
    have HB := Lib.hid (fun O d w hA hO => c_l9Least L A c ht L.length [] O d w hp hA hO)
    clear ht hp
    go_enter Try.func41, Try.ntmps41
    go_wp2_with fail
    refine HK.out.mono ?_
    rintro e w1 ⟨rfl, hb1⟩
    rw [H.out]
    have hs1 := hb1.size
    have hx := hb1.trans ((hb0 w1).mono hs1)
    clear HK
    go_wp2_with fail
    refine (HB.out _ _ _ ((hA.below hx).more hx.size) (fun hp => absurd hp (by simp))).mono ?_
    rintro e w2 ⟨rfl, hb2⟩
    go_wp2_with fail
    go_ret
    exact ⟨by rw [HV.out]; rfl, hx.trans (hb2.mono hx.size)⟩
  · have H := Lib.hid (show bOk L = false by simpa using ht)
    have HV := Lib.hid (leastB_no H.out)
    clear ht
    go_enter Try.func41, Try.ntmps41
    go_wp2_with fail
    refine HK.out.mono ?_
    rintro e w1 ⟨rfl, hb1⟩
    rw [H.out]
    go_wp2_with fail
    go_ret
    exact ⟨by rw [HV.out]; rfl, hb1⟩

end Go.Proofs.Ytofjfhifldafcaa

