/- later, impl.LaterBy, spec.LaterBy, spec.LastLeave -/
import Derived.Test.YtkkglpohmeehlaaC
import Derived.Test.YtkkglpohmeehlaaO
import Derived.Test.YtkkglpohmeehlaaM4
namespace Go.Proofs.Ytkkglpohmeehlaa
set_option linter.unusedVariables false
open Go.RowKit
attribute [local go_sem ↓] Go.wp_at_zero Go.wp_at_succ

set_option maxHeartbeats 400000 in
theorem c_later (x y t : Int) (w : World) (h1 : -1000 ≤ x) (h2 : x ≤ 1000) (h3 : -1000 ≤ t) (h4 : t ≤ 1000) :
    Calls Try.prog 55 #[.agg #[.int .i64 x, .int .i64 y], .int .i64 t] w fun e w' => e = .returned (.agg #[.int .i64 (x + t), .int .i64 y]) ∧ Below w.heap.size w w' := by
  go_enter Try.func55, Try.ntmps55
  go_wp2
  exact bodyPost_ret (v := .agg #[.int .i64 (x + t), .int .i64 y]) (by simp [results, Try.results55, go_sem]) rfl ⟨rfl, by (repeat (first | exact rfl | exact Below.refl _ _ | (with_reducible refine Below.drew ?_) | (with_reducible refine Below.drewN ?_ _) | (with_reducible refine Below.alloc ?_ ?_ _) | (with_reducible refine Below.setCell ?_ ?_ _) | (show _ ≤ _; focus (first | omega | (simp; done) | (simp; omega)))))⟩

def laterV (v : Value) (b : Bool) : Value := .tuple #[v, .bool b]

set_option maxHeartbeats 4000000 in
theorem c_iLaterBy (L : List (Int × Int)) (A : Option Addr) (c : Nat) (t : Int) (w : World) (hA : Cs w w.heap.size A L) (hn : L.length ≤ 140737488351232) :
    Calls Try.prog 20 #[.slice A L.length c, .int .i64 t] w fun e w' => ∃ v, e = .returned (laterV v (laterOk L t)) ∧ CO w' w.heap.size v (laterR L t) ∧ Below w.heap.size w w' := by
  by_cases h : cOk L = true
  · by_cases ht : 0 ≤ t ∧ t ≤ 60
    · have ht' : decide (0 ≤ t ∧ t ≤ 60) = true := by simpa using ht
      have Hbd := Lib.hid (fun k => @cOk_bd L k h)
      have hlen := cOk_len h
      have Hq := Lib.hid (show laterOk L t = cOk (laterL L t) by simp [laterOk, h, ht])
      have H := Lib.hid h; clear h
      go_enter Try.func20, Try.ntmps20
      go_wp2_with fail
      refine (c_iCustomersOk L A c _ hA hn).mono ?_
      rintro e w1 ⟨rfl, hb1⟩
      rw [H.out]
      go_wp2_with fail
      refine (c_within _ _ _ _).mono ?_
      rintro e w' ⟨rfl, rfl⟩
      go_wp2_with fail
      go_loopw [6, 19] (fun o i wr => ∃ k : Nat, k ≤ L.length ∧ i = .int .i64 k ∧ CO wr w.heap.size o (laterTo L t k) ∧ Below w.heap.size w wr)
        (fun _ i _ => L.length - (intOf i).toNat)
      case atStart => exact ⟨0, by omega, rfl, CO.nil _ _, hb1⟩
      case round =>
        obtain ⟨k, hk, rfl, hown, hb⟩ := hrel
        by_cases hlt : k < L.length
        · obtain ⟨b, off, rfl, hlb, hc⟩ := hA (by omega)
          have c1 := (hb.cell (p := ⟨b, off + k * 2, none⟩) hlb).trans (hc k hlt).1
          have c2 := (hb.cell (p := ⟨b, off + k * 2 + 1, none⟩) hlb).trans (hc k hlt).2
          clear hc
          have hsz := hb.size
          have bd1 := Hbd.out k (by omega)
          have q5 : (laterTo L t k).length = k := laterTo_len (by omega)
          have Q5 := Lib.hid q5; clear q5
          clear hb1 hA
          go_wp2_with fail
          refine (c_later (X L k) (Y L k) t _ (by omega) (by omega) (by omega) (by omega)).mono ?_
          rintro e w5 ⟨rfl, hb5⟩
          have h5 : Below wr.heap.size wr w5 := Below.trans (by (repeat (first | exact rfl | exact Below.refl _ _ | (with_reducible refine Below.drew ?_) | (with_reducible refine Below.drewN ?_ _) | (with_reducible refine Below.alloc ?_ ?_ _) | (with_reducible refine Below.setCell ?_ ?_ _) | (show _ ≤ _; focus (first | omega | (simp; done) | (simp; omega)))))) (hb5.mono (by simp))
          have o5 := hown.below h5 (Nat.le_refl _)
          have hs5 := h5.size
          have hz5 := hb.trans (h5.mono hsz)
          clear hb5 h5 hown
          go_wp2_with (refine app_C (by rfl) (.tmp 23) (.tmp 27) (by rfl) w.heap.size u6 (laterTo L t k) (X L k + t) (Y L k) w5.heap.size (by rfl) (o5.alloc _) (by rfl) (heap_alloc_new _ _) (by rw [Q5.out]; omega) (by simp; omega) ?_; intro g cap w6 hown6 hgr6 hb6)
          go_roundw
          case rel =>
            refine ⟨k + 1, by omega, by go_num, ?_, hz5.trans (Below.trans (by (repeat (first | exact rfl | exact Below.refl _ _ | (with_reducible refine Below.drew ?_) | (with_reducible refine Below.drewN ?_ _) | (with_reducible refine Below.alloc ?_ ?_ _) | (with_reducible refine Below.setCell ?_ ?_ _) | (show _ ≤ _; focus (first | omega | (simp; done) | (simp; omega)))))) hb6)⟩
            rw [laterTo_succ hlt]
            exact hown6
          case measure => simp [intOf]; omega
        · obtain rfl : k = L.length := by omega
          have e1 : laterTo L t L.length = laterL L t := laterTo_all L t
          rw [e1] at hown
          obtain ⟨A2, c2, rfl, hc21, hc22, hA2⟩ := hown.form
          have hown' := hown
          clear hown e1 hb1
          have hsz := hb.size
          rw [laterL_len] at hown' hc21 ⊢
          go_wp2_with fail
          have K := c_iCustomersOk (laterL L t) A2 c2 wr hA2 (by rw [laterL_len]; omega)
          rw [laterL_len] at K
          refine K.mono ?_
          clear K
          rintro e w7 ⟨rfl, hb7⟩
          have o7 := hown'.below hb7 (Nat.le_refl _)
          by_cases hq : cOk (laterL L t) = true
          · have HQ := Lib.hid hq; clear hq
            rw [HQ.out]
            go_wp2_with fail
            go_ret2
            refine ⟨.slice A2 L.length c2, ?_, ?_, hb.trans (hb7.mono hsz)⟩
            · rw [Hq.out, HQ.out]; rfl
            · rw [laterR_yes (by rw [Hq.out, HQ.out])]; exact o7
          · have hq' : cOk (laterL L t) = false := by simpa using hq
            have HQ := Lib.hid hq'; clear hq hq'
            rw [HQ.out]
            go_wp2_with fail
            go_ret2
            refine ⟨.slice none 0 0, ?_, ?_, hb.trans (hb7.mono hsz)⟩
            · rw [Hq.out, HQ.out]; rfl
            · rw [laterR_no (by rw [Hq.out, HQ.out])]; exact CO.nil _ _
    · have ht' : decide (0 ≤ t ∧ t ≤ 60) = false := by simpa using ht
      have Hq := Lib.hid (show laterOk L t = false by simp [laterOk, ht])
      have H := Lib.hid h; clear h
      go_enter Try.func20, Try.ntmps20
      go_wp2_with fail
      refine (c_iCustomersOk L A c _ hA hn).mono ?_
      rintro e w1 ⟨rfl, hb1⟩
      rw [H.out]
      go_wp2_with fail
      refine (c_within _ _ _ _).mono ?_
      rintro e w' ⟨rfl, rfl⟩
      go_wp2_with fail
      go_ret2
      refine ⟨.slice none 0 0, ?_, ?_, hb1⟩
      · rw [Hq.out]; rfl
      · rw [laterR_no Hq.out]; exact CO.nil _ _
  · have hno : cOk L = false := by simpa using h
    have Hq := Lib.hid (show laterOk L t = false by simp [laterOk, hno])
    have H := Lib.hid hno; clear h hno
    go_enter Try.func20, Try.ntmps20
    go_wp2_with fail
    refine (c_iCustomersOk L A c _ hA hn).mono ?_
    rintro e w1 ⟨rfl, hb1⟩
    rw [H.out]
    go_wp2_with fail
    go_ret2
    refine ⟨.slice none 0 0, ?_, ?_, hb1⟩
    · rw [Hq.out]; rfl
    · rw [laterR_no Hq.out]; exact CO.nil _ _

end Go.Proofs.Ytkkglpohmeehlaa

