/- impl.NeedOf, fold, spec.NeedOf · impl.comeUpTo, impl.ComeBy, spec.ComeBy · gapTo, impl.GapsOf, spec.GapsOf · later, impl.LaterBy, spec.LaterBy, spec.LastLeave -/
import Derived.Test.YtpbmehodcllncaaA
import Derived.Test.YtpbmehodcllncaaB
import Derived.Test.YtpbmehodcllncaaM
import Derived.Test.YtpbmehodcllncaaO
namespace Go.Proofs.Ytpbmehodcllncaa
set_option linter.unusedVariables false
open Go.RowKit

set_option maxHeartbeats 400000 in
theorem c_needStep (a x y : Int) (w : World) (h : -9223372036854775808 ≤ a + y ∧ a + y ≤ 9223372036854775807) :
    Calls Try.prog 56 #[.int .i64 a, .agg #[.int .i64 x, .int .i64 y]] w fun e w' => e = .returned (.int .i64 (a + y)) ∧ Below w.heap.size w w' := by
  obtain ⟨h1, h2⟩ := h
  go_enter Try.func56, Try.ntmps56
  go_wp2
  go_ret
  exact ⟨rfl, (Below.refl _ _).alloc (Nat.le_refl _) _⟩

set_option maxHeartbeats 1000000 in
theorem c_foldCI (acc : Nat → Value) (L : List (Int × Int)) (A : Option Addr) (c : Nat) (w : World) (hA : Cs w w.heap.size A L) (hn : L.length ≤ 140737488351232)
    (hs : ∀ k W, k < L.length → Calls Try.prog 56 #[acc k, .agg #[.int .i64 (X L k), .int .i64 (Y L k)]] W fun e w' => e = .returned (acc (k + 1)) ∧ Below W.heap.size W w') :
    Calls Try.prog 55 #[.slice A L.length c, acc 0, .func (.func 56) #[] #[]] w fun e w' => e = .returned (acc L.length) ∧ Below w.heap.size w w' := by
  have Hs := Lib.hid hs; clear hs
  go_enter Try.func55, Try.ntmps55
  go_wp2_with fail
  go_loopw [7, 13] (fun a i wr => ∃ k : Nat, k ≤ L.length ∧ i = .int .i64 k ∧ a = acc k ∧ Below w.heap.size w wr)
      (fun _ i _ => L.length - (intOf i).toNat)
  case atStart => exact ⟨0, Nat.zero_le _, rfl, rfl, Below.refl _ _⟩
  case round =>
    obtain ⟨k, hk, rfl, rfl, hb⟩ := hrel
    by_cases hlt : k < L.length
    · obtain ⟨b, off, rfl, hlb, hc⟩ := hA (by omega)
      have c1 := (hb.cell (p := ⟨b, off + k * 2, none⟩) hlb).trans (hc k hlt).1
      have c2 := (hb.cell (p := ⟨b, off + k * 2 + 1, none⟩) hlb).trans (hc k hlt).2
      clear hc
      have hsz := hb.size
      go_wp2_with fail
      refine (Hs.out k _ hlt).mono ?_
      rintro e w1 ⟨rfl, hb1⟩
      go_wp2_with fail
      go_roundw
      case rel =>
        refine ⟨k + 1, by omega, by go_num, rfl, ?_⟩
        refine Below.trans ?_ (hb1.mono ?_)
        all_goals (repeat (first | exact hb | exact Below.refl _ _ | (with_reducible refine Below.drew ?_) | (with_reducible refine Below.drewN ?_ _) | (with_reducible refine Below.alloc ?_ ?_ _) | (with_reducible refine Below.setCell ?_ ?_ _) | (show _ ≤ _; focus (first | omega | (simp; done) | (simp; omega)))))
      case measure => simp [intOf]; omega
    · go_wp2_with fail
      go_ret
      obtain rfl : k = L.length := by omega
      exact ⟨rfl, hb⟩

set_option maxHeartbeats 1000000 in
theorem c_iNeedOf (L : List (Int × Int)) (A : Option Addr) (c : Nat) (w : World) (hA : Cs w w.heap.size A L) (hn : L.length ≤ 140737488351232) :
    Calls Try.prog 25 #[.slice A L.length c] w fun e w' => e = .returned (.int .i64 (needOf L)) ∧ Below w.heap.size w w' := by
  by_cases h : cOk L = true
  · have hsb := sumTo_bd h
    have hlen := cOk_len h
    have H := Lib.hid h; clear h
    have Hsb := Lib.hid hsb; clear hsb
    go_enter Try.func25, Try.ntmps25
    go_wp2_with fail
    refine (c_iCustomersOk L A c _ hA hn).mono ?_
    rintro e w1 ⟨rfl, hb1⟩
    rw [H.out]
    go_wp2_with fail
    refine (c_foldCI (fun k => .int .i64 (sumTo L k)) L A c _ ((hA.below hb1).more hb1.size) hn ?_).mono ?_
    · intro k W hk
      have h1 := Hsb.out k (by omega)
      have h2 := Hsb.out (k + 1) (by omega)
      simp only [sumTo] at h2
      exact c_needStep _ _ _ _ (by omega)
    · rintro e w2 ⟨rfl, hb2⟩
      go_wp2_with fail
      go_ret
      exact ⟨by simp [needOf, H.out], hb1.trans (hb2.mono hb1.size)⟩
  · have hno : cOk L = false := by simpa using h
    have H := Lib.hid hno; clear h hno
    go_enter Try.func25, Try.ntmps25
    go_wp2_with fail
    refine (c_iCustomersOk L A c _ hA hn).mono ?_
    rintro e w1 ⟨rfl, hb1⟩
    rw [H.out]
    go_wp2_with fail
    go_ret
    exact ⟨by simp [needOf, H.out], hb1⟩

end Go.Proofs.Ytpbmehodcllncaa

namespace Go.Proofs.Ytpbmehodcllncaa
set_option linter.unusedVariables false
open Go.RowKit

end Go.Proofs.Ytpbmehodcllncaa

namespace Go.Proofs.Ytpbmehodcllncaa
set_option linter.unusedVariables false
open Go.RowKit
attribute [local go_sem ↓] Go.wp_at_zero Go.wp_at_succ

end Go.Proofs.Ytpbmehodcllncaa

namespace Go.Proofs.Ytpbmehodcllncaa
set_option linter.unusedVariables false
open Go.RowKit
attribute [local go_sem ↓] Go.wp_at_zero Go.wp_at_succ

set_option maxHeartbeats 400000 in
theorem c_later (x y t : Int) (w : World) (h1 : -1000 ≤ x) (h2 : x ≤ 1000) (h3 : -1000 ≤ t) (h4 : t ≤ 1000) :
    Calls Try.prog 92 #[.agg #[.int .i64 x, .int .i64 y], .int .i64 t] w fun e w' => e = .returned (.agg #[.int .i64 (x + t), .int .i64 y]) ∧ Below w.heap.size w w' := by
  go_enter Try.func92, Try.ntmps92
  go_wp2
  exact bodyPost_ret (v := .agg #[.int .i64 (x + t), .int .i64 y]) (by simp [results, Try.results92, go_sem]) rfl ⟨rfl, by (repeat (first | exact rfl | exact Below.refl _ _ | (with_reducible refine Below.drew ?_) | (with_reducible refine Below.drewN ?_ _) | (with_reducible refine Below.alloc ?_ ?_ _) | (with_reducible refine Below.setCell ?_ ?_ _) | (show _ ≤ _; focus (first | omega | (simp; done) | (simp; omega)))))⟩

def laterV (v : Value) (b : Bool) : Value := .tuple #[v, .bool b]

set_option maxHeartbeats 4000000 in
theorem c_iLaterBy (L : List (Int × Int)) (A : Option Addr) (c : Nat) (t : Int) (w : World) (hA : Cs w w.heap.size A L) (hn : L.length ≤ 140737488351232) :
    Calls Try.prog 91 #[.slice A L.length c, .int .i64 t] w fun e w' => ∃ v, e = .returned (laterV v (laterOk L t)) ∧ CO w' w.heap.size v (laterR L t) ∧ Below w.heap.size w w' := by
  by_cases h : cOk L = true
  · by_cases ht : 0 ≤ t ∧ t ≤ 60
    · have ht' : decide (0 ≤ t ∧ t ≤ 60) = true := by simpa using ht
      have Hbd := Lib.hid (fun k => @cOk_bd L k h)
      have hlen := cOk_len h
      have Hq := Lib.hid (show laterOk L t = cOk (laterL L t) by simp [laterOk, h, ht])
      have H := Lib.hid h; clear h
      go_enter Try.func91, Try.ntmps91
      go_wp2_with fail
      refine (c_iCustomersOk L A c _ hA hn).mono ?_
      rintro e w1 ⟨rfl, hb1⟩
      rw [H.out]
      go_wp2_with fail
      refine (c_within _ _ _ _).mono ?_
      rintro e w' ⟨rfl, rfl⟩
      go_wp2_with fail
      go_loopw [6, 19] (fun o i wr => ∃ k : Nat, k ≤ L.length ∧ i = .int .i64 k ∧ CO wr w.heap.size o (laterTo L t k) ∧ Below w.heap.size w wr)
        (fun _ i _ => L.length - (intOf i).toNat)
      case atStart => exact ⟨0, by omega, rfl, CO.nil _ _, hb1⟩
      case round =>
        obtain ⟨k, hk, rfl, hown, hb⟩ := hrel
        by_cases hlt : k < L.length
        · obtain ⟨b, off, rfl, hlb, hc⟩ := hA (by omega)
          have c1 := (hb.cell (p := ⟨b, off + k * 2, none⟩) hlb).trans (hc k hlt).1
          have c2 := (hb.cell (p := ⟨b, off + k * 2 + 1, none⟩) hlb).trans (hc k hlt).2
          clear hc
          have hsz := hb.size
          have bd1 := Hbd.out k (by omega)
          have q5 : (laterTo L t k).length = k := laterTo_len (by omega)
          have Q5 := Lib.hid q5; clear q5
          clear hb1 hA
          go_wp2_with fail
          refine (c_later (X L k) (Y L k) t _ (by omega) (by omega) (by omega) (by omega)).mono ?_
          rintro e w5 ⟨rfl, hb5⟩
          have h5 : Below wr.heap.size wr w5 := Below.trans (by (repeat (first | exact rfl | exact Below.refl _ _ | (with_reducible refine Below.drew ?_) | (with_reducible refine Below.drewN ?_ _) | (with_reducible refine Below.alloc ?_ ?_ _) | (with_reducible refine Below.setCell ?_ ?_ _) | (show _ ≤ _; focus (first | omega | (simp; done) | (simp; omega)))))) (hb5.mono (by simp))
          have o5 := hown.below h5 (Nat.le_refl _)
          have hs5 := h5.size
          have hz5 := hb.trans (h5.mono hsz)
          clear hb5 h5 hown
          go_wp2_with (refine app_C (by rfl) (.tmp 23) (.tmp 27) (by rfl) w.heap.size u6 (laterTo L t k) (X L k + t) (Y L k) w5.heap.size (by rfl) (o5.alloc _) (by rfl) (heap_alloc_new _ _) (by rw [Q5.out]; omega) (by simp; omega) ?_; intro g cap w6 hown6 hgr6 hb6)
          go_roundw
          case rel =>
            refine ⟨k + 1, by omega, by go_num, ?_, hz5.trans (Below.trans (by (repeat (first | exact rfl | exact Below.refl _ _ | (with_reducible refine Below.drew ?_) | (with_reducible refine Below.drewN ?_ _) | (with_reducible refine Below.alloc ?_ ?_ _) | (with_reducible refine Below.setCell ?_ ?_ _) | (show _ ≤ _; focus (first | omega | (simp; done) | (simp; omega)))))) hb6)⟩
            rw [laterTo_succ hlt]
            exact hown6
          case measure => simp [intOf]; omega
        · obtain rfl : k = L.length := by omega
          have e1 : laterTo L t L.length = laterL L t := laterTo_all L t
          rw [e1] at hown
          obtain ⟨A2, c2, rfl, hc21, hc22, hA2⟩ := hown.form
          have hown' := hown
          clear hown e1 hb1
          have hsz := hb.size
          rw [laterL_len] at hown' hc21 ⊢
          go_wp2_with fail
          have K := c_iCustomersOk (laterL L t) A2 c2 wr hA2 (by rw [laterL_len]; omega)
          rw [laterL_len] at K
          refine K.mono ?_
          clear K
          rintro e w7 ⟨rfl, hb7⟩
          have o7 := hown'.below hb7 (Nat.le_refl _)
          by_cases hq : cOk (laterL L t) = true
          · have HQ := Lib.hid hq; clear hq
            rw [HQ.out]
            go_wp2_with fail
            go_ret2
            refine ⟨.slice A2 L.length c2, ?_, ?_, hb.trans (hb7.mono hsz)⟩
            · rw [Hq.out, HQ.out]; rfl
            · rw [laterR_yes (by rw [Hq.out, HQ.out])]; exact o7
          · have hq' : cOk (laterL L t) = false := by simpa using hq
            have HQ := Lib.hid hq'; clear hq hq'
            rw [HQ.out]
            go_wp2_with fail
            go_ret2
            refine ⟨.slice none 0 0, ?_, ?_, hb.trans (hb7.mono hsz)⟩
            · rw [Hq.out, HQ.out]; rfl
            · rw [laterR_no (by rw [Hq.out, HQ.out])]; exact CO.nil _ _
    · have ht' : decide (0 ≤ t ∧ t ≤ 60) = false := by simpa using ht
      have Hq := Lib.hid (show laterOk L t = false by simp [laterOk, ht])
      have H := Lib.hid h; clear h
      go_enter Try.func91, Try.ntmps91
      go_wp2_with fail
      refine (c_iCustomersOk L A c _ hA hn).mono ?_
      rintro e w1 ⟨rfl, hb1⟩
      rw [H.out]
      go_wp2_with fail
      refine (c_within _ _ _ _).mono ?_
      rintro e w' ⟨rfl, rfl⟩
      go_wp2_with fail
      go_ret2
      refine ⟨.slice none 0 0, ?_, ?_, hb1⟩
      · rw [Hq.out]; rfl
      · rw [laterR_no Hq.out]; exact CO.nil _ _
  · have hno : cOk L = false := by simpa using h
    have Hq := Lib.hid (show laterOk L t = false by simp [laterOk, hno])
    have H := Lib.hid hno; clear h hno
    go_enter Try.func91, Try.ntmps91
    go_wp2_with fail
    refine (c_iCustomersOk L A c _ hA hn).mono ?_
    rintro e w1 ⟨rfl, hb1⟩
    rw [H.out]
    go_wp2_with fail
    go_ret2
    refine ⟨.slice none 0 0, ?_, ?_, hb1⟩
    · rw [Hq.out]; rfl
    · rw [laterR_no Hq.out]; exact CO.nil _ _

set_option maxHeartbeats 4000000 in
theorem c_sLaterBy (L : List (Int × Int)) (A : Option Addr) (c : Nat) (t : Int) (w : World) (hA : Cs w w.heap.size A L) (hn : L.length ≤ 1048576) :
    Calls Try.prog 78 #[.slice A L.length c, .int .i64 t] w fun e w' => ∃ v, e = .returned (laterV v (laterOk L t)) ∧ CO w' w.heap.size v (laterR L t) ∧ Below w.heap.size w w' := by
  have ht' : decide (0 ≤ t ∧ t ≤ 60) = true ∨ decide (0 ≤ t ∧ t ≤ 60) = false := by cases decide (0 ≤ t ∧ t ≤ 60) <;> simp
  go_enter Try.func78, Try.ntmps78
  go_wp2_with fail
  go_loopw [6, 7] (fun o i wr => ∃ k : Nat, k ≤ L.length ∧ i = .int .i64 k ∧ CO wr w.heap.size o (laterWTo L t k) ∧ Below w.heap.size w wr)
    (fun _ i _ => L.length - (intOf i).toNat)
  case atStart => exact ⟨0, by omega, rfl, CO.empty _ (Nat.le_refl _), by (repeat (first | exact rfl | exact Below.refl _ _ | (with_reducible refine Below.drew ?_) | (with_reducible refine Below.drewN ?_ _) | (with_reducible refine Below.alloc ?_ ?_ _) | (with_reducible refine Below.setCell ?_ ?_ _) | (show _ ≤ _; focus (first | omega | (simp; done) | (simp; omega)))))⟩
  case round =>
    obtain ⟨k, hk, rfl, hown, hb⟩ := hrel
    by_cases hlt : k < L.length
    · obtain ⟨b, off, rfl, hlb, hc⟩ := hA (by omega)
      have c1 := (hb.cell (p := ⟨b, off + k * 2, none⟩) hlb).trans (hc k hlt).1
      have c2 := (hb.cell (p := ⟨b, off + k * 2 + 1, none⟩) hlb).trans (hc k hlt).2
      clear hc
      have hsz := hb.size
      have q5 : (laterWTo L t k).length ≤ 1000000000000 := by rw [laterWTo_len (by omega)]; omega
      have hlw : b < wr.heap.size := by omega
      clear hA
      go_wp2_with fail
      go_region_held3 (fun w' => w'.cell? ⟨b, off + k * 2, none⟩ = some (.int .i64 (X L k)) ∧ w'.cell? ⟨b, off + k * 2 + 1, none⟩ = some (.int .i64 (Y L k)))
        (first
          | go_keep
          | exact ⟨(hb6.cell (p := ⟨b, _, none⟩) hlb).trans ((((Below.refl _ _).alloc (Nat.le_refl _) _).cell (p := ⟨b, _, none⟩) hlw).trans c1), (hb6.cell (p := ⟨b, _, none⟩) hlb).trans ((((Below.refl _ _).alloc (Nat.le_refl _) _).cell (p := ⟨b, _, none⟩) hlw).trans c2)⟩)
        ((refine step_C (by rfl) (.tmp 15) (.tmp 29) (by rfl) w.heap.size u6 (laterWTo L t k) (IntKind.i64.wrap (X L k + t)) (Y L k) wr.heap.size (by rfl) ((hown.alloc _).drew) (by rfl) (heap_alloc_new _ _) q5 ?_ ?_; (simp; omega); intro g cap w6 hown6 hgr hb6))
      go_wp2_with fail
      go_roundw
      case rel =>
        refine ⟨k + 1, by omega, by go_num, by rw [laterWTo_succ hlt]; exact hown6, ?_⟩
        refine Below.trans ?_ hb6
        (repeat (first | exact hb | exact Below.refl _ _ | (with_reducible refine Below.drew ?_) | (with_reducible refine Below.drewN ?_ _) | (with_reducible refine Below.alloc ?_ ?_ _) | (with_reducible refine Below.setCell ?_ ?_ _) | (show _ ≤ _; focus (first | omega | (simp; done) | (simp; omega)))))
      case measure => simp [intOf]; omega
    · obtain rfl : k = L.length := by omega
      have e1 : laterWTo L t L.length = laterW L t := laterWTo_all L t
      rw [e1] at hown
      obtain ⟨A2, c2, rfl, hc21, hc22, hA2⟩ := hown.form
      have hown' := hown
      clear hown e1
      have hsz := hb.size
      rw [laterW_len] at hown' hc21 ⊢
      by_cases h : cOk L = true
      · have HA := Lib.hid h
        by_cases hq : cOk (laterW L t) = true
        · have HQ := Lib.hid hq
          rcases ht' with ht' | ht'
          · have htt : 0 ≤ t ∧ t ≤ 60 := by simpa using ht'
            have HE := Lib.hid (laterW_eq h htt)
            have Hy := Lib.hid (show laterOk L t = true by simp only [laterOk, h, ht', ← laterW_eq h htt, hq, Bool.and_true])
            clear h hq
            go_wp2_with fail
            refine (c_sCustomersOk L A c wr ((hA.below hb).more hsz) (by omega)).mono ?_
            rintro e w7 ⟨rfl, hb7⟩
            rw [HA.out]
            go_wp2_with fail
            have K := c_sCustomersOk (laterW L t) A2 c2 w7 ((hA2.below hb7).more hb7.size) (by rw [laterW_len]; omega)
            rw [laterW_len] at K
            refine K.mono ?_
            clear K
            rintro e w8 ⟨rfl, hb8⟩
            rw [HQ.out]
            go_wp2_with fail
            refine (c_l1In _ _ _ _).mono ?_
            rintro e w' ⟨rfl, rfl⟩
            go_wp2_with fail
            go_ret2
            refine ⟨.slice A2 L.length c2, ?_, ?_, (hb.trans (hb7.mono hsz)).trans (hb8.mono (Nat.le_trans hsz hb7.size))⟩
            · rw [Hy.out]; rfl
            · rw [laterR_yes Hy.out, ← HE.out]
              exact (hown'.below hb7 (Nat.le_refl _)).below hb8 (Nat.le_refl _)
          · have Hy := Lib.hid (show laterOk L t = false by simp only [laterOk, ht', Bool.and_false, Bool.false_and])
            clear h hq
            go_wp2_with fail
            refine (c_sCustomersOk L A c wr ((hA.below hb).more hsz) (by omega)).mono ?_
            rintro e w7 ⟨rfl, hb7⟩
            rw [HA.out]
            go_wp2_with fail
            have K := c_sCustomersOk (laterW L t) A2 c2 w7 ((hA2.below hb7).more hb7.size) (by rw [laterW_len]; omega)
            rw [laterW_len] at K
            refine K.mono ?_
            clear K
            rintro e w8 ⟨rfl, hb8⟩
            rw [HQ.out]
            go_wp2_with fail
            refine (c_l1In _ _ _ _).mono ?_
            rintro e w' ⟨rfl, rfl⟩
            go_wp2_with fail
            go_ret2
            have hb9 := (hb.trans (hb7.mono hsz)).trans (hb8.mono (Nat.le_trans hsz hb7.size))
            have hs9 := hb9.size
            refine ⟨.slice (some ⟨w'.heap.size, 0, none⟩) 0 0, ?_, ?_, by (repeat (first | exact hb9 | exact Below.refl _ _ | (with_reducible refine Below.drew ?_) | (with_reducible refine Below.drewN ?_ _) | (with_reducible refine Below.alloc ?_ ?_ _) | (with_reducible refine Below.setCell ?_ ?_ _) | (show _ ≤ _; focus (first | omega | (simp; done) | (simp; omega)))))⟩
            · rw [Hy.out]; rfl
            · rw [laterR_no Hy.out]
              exact CO.empty _ hb9.size
        · have hq' : cOk (laterW L t) = false := by simpa using hq
          have HQ := Lib.hid hq'
          have Hy := Lib.hid (show laterOk L t = false by
            rcases ht' with ht' | ht'
            · have htt : 0 ≤ t ∧ t ≤ 60 := by simpa using ht'
              simp only [laterOk, h, ht', ← laterW_eq h htt, hq', Bool.and_false]
            · simp only [laterOk, ht', Bool.and_false, Bool.false_and])
          clear h hq hq' ht'
          go_wp2_with fail
          refine (c_sCustomersOk L A c wr ((hA.below hb).more hsz) (by omega)).mono ?_
          rintro e w7 ⟨rfl, hb7⟩
          rw [HA.out]
          go_wp2_with fail
          have K := c_sCustomersOk (laterW L t) A2 c2 w7 ((hA2.below hb7).more hb7.size) (by rw [laterW_len]; omega)
          rw [laterW_len] at K
          refine K.mono ?_
          clear K
          rintro e w8 ⟨rfl, hb8⟩
          rw [HQ.out]
          go_wp2_with fail
          go_ret2
          have hb9 := (hb.trans (hb7.mono hsz)).trans (hb8.mono (Nat.le_trans hsz hb7.size))
          have hs9 := hb9.size
          refine ⟨.slice (some ⟨w8.heap.size, 0, none⟩) 0 0, ?_, ?_, by (repeat (first | exact hb9 | exact Below.refl _ _ | (with_reducible refine Below.drew ?_) | (with_reducible refine Below.drewN ?_ _) | (with_reducible refine Below.alloc ?_ ?_ _) | (with_reducible refine Below.setCell ?_ ?_ _) | (show _ ≤ _; focus (first | omega | (simp; done) | (simp; omega)))))⟩
          · rw [Hy.out]; rfl
          · rw [laterR_no Hy.out]
            exact CO.empty _ hb9.size
      · have hno : cOk L = false := by simpa using h
        have Hy := Lib.hid (show laterOk L t = false by simp only [laterOk, hno, Bool.false_and])
        have H := Lib.hid hno; clear h hno ht'
        go_wp2_with fail
        refine (c_sCustomersOk L A c wr ((hA.below hb).more hsz) (by omega)).mono ?_
        rintro e w7 ⟨rfl, hb7⟩
        rw [H.out]
        go_wp2_with fail
        go_ret2
        have hb9 := hb.trans (hb7.mono hsz)
        have hs9 := hb9.size
        refine ⟨.slice (some ⟨w7.heap.size, 0, none⟩) 0 0, ?_, ?_, by (repeat (first | exact hb9 | exact Below.refl _ _ | (with_reducible refine Below.drew ?_) | (with_reducible refine Below.drewN ?_ _) | (with_reducible refine Below.alloc ?_ ?_ _) | (with_reducible refine Below.setCell ?_ ?_ _) | (show _ ≤ _; focus (first | omega | (simp; done) | (simp; omega)))))⟩
        · rw [Hy.out]; rfl
        · rw [laterR_no Hy.out]
          exact CO.empty _ hb9.size

end Go.Proofs.Ytpbmehodcllncaa

