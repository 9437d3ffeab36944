/- spec.OrderBy (ahead of the landing) -/
import Derived.Test.YtecoefjkobpbgaaK4
import Derived.Test.YtecoefjkobpbgaaC
namespace Go.Proofs.Ytecoefjkobpbgaa
set_option linter.unusedVariables false
open Go.RowKit
attribute [local go_sem ↓] Go.wp_at_zero Go.wp_at_succ

def needsTo (L : List (Int × Int)) (k : Nat) : List Int := (needs L).take k
theorem needsTo_len {L : List (Int × Int)} {k : Nat} (h : k ≤ L.length) : (needsTo L k).length = k := by rw [needsTo, List.length_take, needs_len]; omega
theorem needs_take_succ {L : List (Int × Int)} {k : Nat} (h : k < L.length) : needsTo L (k + 1) = needsTo L k ++ [Y L k] := by
  unfold needsTo
  rw [List.take_succ_eq_append_getElem (by rw [needs_len]; exact h)]
  congr 2
  simp [needs, Y, h]
/-- a list that lies between lo and hi is as it was -/
theorem IO.mid {w w' : World} {base lo hi : Nat} {v : Value} {xs : List Int} (h : IO w base v xs) (hm : Mid lo hi w w') (hr : ∀ r, v.ownBlock = some r → lo < r ∧ r < hi) : IO w' base v xs := by
  refine ⟨h.1, ?_⟩
  rcases h.2 with h2 | ⟨g, cap, cur, rfl, hgb, hh, rest⟩
  · exact .inl h2
  · have := hr g (by simp [Value.ownBlock])
    exact .inr ⟨g, cap, cur, rfl, hgb, by rw [hm g this.1 this.2]; exact hh, rest⟩
def byOk (L : List (Int × Int)) (r : Int) : Bool := cOk L && decide (0 ≤ r ∧ r ≤ 3)
def orderR (L : List (Int × Int)) (r : Int) : List Int := if byOk L r = true then orderTo L r (lastLeave L).toNat else []
theorem orderR_yes {L : List (Int × Int)} {r : Int} (h : byOk L r = true) : orderR L r = orderTo L r (lastLeave L).toNat := if_pos h
theorem orderR_no {L : List (Int × Int)} {r : Int} (h : byOk L r = false) : orderR L r = [] := by simp [orderR, h]

set_option maxHeartbeats 8000000 in
theorem c_sOrderBy (L : List (Int × Int)) (A : Option Addr) (c : Nat) (r : Int) (w : World) (hA : Cs w w.heap.size A L) (hn : L.length ≤ 140737488351232) :
    Calls Try.prog 69 #[.slice A L.length c, .int .i64 r] w fun e w' => ∃ v, e = .returned v ∧ IO w' w.heap.size v (orderR L r) ∧ Below w.heap.size w w' := by
  have hb0 : Below w.heap.size w (w.alloc (.cells #[] 3)) := by (repeat (first | exact rfl | exact Below.refl _ _ | (with_reducible refine Below.drew ?_) | (with_reducible refine Below.drewN ?_ _) | (with_reducible refine Below.alloc ?_ ?_ _) | (with_reducible refine Below.setCell ?_ ?_ _) | (show _ ≤ _; focus (first | omega | (simp; done) | (simp; omega)))))
  have own0 := IO.empty w (Nat.le_refl w.heap.size)
  by_cases hp : byOk L r = true
  · have HV := Lib.hid (orderR_yes hp)
    obtain ⟨hok, hr⟩ : cOk L = true ∧ decide (0 ≤ r ∧ r ≤ 3) = true := by simpa [byOk] using hp
    obtain ⟨T, hT, hT2⟩ := lastLeave_nat hok
    have HT := Lib.hid hT
    have HR := Lib.hid hr
    have H := Lib.hid hok
    have hlen := cOk_len hok
    have HI := Lib.hid (fun t => ordL_inv hok r t)
    have HB0 := Lib.hid hb0
    clear hp hok hr hT hb0
    go_enter Try.func69, Try.ntmps69
    go_wp2_with fail
    refine (c_sCustomersOk L A c _ ((hA.below HB0.out).more HB0.out.size) hn).mono ?_
    rintro e w1 ⟨rfl, hb1⟩
    rw [H.out]
    have own1 := own0.below hb1 (Nat.le_refl _)
    have hbx := HB0.out.trans (hb1.mono HB0.out.size)
    have hsx : w.heap.size < w1.heap.size := by have := hb1.size; simp at this; omega
    have K := c_l1In r 0 3 w1
    rw [HR.out] at K
    have HK := Lib.hid K
    clear K hb1 own0 HB0
    go_wp2_with fail
    refine HK.out.mono ?_
    rintro e w2 ⟨rfl, rfl⟩
    clear HK
    go_wp2_with fail
    have hbz : Below w2.heap.size w2 (w2.alloc (.cells #[] 3)) := by (repeat (first | exact rfl | exact Below.refl _ _ | (with_reducible refine Below.drew ?_) | (with_reducible refine Below.drewN ?_ _) | (with_reducible refine Below.alloc ?_ ?_ _) | (with_reducible refine Below.setCell ?_ ?_ _) | (show _ ≤ _; focus (first | omega | (simp; done) | (simp; omega)))))
    go_loopw [6, 7] (fun o i wr => ∃ k : Nat, k ≤ L.length ∧ i = .int .i64 k ∧ IO wr w2.heap.size o (needsTo L k) ∧ Below w2.heap.size w2 wr) (fun _ i _ => L.length - (intOf i).toNat)
    case atStart => exact ⟨0, by omega, rfl, IO.empty w2 (Nat.le_refl _), hbz⟩
    case round =>
      obtain ⟨k, hk, rfl, hown, hb⟩ := hrel
      have hsz := hb.size
      by_cases hlt : k < L.length
      · obtain ⟨b, off, rfl, hlb, hc⟩ := hA (by omega)
        have c1 := (hb.cell (p := ⟨b, off + k * 2 + 1, none⟩) (by show b < _; omega)).trans ((hbx.cell (p := ⟨b, off + k * 2 + 1, none⟩) hlb).trans (hc k hlt).2)
        have q5 : (needsTo L k).length ≤ 1000000000000 := by rw [needsTo_len (by omega)]; omega
        clear hc
        go_wp2_with (refine app_I ?_ (.tmp 27) (.tmp 33) ?_ w2.heap.size u6 (needsTo L k) (Y L k) wr.heap.size ?_ ?_ ?_ ?_ ?_ ?_ ?_; rfl; rfl; rfl; exact (hown.alloc _); rfl; exact (heap_alloc_new _ _); exact q5; exact (Nat.le_trans hsz (by simp)); intro g7 cap w7 hown7 hgr7 hb7)
        go_roundw
        case rel =>
          refine ⟨k + 1, by omega, by go_num, by rw [needs_take_succ hlt]; exact hown7, ?_⟩
          refine Below.trans ?_ hb7
          (repeat (first | exact hb | exact Below.refl _ _ | (with_reducible refine Below.drew ?_) | (with_reducible refine Below.drewN ?_ _) | (with_reducible refine Below.alloc ?_ ?_ _) | (with_reducible refine Below.setCell ?_ ?_ _) | (show _ ≤ _; focus (first | omega | (simp; done) | (simp; omega)))))
        case measure => simp [intOf]; omega
      · have hlf : ¬ ((k : Int) < (L.length : Int)) := by omega
        have hown3 : IO wr w2.heap.size u6 (ordL L r 0) := by
          have e : needsTo L k = needs L := List.take_of_length_le (by rw [needs_len]; omega)
          rw [e] at hown
          exact hown
        have hbw := hbx.trans (hb.mono (by omega))
        have own3 := own1.below hb (Nat.le_refl _)
        have hlr : ∀ rr, u6.ownBlock = some rr → w.heap.size < rr ∧ rr < wr.heap.size := fun rr e => ⟨by have := owns_base hown3 rr e; omega, owns_lt hown3 rr e⟩
        have HLR := Lib.hid hlr
        obtain ⟨G, g, hu6, hg1, hG⟩ := hown3.formG
        have hll : (ordL L r 0).length = L.length := needs_len L
        clear hown hb hk hlr hbz own1 hG hg1
        rw [hll] at hu6
        subst hu6
        go_wp2_with fail
        obtain ⟨w3, hw3⟩ : ∃ x, x = wr := ⟨_, rfl⟩
        rw [← hw3] at hown3 own3 hbw hsz HLR ⊢
        clear hw3
        go_loopw [5, 8] (fun o i wq => ∃ t : Nat, t ≤ T ∧ i = .int .i64 t ∧ IO wq w.heap.size o (orderTo L r t) ∧ Hid (Sep w.heap.size w3.heap.size o) ∧ IO wq w2.heap.size (.slice G L.length g) (ordL L r t) ∧ w3.heap.size ≤ wq.heap.size ∧ Below w.heap.size w wq) (fun _ i _ => T - (intOf i).toNat)
        case atStart => exact ⟨0, by omega, rfl, own3, Sep.lo _ _ _ _, hown3, Nat.le_refl _, hbw⟩
        case round =>
          obtain ⟨t, ht, rfl, hown, hsep, hleft, hz, hb⟩ := hrel
          have hsq := hb.size
          have K := c_sLastLeave L A c wr ((hA.below hb).more hsq) hn
          rw [HT.out] at K
          have HK := Lib.hid K
          clear K
          by_cases hlt : t < T
          · have hpk := (HI.out t).picks r
            have hln := (HI.out t).len
            have hE : ordL L r (t + 1) = stepL (ordL L r t) (ordW L r t) := rfl
            have hO := orderTo_succ L r t
            have HE := Lib.hid hE
            have HO := Lib.hid hO
            have HP := Lib.hid hpk
            clear hE hO hpk
            go_wp2_with fail
            refine HK.out.mono ?_
            rintro e w5 ⟨rfl, hb5⟩
            have hown5 := hown.below hb5 (Nat.le_refl _)
            have hleft5 := hleft.below hb5 (Nat.le_refl _)
            have hb6 := hb.trans (hb5.mono hsq)
            have hz5 : w3.heap.size ≤ w5.heap.size := Nat.le_trans hz hb5.size
            have hA5 := (hA.below hb6).more hb6.size
            have K2 := c_l4Pick L (ordL L r t) A G w5.heap.size w5.heap.size c g t r w5 hA5 hleft5.isOf.2 hln hn
            rw [hln] at K2
            have HK2 := Lib.hid K2
            clear K2 hown hleft hb5 HK hb hsq hz
            go_wp2_with fail
            refine HK2.out.mono ?_
            rintro e w6 ⟨rfl, m, rfl⟩
            have e0 : pick L (ordL L r t) t r = ordW L r t := rfl
            rw [e0]
            clear e0 HK2
            have hownq : IO (w5.drewN m) w.heap.size u5 (orderTo L r t) := hown5
            have hleftq : IO (w5.drewN m) w2.heap.size (.slice G L.length g) (ordL L r t) := hleft5
            have hbq : Below w.heap.size w (w5.drewN m) := by (repeat (first | exact hb6 | exact Below.refl _ _ | (with_reducible refine Below.drew ?_) | (with_reducible refine Below.drewN ?_ _) | (with_reducible refine Below.alloc ?_ ?_ _) | (with_reducible refine Below.setCell ?_ ?_ _) | (show _ ≤ _; focus (first | omega | (simp; done) | (simp; omega)))))
            have hzq : w3.heap.size ≤ (w5.drewN m).heap.size := hz5
            generalize w5.drewN m = wq at hownq hleftq hbq hzq ⊢
            clear hown5 hleft5 hb6 hz5 hA5
            have q5 : (orderTo L r t).length ≤ 1000000000000 := by rw [orderTo_len]; omega
            have hal : Below wq.heap.size wq (wq.alloc (.cells #[.int .i64 (ordW L r t)] 3)) := (Below.refl _ _).alloc (Nat.le_refl _) _
            have HU := Lib.hid (And.intro q5 (And.intro hbq (And.intro hzq (And.intro hal hleftq))))
            clear q5 hbq hzq hal hleftq
            rcases HP.out with ⟨e, _⟩ | ⟨p, e, hpl, hpx, hpz, _⟩
            · have e' : ordW L r t = -1 := e
              have E := Lib.hid (show ordL L r (t + 1) = ordL L r t by rw [HE.out, e']; simp [stepL])
              have EW := Lib.hid e'
              rw [e'] at HU ⊢
              clear e e'
              go_wp2_with (refine app_IS ?_ (.tmp 46) (.tmp 48) ?_ w.heap.size u5 (orderTo L r t) (-1) wq.heap.size ?_ ?_ ?_ ?_ ?_ ?_ w.heap.size w3.heap.size wq ?_ ?_ ?_ ?_; rfl; rfl; rfl; exact (hownq.alloc _); rfl; exact (heap_alloc_new _ _); exact HU.out.1; exact (Nat.le_trans HU.out.2.1.size (by simp)); exact hsep.out; exact ((Mid.refl _ _ _).below HU.out.2.2.2.1 HU.out.2.2.1); exact (Nat.le_trans HU.out.2.2.1 (by simp)); intro g7 cap w7 hown7 hb70 hsep7 hmid7)
              have hz7 := hb70.size
              have hl7 := HU.out.2.2.2.2.mid hmid7 HLR.out
              go_roundw
              case rel =>
                refine ⟨t + 1, by omega, by go_num, by rw [HO.out, EW.out]; exact hown7, hsep7, by rw [E.out]; exact hl7, ?_, ?_⟩
                · have := HU.out.2.2.1; have := HU.out.2.2.2.1.size; omega
                · exact (HU.out.2.1.trans (HU.out.2.2.2.1.mono HU.out.2.1.size)).trans hb70
              case measure => simp [intOf]; omega
            · have e' : ordW L r t = (p : Int) := e
              have hpL : p < L.length := by first | exact hpl | omega
              have E := Lib.hid (show ordL L r (t + 1) = (ordL L r t).set p (Z (ordL L r t) p - 1) by rw [HE.out, e']; simp [stepL])
              have EW := Lib.hid e'
              obtain ⟨G', g', hu6, hg1, hG⟩ := HU.out.2.2.2.2.formG
              injection hu6 with e1 e2 e3
              subst e1
              subst e3
              obtain ⟨lb, rfl, hlb1, hlb2, hlc⟩ := hG (by omega)
              rw [e'] at HU ⊢
              have rg := (HI.out t).rng p hpL
              have bd := cOk_bd H.out hpL
              have ez : IntKind.i64.wrap (Z (ordL L r t) p - 1) = Z (ordL L r t) p - 1 := IntWalk.i64_in _ (by omega)
              clear e e' e2 hlc
              go_wp2_with (refine app_IS ?_ (.tmp 46) (.tmp 48) ?_ w.heap.size u5 (orderTo L r t) (p : Int) wq.heap.size ?_ ?_ ?_ ?_ ?_ ?_ w.heap.size w3.heap.size wq ?_ ?_ ?_ ?_; rfl; rfl; rfl; exact (hownq.alloc _); rfl; exact (heap_alloc_new _ _); exact HU.out.1; exact (Nat.le_trans HU.out.2.1.size (by simp)); exact hsep.out; exact ((Mid.refl _ _ _).below HU.out.2.2.2.1 HU.out.2.2.1); exact (Nat.le_trans HU.out.2.2.1 (by simp)); intro g7 cap w7 hown7 hb70 hsep7 hmid7; have hz7 := hb70.size; have hl7 := HU.out.2.2.2.2.mid hmid7 HLR.out; have c7 := hl7.cells.2.1 p hpL; have f7 := hl7.cells.2.2 p)
              have hl8 := hl7.store p (Z (ordL L r t) p - 1)
              have hne : ∀ rr, (Value.slice (some ⟨g7, 0, none⟩) ((orderTo L r t).length + 1) cap).ownBlock = some rr → some lb ≠ some rr := fun rr e q => by
                have h1 := hsep7 rr e
                have h2 := HLR.out lb (by simp [Value.ownBlock])
                injection q with q
                omega
              have hg8 : w7.grownBy (w7.setCell ⟨lb, p, none⟩ (.int .i64 (Z (ordL L r t) p - 1))) (some lb) := ⟨rfl, rfl, rfl, by simp [World.setCell], fun k _ hne => Below.heap_setCell _ _ _ _ (fun e => hne (by rw [e]))⟩
              have hown8 := hown7.grownR' hg8 hne
              have hb8 : Below w.heap.size w (w7.setCell ⟨lb, p, none⟩ (.int .i64 (Z (ordL L r t) p - 1))) := by
                have hb9 := (HU.out.2.1.trans (HU.out.2.2.2.1.mono HU.out.2.1.size)).trans hb70
                (repeat (first | exact hb9 | exact Below.refl _ _ | (with_reducible refine Below.drew ?_) | (with_reducible refine Below.drewN ?_ _) | (with_reducible refine Below.alloc ?_ ?_ _) | (with_reducible refine Below.setCell ?_ ?_ _) | (show _ ≤ _; focus (first | omega | (simp; done) | (simp; omega)))))
              clear hl7 hown7 hg8 hne
              go_roundw
              case rel =>
                refine ⟨t + 1, by omega, by go_num, by rw [HO.out, EW.out]; exact hown8, hsep7, by rw [E.out]; exact hl8, ?_, hb8⟩
                have := HU.out.2.2.1; have := HU.out.2.2.2.1.size; simp [World.setCell]; omega
              case measure => simp [intOf]; omega
          · have hlf2 : ¬ ((t : Int) < (T : Int)) := by omega
            go_wp2_with fail
            refine HK.out.mono ?_
            rintro e w5 ⟨rfl, hb5⟩
            go_wp2_with fail
            go_ret
            refine ⟨_, rfl, ?_, hb.trans (hb5.mono hsq)⟩
            rw [HV.out, HT.out, show ((T : Int)).toNat = t by omega]
            exact hown.below hb5 (Nat.le_refl _)
  · have hp' : byOk L r = false := by simpa using hp
    have HV := Lib.hid (orderR_no hp')
    have HB0 := Lib.hid hb0
    by_cases hok : cOk L = true
    · have hr : decide (0 ≤ r ∧ r ≤ 3) = false := by simpa [byOk, hok] using hp'
      have HR := Lib.hid hr
      have H := Lib.hid hok
      clear hp hp' hok hr hb0
      go_enter Try.func69, Try.ntmps69
      go_wp2_with fail
      refine (c_sCustomersOk L A c _ ((hA.below HB0.out).more HB0.out.size) hn).mono ?_
      rintro e w1 ⟨rfl, hb1⟩
      rw [H.out]
      have own1 := own0.below hb1 (Nat.le_refl _)
      have hbx := HB0.out.trans (hb1.mono HB0.out.size)
      have K := c_l1In r 0 3 w1
      rw [HR.out] at K
      have HK := Lib.hid K
      clear K hb1 own0 HB0
      go_wp2_with fail
      refine HK.out.mono ?_
      rintro e w2 ⟨rfl, rfl⟩
      go_wp2_with fail
      go_ret
      exact ⟨_, rfl, by rw [HV.out]; exact own1, hbx⟩
    · have H := Lib.hid (by simpa using hok : cOk L = false)
      clear hp hp' hok hb0
      go_enter Try.func69, Try.ntmps69
      go_wp2_with fail
      refine (c_sCustomersOk L A c _ ((hA.below HB0.out).more HB0.out.size) hn).mono ?_
      rintro e w1 ⟨rfl, hb1⟩
      rw [H.out]
      have own1 := own0.below hb1 (Nat.le_refl _)
      have hbx := HB0.out.trans (hb1.mono HB0.out.size)
      clear hb1 own0 HB0
      go_wp2_with fail
      go_ret
      exact ⟨_, rfl, by rw [HV.out]; exact own1, hbx⟩

end Go.Proofs.Ytecoefjkobpbgaa

