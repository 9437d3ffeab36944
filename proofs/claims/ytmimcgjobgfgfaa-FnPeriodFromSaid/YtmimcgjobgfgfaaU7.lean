/- The units that a rule tells: unitsBy's function, which serves from what it has made itself; OrderBy, a range over it. -/
import Derived.Test.YtmimcgjobgfgfaaU6
import Derived.OwnWalkIn
import Derived.Laws.EntriesVeiled
namespace Go.Proofs.Ytmimcgjobgfgfaa
set_option linter.unusedVariables false
open Go.RowKit Go.Shelf
attribute [local go_sem] Oper.semAt_some

/-- order = append(order, y), inside a fence, in a region in the text's order -/
theorem appIn_I {F : Fence} {n : Nat} {w : World} {ops : Array Oper} {rest : List Oper} {o : Oper} {a : Act} {Q : Exit → Act → World → Prop} (hgd : o.guard = none) (s x : Operand)
    (ho : o.op = .call { callee := .builtin .append, args := #[s, x], argTypes := #[25, 25] })
    (base : Nat) (v : Value) (xs : List Int) (y : Int) (B : Nat) (hs : a.eval s = v) (hown : IO w base v xs) (hx : a.eval x = .slice (some ⟨B, 0, none⟩) 1 1)
    (hB : w.heap[B]? = some (.cells #[.int .i64 y] 3 (0, 0))) (hlen : xs.length ≤ 1000000000000) (hbase : base ≤ w.heap.size)
    (h : ∀ g cap w', IO w' base (.slice (some ⟨g, 0, none⟩) (xs.length + 1) cap) (xs ++ [y]) → w.grownBy w' v.ownBlock → (v.ownBlock = some g ∨ g = w.heap.size) → wpListIn F n Try.prog ops Q rest (a.put o.dst (.slice (some ⟨g, 0, none⟩) (xs.length + 1) cap)) w') :
    wpListIn F n Try.prog ops Q (o :: rest) a w := by
  obtain ⟨i0, hi, hz0, hz1, hz2⟩ := info_parts infoI
  refine wpListIn_plain hgd fun K hK' => ?_
  obtain ⟨g, cap, w', hrun, r1, r2, r3, -⟩ := run_append_lies (P := Try.prog) w 25 o.type base 3 i0 _ 1 8 Try.underlying25 hi hz0 hz1 hz2 rfl (by decide) v xs.length _ hown
    ⟨B, 0, none⟩ 1 1 [.int .i64 y] rfl (World.news_of_block (cs := #[.int .i64 y]) hB) (by simp [Value.oneCell']) (by decide) (by simp only [maxLen]; omega) (by omega) hbase _ rfl
  unfold Oper.wpIn
  refine ⟨?_, ?_⟩
  · simp [Oper.about, ho, resolve, Target.leads, Sem.run_pure]
  · rw [Oper.semAt_plain F _ _ (by rw [ho]; intro c hc'; cases hc')]
    simp [execOp, ho, resolve, invoke, builtin, hs, hx, hrun, Result.andThen]
    exact hK' _ _ (h g cap w' (by simpa [IO] using r1) r2 r3)

/-- the block that the slice in a box lies in -/
def FrO (Bo : Nat) (W : World) (b : Nat) : Prop := ∃ v, W.cell? ⟨Bo, 0, none⟩ = some v ∧ v.ownBlock = some b
theorem FrO.congr {Bo : Nat} {W W' : World} {n b : Nat} (hb : Below n W W') (h : Bo < n) (hf : FrO Bo W' b) : FrO Bo W b := by
  obtain ⟨v, h1, h2⟩ := hf
  exact ⟨v, (hb.cell (p := ⟨Bo, 0, none⟩) h).symm.trans h1, h2⟩
/-- what a round's body keeps: all cells but one box, and the block that its slice lies in -/
def Kq (B Bo : Nat) (W W' : World) : Prop := Below B W W' ∧ (∀ (b : Nat) (o : Obj), W.heap[b]? = some o → o.isCells = true → b ≠ Bo → ¬ FrO Bo W b → W'.heap[b]? = some o) ∧ (∀ b, FrO Bo W' b → FrO Bo W b ∨ W.heap.size ≤ b)
theorem Kq.refl (B Bo : Nat) (W : World) : Kq B Bo W W := ⟨Below.refl _ _, fun _ _ h _ _ _ => h, fun _ h => .inl h⟩
theorem Kq.t {B Bo : Nat} {A C D : World} (h : Kq B Bo A C) (k : Kq B Bo C D) : Kq B Bo A D := by
  obtain ⟨h1, h2, h3⟩ := h
  obtain ⟨k1, k2, k3⟩ := k
  refine ⟨h1.trans k1, fun b o ho hc hne hf => k2 b o (h2 b o ho hc hne hf) hc hne fun hf' => ?_, fun b hb => ?_⟩
  · have hlt := (Array.getElem?_eq_some_iff.1 ho).1
    rcases h3 b hf' with h4 | h4
    · exact hf h4
    · omega
  · rcases k3 b hb with h4 | h4
    · exact h3 b h4
    · have := h1.size; right; omega
theorem Kq.b {B Bo : Nat} {w : World} (hB : B ≤ w.heap.size) (hBo : Bo < w.heap.size) (W : World) (l : Nat) (o o' : Obj) (hl : w.heap.size ≤ l) (h : W.heap[l]? = some o) (h1 : o.isCells = false) (h2 : o.isWalk = false) : Kq B Bo W (W.putObj l o') := by
  refine ⟨belowK_b hB W l o o' hl h h1 h2, fun b p hp hc _ _ => ?_, fun b hb => .inl (FrO.congr (belowK_b (n₀ := Bo + 1) (w := w) (by omega) W l o o' hl h h1 h2) (by omega) hb)⟩
  refine ((grownBy_putObj' W l o').block b (Array.getElem?_eq_some_iff.1 hp).1 fun e => ?_).trans hp
  cases e
  rw [h] at hp; cases hp
  rw [h1] at hc; cases hc

theorem IO.kept {w w' : World} {base : Nat} {row : Option Nat} {v : Value} {xs : List Int} (h : IO w base v xs) (hg : w.grownBy w' row) (hr : ∀ r, v.ownBlock = some r → row ≠ some r) : IO w' base v xs := by
  refine ⟨h.1, ?_⟩
  have hl := owns_lt h
  rcases h.2 with h2 | ⟨g, cap, cur, rfl, hgb, hh, rest⟩
  · exact .inl h2
  · have := hl g (by simp [Value.ownBlock])
    exact .inr ⟨g, cap, cur, rfl, hgb, by rw [hg.block g (by omega) (fun e => hr g (by simp [Value.ownBlock]) e.symm)]; exact hh, rest⟩
theorem IO.blockKept {w w' : World} {base : Nat} {v : Value} {xs : List Int} (h : IO w base v xs) (hr : ∀ r o, v.ownBlock = some r → w.heap[r]? = some o → o.isCells = true → w'.heap[r]? = some o) : IO w' base v xs := by
  refine ⟨h.1, ?_⟩
  rcases h.2 with h2 | ⟨g, cap, cur, rfl, hgb, hh, rest⟩
  · exact .inl h2
  · exact .inr ⟨g, cap, cur, rfl, hgb, hr g _ (by simp [Value.ownBlock]) hh rfl, rest⟩
theorem IO.cellsObj {w : World} {base : Nat} {v : Value} {xs : List Int} (h : IO w base v xs) (r : Nat) (hr : v.ownBlock = some r) : ∃ o : Obj, w.heap[r]? = some o ∧ o.isCells = true := by
  rcases h.2 with ⟨rfl, _⟩ | ⟨g, cap, cur, rfl, hgb, hh, rest⟩
  · simp [Value.ownBlock] at hr
  · simp only [Value.ownBlock] at hr
    have e : g = r := by simpa using hr
    subst e
    exact ⟨_, hh, rfl⟩

def ruleF (r : Int) (f : Nat) : Prop := (r = 0 ∧ f = 78) ∨ (r = 1 ∧ f = 79) ∨ (r = 2 ∧ f = 80) ∨ (r = 3 ∧ f = 81)

set_option maxRecDepth 100000 in
set_option maxHeartbeats 4000000 in
theorem unitsBy1_in (n : Nat) (hn : 1 ≤ n) (r : Int) (f : Nat) (hf : ruleF r f) (l Bl Bp Bo B cap : Nat) (A : Option Addr) (L : List (Int × Int)) (hok : cOk L = true) (T : Nat) (hT : lastLeave L = T) (hcap : L.length ≤ cap)
    (J Jx : List Int → World → Prop) (W : World)
    (hY : ∀ pre x W1, J pre W1 → (pre.length < T ∧ x = ordW L r pre.length) → YieldAt Fence.wide (n - 1) Try.prog l #[.int .i64 x] W1 fun e W' =>
      (e = .returned (.bool true) ∧ J (pre ++ [x]) W' ∧ Kq B Bo W1 W') ∨ (e = .returned (.bool false) ∧ Jx (pre ++ [x]) W'))
    (hJ : AbidesW W.heap.size (FrO Bo) J) (hBl : W.heap[Bl]? = some (.cells #[.slice A L.length cap] 23 (0, 0))) (hBp : W.heap[Bp]? = some (.cells #[.func (.func f) #[] #[]] 76 (0, 0)))
    (hlo : Bl ≠ Bo) (hpo : Bp ≠ Bo) (hBo : Bo < W.heap.size) (hfr : ∀ b, ¬ FrO Bo W b) (hB : B ≤ W.heap.size) (hc : Cs W B A L) (h0 : J [] W) :
    CallsIn Fence.wide n Try.prog 71 #[.func (.yield l) #[] #[], .pointer (some ⟨Bl, 0, none⟩), .pointer (some ⟨Bp, 0, none⟩)] W fun e W' => (∃ v, e = .returned v) ∧
      ((∃ ys, ys = orderTo L r T ∧ J ys W') ∨ (∃ pre, True ∧ Jx pre W')) := by
  have hlen := cOk_len hok
  have hT2 : T ≤ 132 := by obtain ⟨T', e, h⟩ := lastLeave_nat hok; omega
  have hll : Bl < W.heap.size := (Array.getElem?_eq_some_iff.1 hBl).1
  have hpl : Bp < W.heap.size := (Array.getElem?_eq_some_iff.1 hBp).1
  have cl : W.cell? ⟨Bl, 0, none⟩ = some (.slice A L.length cap) := by simp [World.cell?, hBl]
  have HI := Lib.hid (fun t => ordL_inv hok r t)
  refine callsIn_of_wp Try.func71 rfl trivial ?_ rfl
  simp only [Try.ntmps71, List.size_toArray, List.length_cons, List.length_nil, Nat.reduceAdd, Nat.reduceSub, Array.replicate_succ, Array.replicate_zero, List.push_toArray, List.append_toArray, List.nil_append, List.cons_append]
  gi_wp2_with (refine ⟨trivial, ?_⟩; gi_at_call 72; refine (callsIn_wide.2 (c_needsOf L A cap W (hc.more hB) (by omega))).mono ?_; rintro e w1 ⟨v, rfl, hown1, hb1⟩)
  have hg1 : W.grownBy w1 none := grown_below hb1 (Nat.le_refl _)
  have hJ1 := hJ _ _ _ _ h0 hg1 (fun r e => by cases e)
  obtain ⟨G, g, rfl, hg0, -⟩ := hown1.formG
  rw [needs_len] at hown1 hg0 ⊢
  have hs1 := hb1.size
  have hfr1 : ∀ b, ¬ FrO Bo w1 b := fun b hb => hfr b (FrO.congr hb1 hBo hb)
  have hBl1 := (hb1.block Bl hll).trans hBl
  have hBp1 := (hb1.block Bp hpl).trans hBp
  have hbB1 : Below B W w1 := hb1.mono hB
  have HG := Lib.hid (fun b (e : (Value.slice G L.length g).ownBlock = some b) => owns_base hown1 b e)
  clear hb1 hg1 h0 hfr cl
  gi_loopw [5] (fun i wr => ∃ t : Nat, t ≤ T ∧ i = .int .i64 t ∧ J (orderTo L r t) wr ∧ IO wr W.heap.size (.slice G L.length g) (ordL L r t) ∧ Below B W wr ∧ W.heap.size ≤ wr.heap.size ∧
      wr.heap[Bl]? = some (.cells #[.slice A L.length cap] 23 (0, 0)) ∧ wr.heap[Bp]? = some (.cells #[.func (.func f) #[] #[]] 76 (0, 0)) ∧ Hid (∀ b, FrO Bo wr b → W.heap.size ≤ b ∧ (Value.slice G L.length g).ownBlock ≠ some b))
    (fun i _ => T - (intOf i).toNat)
  case atStart => exact ⟨0, by omega, rfl, hJ1, hown1, hbB1, hs1, hBl1, hBp1, fun b hb => absurd hb (hfr1 b)⟩
  case round =>
    obtain ⟨t, ht, rfl, hJs, hown, hbB, hsz, hl, hp, HF⟩ := hrel
    have hln := (HI.out t).len
    have KA := c_any (ordL L r t) G wr.heap.size g wr hown.isOf.2 (by omega)
    rw [left_any hok hT t, hln] at KA
    by_cases hlt : t < T
    · rw [decide_eq_true hlt] at KA
      have HA := Lib.hid KA
      clear KA
      have cl : wr.cell? ⟨Bl, 0, none⟩ = some (.slice A L.length cap) := by simp [World.cell?, hl]
      have cp : wr.cell? ⟨Bp, 0, none⟩ = some (.func (.func f) #[] #[]) := by simp [World.cell?, hp]
      have HS := Lib.hid (fun (w' : World) (hb : Below W.heap.size wr w') => show w'.cell? ⟨Bl, 0, none⟩ = some (.slice A L.length cap) ∧ w'.cell? ⟨Bp, 0, none⟩ = some (.func (.func f) #[] #[]) from ⟨(hb.cell (p := ⟨Bl, 0, none⟩) hll).trans cl, (hb.cell (p := ⟨Bp, 0, none⟩) hpl).trans cp⟩)
      have HC := Lib.hid (fun (w' : World) (hb : Below wr.heap.size wr w') => c_comeUpTo L A cap (t : Int) w' ((hc.below (hbB.trans (hb.mono (by omega)))).more (by have := hb.size; omega)) hcap (by omega))
      have HW := Lib.hid (fun (w' : World) (hb : Below wr.heap.size wr w') => show Calls Try.prog 75 #[.slice G L.length g, .int .i64 (cnt L t : Nat)] w' fun e w'' => ∃ v, e = .returned v ∧ DO w'' w'.heap.size v (cands (ordL L r t) (cnt L t)) ∧ Below w'.heap.size w' w'' from by
        have K := c_waiting (ordL L r t) G g (cnt L t) w' ((hown.isOf.2.below hb).more hb.size) (by rw [hln]; exact cnt_le L _) (by omega) (by omega)
        rw [hln] at K
        exact K)
      have HX := Lib.hid (fun (D : Option Addr) (d : Nat) (w' : World) (hD : Ds w' w'.heap.size D (cands (ordL L r t) (cnt L t))) => show Calls Try.prog 74 #[.func (.func f) #[] #[], .slice D (cands (ordL L r t) (cnt L t)).length d] w' fun e w'' => e = .returned (.int .i64 (ordW L r t)) ∧ Below w'.heap.size w' w'' from by
        have K := c_choose r f hf (cands (ordL L r t) (cnt L t)) D d w' hD (by have := cands_len (ordL L r t) (cnt L t); have := cnt_le L (t : Int); omega) (cands_small hok r t _ (cnt_le L _))
        rw [chosen_is hok (by rcases hf with h | h | h | h <;> simp [h.1]) t] at K
        exact K)
      gi_wp2_with (refine ⟨trivial, ?_⟩; gi_at_call 73; refine (callsIn_wide.2 HA.out).mono ?_; rintro e w' ⟨rfl, rfl⟩)
      refine wpIn_wide.2 ?_
      go_region_held3 (fun w' => w'.cell? ⟨Bl, 0, none⟩ = some (.slice A L.length cap) ∧ w'.cell? ⟨Bp, 0, none⟩ = some (.func (.func f) #[] #[]))
        (first
          | go_keep
          | exact HS.out _ (hx5.mono hsz)
          | exact HS.out _ (hx6.mono hsz)
          | exact HS.out _ (hx7.mono hsz))
        (first
          | (go_at_call 76; refine (HC.out _ (Below.refl _ wr).drew).mono ?_; rintro e w5 ⟨rfl, hb5⟩; have hx5 : Below wr.heap.size wr w5 := (Below.refl _ wr).drew.trans hb5)
          | (go_at_call 75; refine (HW.out _ hx5).mono ?_; rintro e w6 ⟨v6, rfl, o6, hb6⟩; obtain ⟨D6, d6, rfl, hD6⟩ := o6.form; have hx6 : Below wr.heap.size wr w6 := hx5.trans (hb6.mono hx5.size))
          | (go_at_call 74; refine (HX.out _ _ _ hD6).mono ?_; rintro e w7 ⟨rfl, hb7⟩; have hx7 : Below wr.heap.size wr w7 := hx6.trans (hb7.mono hx6.size)))
      have hown7 := hown.below hx7 (Nat.le_refl _)
      have hz7 := hx7.size
      have hJ7 := hJ _ _ _ none hJs (grown_below hx7 (Nat.le_refl _)) (fun r e => by cases e)
      have hl7 := (hx7.block Bl (by omega)).trans hl
      have hp7 := (hx7.block Bp (by omega)).trans hp
      have HF7 : Hid (∀ b, FrO Bo w7 b → W.heap.size ≤ b ∧ (Value.slice G L.length g).ownBlock ≠ some b) := fun b hb => HF.out b (FrO.congr hx7 (by omega) hb)
      have hbB7 := hbB.trans (hx7.mono (by omega))
      have HE := Lib.hid (show ordL L r (t + 1) = stepL (ordL L r t) (ordW L r t) from rfl)
      have HO := Lib.hid (orderTo_succ L r t)
      have HSV := Lib.hid (c_serve (ordL L r t) (ordW L r t) W.heap.size (.slice G L.length g) w7 hown7 (by
        rcases (HI.out t).picks r with ⟨e, _⟩ | ⟨p, e, hpl2, hx, hz, _⟩
        · exact .inl e
        · refine .inr ?_
          have e2 : ordW L r t = p := e
          rw [e2]
          have rg := (HI.out t).rng p hpl2
          have bd := cOk_bd hok hpl2
          simp only [Int.toNat_natCast]
          omega) (by omega))
      have hcj := hown7.cellsObj
      clear hb5 hb6 hb7 hx5 hx6 hx7 hD6 o6 HX HW HC HS HA cl cp hown hbB hl hp hJs
      gi_wp2_with (refine ⟨trivial, ?_⟩; gi_at_call 77; refine (callsIn_wide.2 HSV.out).mono ?_; rintro e w8 ⟨⟨rv, rfl⟩, hown8, hg8⟩)
      have hz8 := hg8.size
      have hJ8 := hJ _ _ _ _ hJ7 hg8 (fun b e => by
        obtain ⟨o, ho, hco⟩ := hcj b e
        exact ⟨HG.out b e, o, ho, hco, fun hfb => (HF7.out b hfb).2 e⟩)
      have hne8 : ∀ k, k < W.heap.size → (Value.slice G L.length g).ownBlock ≠ some k := fun k hk e => by have := HG.out k e; omega
      have hl8 := (hg8.block Bl (by omega) (fun e => hne8 Bl hll e.symm)).trans hl7
      have hp8 := (hg8.block Bp (by omega) (fun e => hne8 Bp hpl e.symm)).trans hp7
      have hbW8 : Below W.heap.size w7 w8 := (Below.refl _ w7).grown hg8 (by omega) (fun k e => HG.out k e)
      have HF8 : Hid (∀ b, FrO Bo w8 b → W.heap.size ≤ b ∧ (Value.slice G L.length g).ownBlock ≠ some b) := fun b hb => HF7.out b (FrO.congr hbW8 hBo hb)
      have hbB8 := hbB7.trans (hbW8.mono hB)
      rw [← HE.out] at hown8
      have hol : (orderTo L r t).length = t := orderTo_len _ _ _
      obtain ⟨fn, tmps, assign, body, hy, hR⟩ := hY (orderTo L r t) (ordW L r t) w8 hJ8 (by rw [hol]; exact ⟨hlt, rfl⟩)
      clear hol hJ7 hl7 hp7 hbB7 hown7 hcj
      gi_wp2
      rw [hy, Oper.uponIn_round]
      refine ⟨fun _ => hn, hR.mono ?_⟩
      rintro e W3 (⟨rfl, hJ3, hk3⟩ | ⟨rfl, hJx3⟩)
      · obtain ⟨k1, k2, k3⟩ := hk3
        have hz3 := k1.size
        have hl3 := k2 Bl _ hl8 rfl hlo (fun h => by have := (HF8.out _ h).1; omega)
        have hp3 := k2 Bp _ hp8 rfl hpo (fun h => by have := (HF8.out _ h).1; omega)
        have hown3 := hown8.blockKept (w' := W3) (fun b o e ho hco => k2 b o ho hco (fun e2 => by have := HG.out b e; omega) (fun h => (HF8.out _ h).2 e))
        have HF3 : Hid (∀ b, FrO Bo W3 b → W.heap.size ≤ b ∧ (Value.slice G L.length g).ownBlock ≠ some b) := fun b hb => by
          rcases k3 b hb with h4 | h4
          · exact HF8.out b h4
          · exact ⟨by omega, fun e => by have := owns_lt hown8 b e; omega⟩
        rw [← HO.out] at hJ3
        have hbB3 := hbB8.trans k1
        clear k1 k2 k3 HF8 HF7 HF HG
        gi_wp2
        go_roundw
        case rel => exact ⟨t + 1, by omega, by go_num, hJ3, hown3, hbB3, by omega, hl3, hp3, HF3⟩
        case measure => simp [intOf]; omega
      · gi_wp2
        refine bodyPost_ret (results_none rfl _ _ _) rfl ?_
        exact ⟨⟨_, rfl⟩, .inr ⟨_, trivial, hJx3⟩⟩
    · rw [decide_eq_false hlt] at KA
      have HA := Lib.hid KA
      clear KA
      obtain rfl : t = T := by omega
      gi_wp2_with (refine ⟨trivial, ?_⟩; gi_at_call 73; refine (callsIn_wide.2 HA.out).mono ?_; rintro e w' ⟨rfl, rfl⟩)
      go_end0
      exact ⟨⟨_, rfl⟩, .inl ⟨_, rfl, hJs⟩⟩

theorem unitsBy_in (n : Nat) (A : Option Addr) (len cap : Nat) (f : Nat) (w : World) :
    CallsIn Fence.wide n Try.prog 64 #[.slice A len cap, .func (.func f) #[] #[]] w fun e w' => e = .returned (.func (.func 71) #[] #[.pointer (some ⟨w.heap.size, 0, none⟩), .pointer (some ⟨w.heap.size + 1, 0, none⟩)]) ∧ w' = (w.alloc (.cells #[.slice A len cap] 23)).alloc (.cells #[.func (.func f) #[] #[]] 76) := by
  refine callsIn_of_wp Try.func64 rfl trivial ?_ rfl
  simp only [Try.ntmps64, List.size_toArray, List.length_cons, List.length_nil, Nat.reduceAdd, Nat.reduceSub, Array.replicate_succ, Array.replicate_zero, List.push_toArray, List.append_toArray, List.nil_append, List.cons_append]
  gi_wp2
  go_ret
  exact ⟨rfl, rfl⟩

theorem c_ruleTable (w : World) : Calls Try.prog 65 #[] w fun e w' => e = .returned (.agg #[.func (.func 78) #[] #[], .func (.func 79) #[] #[], .func (.func 80) #[] #[], .func (.func 81) #[] #[]]) ∧ Below w.heap.size w w' := by
  go_enter Try.func65, Try.ntmps65
  go_wp2_with fail
  refine bodyPost_ret (v := .agg #[.func (.func 78) #[] #[], .func (.func 79) #[] #[], .func (.func 80) #[] #[], .func (.func 81) #[] #[]]) (by simp [results, Try.f65, go_sem]) rfl ?_
  exact ⟨rfl, by (repeat (first | exact rfl | exact Below.refl _ _ | (with_reducible refine Below.drew ?_) | (with_reducible refine Below.drewN ?_ _) | (with_reducible refine Below.alloc ?_ ?_ _) | (with_reducible refine Below.setCell ?_ ?_ _) | (show _ ≤ _; focus (first | omega | (simp; done) | (simp; omega)))))⟩

theorem unitsBy_nx (n : Nat) (hn : 1 ≤ n) (r : Int) (f : Nat) (hf : ruleF r f) (Bl Bp Bo B cap : Nat) (A : Option Addr) (L : List (Int × Int)) (hok : cOk L = true) (T : Nat) (hT : lastLeave L = T) (hcap : L.length ≤ cap) (w : World)
    (hBl : w.heap[Bl]? = some (.cells #[.slice A L.length cap] 23 (0, 0))) (hBp : w.heap[Bp]? = some (.cells #[.func (.func f) #[] #[]] 76 (0, 0)))
    (hlo : Bl ≠ Bo) (hpo : Bp ≠ Bo) (hBo : Bo < w.heap.size) (hfr : ∀ b, ¬ FrO Bo w b) (hB : B ≤ w.heap.size) (hc : Cs w B A L) :
    SeqNx (FrO Bo) Fence.wide n Try.prog 71 #[.pointer (some ⟨Bl, 0, none⟩), .pointer (some ⟨Bp, 0, none⟩)] (fun x : Int => #[Value.int .i64 x]) (Kq B Bo) (fun pre x => pre.length < T ∧ x = ordW L r pre.length) (fun ys => ys = orderTo L r T) (fun _ => True) w := fun l J Jx W hW hJ hY h0 => by
  have h1 : Bl < w.heap.size := (Array.getElem?_eq_some_iff.1 hBl).1
  have h2 : Bp < w.heap.size := (Array.getElem?_eq_some_iff.1 hBp).1
  have hs := hW.size
  exact unitsBy1_in n hn r f hf l Bl Bp Bo B cap A L hok T hT hcap J Jx W hY hJ ((hW.block Bl h1).trans hBl) ((hW.block Bp h2).trans hBp) hlo hpo (by omega) (fun b hb => hfr b (FrO.congr hW hBo hb)) (by omega) (hc.below (hW.mono hB)) h0

set_option maxRecDepth 100000 in
set_option maxHeartbeats 4000000 in
theorem c_iOrderBy (L : List (Int × Int)) (A : Option Addr) (c : Nat) (r : Int) (w : World) (hA : Cs w w.heap.size A L) (hcap : L.length ≤ c) (hn : L.length ≤ 140737488351232) :
    Calls Try.prog 39 #[.slice A L.length c, .int .i64 r] w fun e w' => ∃ v, e = .returned v ∧ IO w' w.heap.size v (orderR L r) ∧ Below w.heap.size w w' := by
  have HC := Lib.hid (c_iCustomersOk L A c w hA hn)
  have HK := Lib.hid (fun W => c_within r 0 3 W)
  by_cases hp : byOk L r = true
  · have HV := Lib.hid (orderR_yes hp)
    obtain ⟨hok, hr⟩ : cOk L = true ∧ decide (0 ≤ r ∧ r ≤ 3) = true := by simpa [byOk] using hp
    obtain ⟨T, hT, hT2⟩ := lastLeave_nat hok
    have HT := Lib.hid hT
    have HR := Lib.hid hr
    have H := Lib.hid hok
    have hlen := cOk_len hok
    have hr4 : r = 0 ∨ r = 1 ∨ r = 2 ∨ r = 3 := by have := of_decide_eq_true hr; omega
    obtain ⟨f, hf, hix⟩ : ∃ f : Nat, ruleF r f ∧ ∀ w : World, (Instr.index 77 (.agg #[.func (.func 78) #[] #[], .func (.func 79) #[] #[], .func (.func 80) #[] #[], .func (.func 81) #[] #[]]) (.int .i64 r)).run Try.prog w = .ok (.func (.func f) #[] #[]) w := by
      rcases hr4 with rfl | rfl | rfl | rfl
      · exact ⟨_, .inl ⟨rfl, rfl⟩, fun _ => by kernel_rfl⟩
      · exact ⟨_, .inr (.inl ⟨rfl, rfl⟩), fun _ => by kernel_rfl⟩
      · exact ⟨_, .inr (.inr (.inl ⟨rfl, rfl⟩)), fun _ => by kernel_rfl⟩
      · exact ⟨_, .inr (.inr (.inr ⟨rfl, rfl⟩)), fun _ => by kernel_rfl⟩
    have HF := Lib.hid hf
    clear hp hok hr hT hr4 hf
    refine (callsIn_wide (n := 6)).1 ?_
    refine callsIn_of_wp_marks Try.func39 rfl trivial ?_ rfl
    simp only [Try.ntmps39, List.size_toArray, List.length_cons, List.length_nil, Nat.reduceAdd, Nat.reduceSub, Array.replicate_succ, Array.replicate_zero, List.push_toArray, List.append_toArray, List.nil_append, List.cons_append]
    gi_wp2_with (refine ⟨trivial, ?_⟩; gi_at_call 15; refine (callsIn_wide.2 HC.out).mono ?_; rw [H.out]; rintro e w1 ⟨rfl, hb1⟩)
    have HKt : Hid (∀ W : World, Calls Try.prog 50 #[.int .i64 r, .int .i64 0, .int .i64 3] W fun e w' => e = .returned (.bool true) ∧ W = w') := fun W => by have K := HK.out W; rw [HR.out] at K; exact K
    gi_wp2_with (refine ⟨trivial, ?_⟩; gi_at_call 50; refine (callsIn_wide.2 (HKt.out _)).mono ?_; rintro e w' ⟨rfl, rfl⟩)
    have bO := Boxed.new w1 25 (.slice none 0 0)
    have hs1 := hb1.size
    gi_wp2_with (refine ⟨trivial, ?_⟩; gi_at_call 65; refine (callsIn_wide.2 (c_ruleTable _)).mono ?_; rintro e w2 ⟨rfl, hb2⟩)
    have hs2 := hb2.size
    simp only [World.size_alloc] at hs2
    have bO2 : Boxed w2 w1.heap.size 25 (.slice none 0 0) := (hb2.block _ (by simp)).trans bO
    have hbx : Below w.heap.size w w2 := (hb1.alloc hs1 _).trans (hb2.mono (by simp; omega))
    clear bO hb2 hb1
    gi_wp2_with (refine ⟨trivial, ?_⟩; gi_at_call 64; refine (unitsBy_in _ _ _ _ _ _).mono ?_; rintro e w' ⟨rfl, rfl⟩)
    obtain ⟨W0, hW0⟩ : ∃ W0, (w2.alloc (.cells #[.slice A L.length c] 23)).alloc (.cells #[.func (.func f) #[] #[]] 76) = W0 := ⟨_, rfl⟩
    have bO0 := (bO2.alloc (.cells #[.slice A L.length c] 23)).alloc (.cells #[.func (.func f) #[] #[]] 76)
    have bL0 : ((w2.alloc (.cells #[.slice A L.length c] 23)).alloc (.cells #[.func (.func f) #[] #[]] 76)).heap[w2.heap.size]? = some (.cells #[.slice A L.length c] 23 (0, 0)) := (Below.heap_alloc _ _ _ (by simp)).trans (heap_alloc_new _ _)
    have bP0 : ((w2.alloc (.cells #[.slice A L.length c] 23)).alloc (.cells #[.func (.func f) #[] #[]] 76)).heap[w2.heap.size + 1]? = some (.cells #[.func (.func f) #[] #[]] 76 (0, 0)) := heap_new2' _ _ _
    have hB0 : Below w.heap.size w ((w2.alloc (.cells #[.slice A L.length c] 23)).alloc (.cells #[.func (.func f) #[] #[]] 76)) := (hbx.alloc (by omega) _).alloc (by simp; omega) _
    have hsz : ((w2.alloc (.cells #[.slice A L.length c] 23)).alloc (.cells #[.func (.func f) #[] #[]] 76)).heap.size = w2.heap.size + 2 := by simp
    rw [hW0] at bO0 bL0 bP0 hB0 hsz ⊢
    have hfr0 : ∀ b, ¬ FrO w1.heap.size W0 b := by
      rintro b ⟨v, h1, h2⟩
      rw [bO0.cell] at h1
      cases h1
      simp [Value.ownBlock] at h2
    clear hW0 bO2 hbx
    refine rangeFunc_nx rfl (by omega) (gf := 71) (lb := #[.pointer (some ⟨w2.heap.size, 0, none⟩), .pointer (some ⟨w2.heap.size + 1, 0, none⟩)]) rfl trivial (enters_of Try.func71 (by kernel_rfl) rfl)
      (unitsBy_nx _ (by omega) r f HF.out w2.heap.size (w2.heap.size + 1) w1.heap.size w.heap.size c A L H.out T HT.out hcap W0 bL0 bP0 (by omega) (by omega) (by omega) hfr0 (by omega) (hA.below hB0)) Kq.t (Kq.b (by omega) (by omega)) (Below.refl _ _) (fun _ => rfl)
      (fun (pre : List Int) W => (∃ v, Boxed W w1.heap.size 25 v ∧ IO W (w1.heap.size + 1) v pre) ∧ (Below w.heap.size w W ∧ W0.heap.size ≤ W.heap.size))
      (fun _ _ _ => False) ?own (fun _ _ _ _ _ h _ _ => h) ⟨⟨_, bO0, IO.nil _ _⟩, hB0, Nat.le_refl _⟩
      (fun x => { tmps := #[.slice A L.length c, .int .i64 r, undef, undef, .slice none 0 0, .pointer (some ⟨w1.heap.size, 0, none⟩), .int .i64 x, .slice A L.length c, .bool true, .bool false, .bool false, .int .i64 r, .bool true, .bool false, .bool false, .slice A L.length c, .agg #[.func (.func 78) #[] #[], .func (.func 79) #[] #[], .func (.func 80) #[] #[], .func (.func 81) #[] #[]], .int .i64 r, .func (.func f) #[] #[], .func (.func 71) #[] #[.pointer (some ⟨w2.heap.size, 0, none⟩), .pointer (some ⟨w2.heap.size + 1, 0, none⟩)], .int .i64 x, undef, undef, undef, undef, undef], defers := [] })
      ?assign ?body ?done ?stop
    case own =>
      rintro pre W W' row ⟨⟨v, bO, hown⟩, hB1, hZ⟩ hg hrow
      refine ⟨⟨v, bO.kept hg (fun e => by have := (hrow _ e.symm).1; omega), hown.kept hg (fun b hv e => ?_)⟩, hB1.grown hg (by omega) (fun k e => by have := (hrow k e).1; omega), by have := hg.size; omega⟩
      obtain ⟨_, o, ho, hno⟩ := hrow b e
      obtain ⟨o2, ho2, hc2⟩ := hown.cellsObj b hv
      rw [ho] at ho2; cases ho2
      exact hno hc2 ⟨v, bO.cell, hv⟩
    case assign =>
      rintro l x W K hK
      gi_wp2
      exact hK
    case body =>
      rintro l pre x W ⟨⟨v, bO, hown⟩, hB1, hZ⟩ ⟨hpl, hx⟩
      have cO := bO.cell
      have fO := bO.frozen
      have hob := owns_base hown
      obtain ⟨O5, c5, rfl, -, -, -⟩ := hown.form
      have q5 : pre.length ≤ 1000000000000 := by omega
      have q6 : w1.heap.size + 1 ≤ (W.alloc (.cells #[.int .i64 x] 3)).heap.size := by simp; omega
      have bOa := bO.alloc (.cells #[.int .i64 x] 3)
      clear hx
      gi_wp2_with (refine appIn_I ?_ (.tmp 21) (.tmp 23) ?_ (w1.heap.size + 1) (.slice O5 pre.length c5) pre x W.heap.size ?_ ?_ ?_ ?_ ?_ ?_ ?_; rfl; rfl; rfl; exact (hown.alloc _); rfl; exact (heap_alloc_new _ _); exact q5; exact q6; intro g7 cap7 w7 hown7 hgr7 hor7; have bO7 := bOa.kept hgr7 (fun e => by have := hob _ e.symm; omega); have cO7 := bO7.cell; have fO7 := bO7.frozen)
      have hza := hgr7.size
      simp only [World.size_alloc] at hza
      have hbW : Below w.heap.size W (w7.setCell ⟨w1.heap.size, 0, none⟩ (.slice (some ⟨g7, 0, none⟩) (pre.length + 1) cap7)) := (((Below.refl _ W).alloc (by omega) _).grown hgr7 (by simp; omega) (fun k e => by have := hob k e; omega)).setCell (p := ⟨w1.heap.size, 0, none⟩) (by simp; omega) _
      have hzs : (w7.setCell ⟨w1.heap.size, 0, none⟩ (.slice (some ⟨g7, 0, none⟩) (pre.length + 1) cap7)).heap.size = w7.heap.size := by simp [World.setCell]
      refine ⟨(((KeepsOthers.of_grownBy (World.grownBy_alloc W _ none) (fun j o e ho => by cases e)).trans (KeepsOthers.of_grownBy hgr7 (fun j o e ho => by
        obtain ⟨o2, ho2, hc2⟩ := (hown.alloc (.cells #[.int .i64 x] 3)).cellsObj j e
        rw [ho] at ho2; cases ho2; exact hc2))).trans (KeepsOthers.setCell _ _ _)).from _, ⟨hbW, ?_, ?_⟩, ⟨_, bO7.set _, ?_⟩, hB1.trans hbW, by omega⟩
      · intro b o ho hco hne hfb
        have hlt := (Array.getElem?_eq_some_iff.1 ho).1
        refine (Below.heap_setCell _ _ _ _ hne).trans ((hgr7.block b (by simp; omega) fun e => hfb ⟨_, cO, e.symm⟩).trans ((Below.heap_alloc _ _ _ hlt).trans ho))
      · rintro b ⟨v2, h1, h2⟩
        rw [(bO7.set _).cell] at h1
        cases h1
        have e : g7 = b := by simpa [Value.ownBlock] using h2
        subst e
        rcases hor7 with h | h
        · exact .inl ⟨_, cO, h⟩
        · right; rw [h]; simp
      · exact hown7.kept (grownBy_setCell' _ _ _) (fun b hv e => by have := owns_base hown7 b hv; cases e; omega)
    case done =>
      rintro D ys W hD hys ⟨⟨v, bO, hown⟩, hB1, hZ⟩ hK
      have cO := bO.cell
      rw [hys] at hown
      have hco := hown.cellsObj
      obtain ⟨O5, c5, rfl, -, -, -⟩ := hown.form
      gi_wp2
      refine ⟨by simp, .inl ⟨_, _, rfl, run_takeDeferred hK, ?_⟩⟩
      refine ⟨_, results_tmp rfl _ _ _, _, rfl, ?_, hB1.trans (belowK_b (w := w) (Nat.le_refl _) W D _ _ (by omega) hK rfl rfl)⟩
      rw [HV.out, HT.out, show ((T : Int)).toNat = T by simp]
      exact (hown.mono (by omega)).kept (grownBy_putObj' W D _) (fun b hv e => by
        cases e
        obtain ⟨o, ho, hc⟩ := hco _ hv
        rw [hK] at ho; cases ho; cases hc)
    case stop =>
      rintro D cd pre W _ _ h _
      exact h.elim
  · have hno : byOk L r = false := by simpa using hp
    have HV := Lib.hid (orderR_no hno)
    by_cases h : cOk L = true
    · have hr : decide (0 ≤ r ∧ r ≤ 3) = false := by simpa [byOk, h] using hno
      have H := Lib.hid h
      have HKt : Hid (∀ W : World, Calls Try.prog 50 #[.int .i64 r, .int .i64 0, .int .i64 3] W fun e w' => e = .returned (.bool false) ∧ W = w') := fun W => by have K := HK.out W; rw [hr] at K; exact K
      clear hp hno hr h
      go_enter Try.func39, Try.ntmps39
      go_wp2_with fail
      refine HC.out.mono ?_
      rintro e w1 ⟨rfl, hb1⟩
      rw [H.out]
      go_wp2_with fail
      refine (HKt.out _).mono ?_
      rintro e w' ⟨rfl, rfl⟩
      go_wp2_with fail
      go_ret
      exact ⟨_, rfl, by rw [HV.out]; exact IO.nil _ _, hb1⟩
    · have hno2 : cOk L = false := by simpa using h
      have H := Lib.hid hno2
      clear hp hno h hno2
      go_enter Try.func39, Try.ntmps39
      go_wp2_with fail
      refine HC.out.mono ?_
      rintro e w1 ⟨rfl, hb1⟩
      rw [H.out]
      go_wp2_with fail
      go_ret
      exact ⟨_, rfl, by rw [HV.out]; exact IO.nil _ _, hb1⟩

end Go.Proofs.Ytmimcgjobgfgfaa

