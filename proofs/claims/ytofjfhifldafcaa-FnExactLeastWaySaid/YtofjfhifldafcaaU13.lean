/- Chapter 7's functions of the program, third part: all orders by exchanges in one row (a range over a recursive function), LeastWeighted. -/
import Derived.Test.YtofjfhifldafcaaU12
import Derived.Test.YtofjfhifldafcaaQ
import Derived.RangeFuncBound
import Derived.RangeFuncCalls
import Derived.RangeFuncLeaves
import Derived.RangeFuncBox
import Derived.Shelf.Abstract
import Derived.Shelf.RegionOpen
import Derived.OwnWalkIn
import Derived.TacticsInMore
import Derived.LoopNIn
import Derived.LoopIn
namespace Go.Proofs.Ytofjfhifldafcaa
set_option linter.unusedVariables false
open Go.RowKit Go.Shelf
attribute [local go_sem] Oper.semAt_some

/-- the same, where what comes is told by the world in which it comes -/
def SeqNw {α : Type} (Fr : World → Nat → Prop) (F : Fence) (n : Nat) (P : Program) (g : Nat) (lb : Array Value) (encs : α → Array Value) (Kp : World → World → Prop) (Nx : List α → α → World → Prop) (S Sp : List α → Prop) (w : World) : Prop :=
  ∀ (l : Nat) (J Jx : List α → World → Prop) (W : World), Below w.heap.size w W → AbidesW W.heap.size Fr J →
    (∀ pre x W1, J pre W1 → Nx pre x W1 → YieldAt F (n - 1) P l (encs x) W1 fun e W' => (e = .returned (.bool true) ∧ J (pre ++ [x]) W' ∧ Kp W1 W') ∨ (e = .returned (.bool false) ∧ Jx (pre ++ [x]) W')) →
    J [] W →
    CallsIn F n P g (#[.func (.yield l) #[] #[]] ++ lb) W fun e W' => (∃ v, e = .returned v) ∧ ((∃ xs, S xs ∧ J xs W') ∨ (∃ pre, Sp pre ∧ Jx pre W'))

theorem rangeFunc_nw {F : Fence} {n : Nat} {P : Program} {Fr : World → Nat → Prop} {α : Type} {g : Operand} {ps : Array Tmp} {assign body : Code} {Q : Exit → Act → World → Prop} {a : Act} {w : World}
    (hro : F.round = none) (h1 : 1 ≤ n) {gf : Nat} {lb : Array Value} (hg : a.eval g = .func (.func gf) #[] lb) (hFg : F.fn gf) (eg : ∀ args w, (callFunc gf args).run P w = .ok (.enter gf args) w)
    {encs : α → Array Value} {Kp : World → World → Prop} {Nx : List α → α → World → Prop} {S Sp : List α → Prop} {w0 : World} (hseq : SeqNw Fr F (n - 1) P gf lb encs Kp Nx S Sp w0)
    (hKt : ∀ {A B C : World}, Kp A B → Kp B C → Kp A C) (hKb : ∀ (W : World) (l : Nat) (o o' : Obj), w.heap.size ≤ l → W.heap[l]? = some o → o.isCells = false → o.isWalk = false → Kp W (W.putObj l o')) (hNb : ∀ pre x (W : World) (l : Nat) (o o' : Obj), w.heap.size ≤ l → W.heap[l]? = some o → o.isCells = false → Nx pre x W → Nx pre x (W.putObj l o')) (hb0 : Below w0.heap.size w0 w) (hps : ∀ x, (encs x).size = ps.size)
    (I : List α → World → Prop) (Ix : Code → List α → World → Prop) (hI : OwnW w.heap.size Fr I) (hIx : ∀ c, OwnFrom w.heap.size (Ix c)) (h0 : I [] w) (a₁ : α → Act)
    (hassign : ∀ (l : Nat) (x : α) (W : World) (K : Act → World → Prop), K (a₁ x) W →
      assign.wpIn (F.inRound l) (n - 1 - 1) P (Exit.then K (fun _ _ _ => False)) { tmps := (ps.zip (encs x)).foldl (fun t (p, v) => t.setIfInBounds p v) a.tmps, defers := [] } W)
    (hbody : ∀ (l : Nat) (pre : List α) (x : α) (W : World), I pre W → Nx pre x W → body.wpIn (F.inRound l) (n - 1 - 1) P (ownPostG w.heap.size Kp I Ix (pre ++ [x]) W) (a₁ x) W)
    (hdone : ∀ (D : Nat) (xs : List α) (W : World), w.heap.size ≤ D → S xs → I xs W → W.heap[D]? = some (.deferred (some [])) → Q .normal { a with defers := { target := .collected D, args := #[] } :: a.defers } W)
    (hstop : ∀ (D : Nat) (c : Code) (pre : List α) (W : World), w.heap.size ≤ D → Sp pre → Ix c pre W → W.heap[D]? = some (.deferred (some [])) → c.wpIn F n P Q { a with defers := { target := .collected D, args := #[] } :: a.defers } W) :
    (Code.rangeFunc g ps assign body).wpIn F n P Q a w := by
  refine wpIn_rangeFunc fun fn hfn => ?_
  rw [hro]
  obtain ⟨rec, hrec⟩ : ∃ rec : LoopState → Option Code → Loop, rec = fun st pe => { state := st, pending := pe, fn, tmps := a.tmps, params := ps, assign, body, defers := w.heap.size } := ⟨_, rfl⟩
  have sD : w.heap.size < (w.alloc (.deferred (some []))).heap.size := by simp
  obtain ⟨W1, hW1⟩ : ∃ W1, (w.alloc (.deferred (some []))).alloc (.loop (rec .ready none)) = W1 := ⟨_, rfl⟩
  have hz1 : W1.heap.size = w.heap.size + 2 := by rw [← hW1]; simp
  have hL1 : W1.heap[w.heap.size + 1]? = some (.loop (rec .ready none)) := by
    have := World.alloc_heap_new (w.alloc (.deferred (some []))) (.loop (rec .ready none))
    rw [World.size_alloc, hW1] at this
    exact this
  have hD1 : W1.heap[w.heap.size]? = some (.deferred (some [])) := by
    rw [← hW1]; exact (Below.heap_alloc _ _ _ sD).trans (World.alloc_heap_new w _)
  have hI1 : I [] W1 := by rw [← hW1]; exact hI.new _ (hI.new _ h0)
  have hb1 : Below w0.heap.size w0 W1 := by
    rw [← hW1]; exact hb0.trans ((((Below.refl _ w).alloc (Nat.le_refl _) _).alloc (by simp) _).mono hb0.size)
  have kept : ∀ {A B : World} {row : Option Nat} {k : Nat} {o : Obj}, A.grownBy B row → (∀ r, row = some r → ∃ o : Obj, A.heap[r]? = some o ∧ o.isCells = true) → A.heap[k]? = some o → o.isCells = false → B.heap[k]? = some o := by
    intro A B row k o hg hr hk ho
    refine (hg.block k (Array.getElem?_eq_some_iff.1 hk).1 fun e => ?_).trans hk
    obtain ⟨o2, ho2, hc⟩ := hr k e.symm
    rw [hk] at ho2; cases ho2
    rw [ho] at hc; cases hc
  refine ⟨w.heap.size + 1, [{ target := .collected w.heap.size, args := #[] }], W1, { target := .fn (.func gf) lb, args := #[.func (.yield (w.heap.size + 1)) #[] #[]] }, W1, gf,
    #[.func (.yield (w.heap.size + 1)) #[] #[]] ++ lb, W1, ?_, ?_, ?_, ?_, fun _ => h1, ?_⟩
  · rw [← hW1, hrec]; exact run_enterLoop_outer _ _ _ _ _
  · simp only [resolve, hg]
    simp [go_sem]
  · intro f' hf'; simp [Target.leads] at hf'; subst hf'; exact hFg
  · simp [invoke, go_sem, eg]
  · refine (hseq (w.heap.size + 1) (fun pre W => I pre W ∧ W.heap[w.heap.size + 1]? = some (.loop (rec .ready none)) ∧ W.heap[w.heap.size]? = some (.deferred (some [])))
      (fun pre W => ∃ c, Ix c pre W ∧ W.heap[w.heap.size + 1]? = some (.loop (rec .done (some c))) ∧ W.heap[w.heap.size]? = some (.deferred (some []))) W1 hb1 ?ab ?round ⟨hI1, hL1, hD1⟩).mono ?behind
    case ab =>
      rintro s A B row ⟨h2, h3, h4⟩ hg' hr
      have hc : ∀ r, row = some r → ∃ o : Obj, A.heap[r]? = some o ∧ o.isCells = true := fun r e => by obtain ⟨_, o, ho, hc, _⟩ := hr r e; exact ⟨o, ho, hc⟩
      exact ⟨hI s A B row h2 hg' (fun r e => by obtain ⟨hB, o, ho, _, hf⟩ := hr r e; exact ⟨by omega, o, ho, fun _ => hf⟩), kept hg' hc h3 rfl, kept hg' hc h4 rfl⟩
    case round =>
      rintro pre x W ⟨hi, hl, hk⟩ hnx
      have hlt : w.heap.size + 1 < W.heap.size := (Array.getElem?_eq_some_iff.1 hl).1
      have hy := run_yield (P := P) (args := encs x) hl (by rw [hrec]; exact hps x)
      rw [hrec] at hy
      refine ⟨fn, _, assign, body, hy, roundIn_of_wpIn hfn (hassign _ x W _ ?_)⟩
      clear hy
      refine ⟨_, run_beginRound hl (by rw [hrec]), ?_⟩
      have hl2 : (W.putObj (w.heap.size + 1) (.loop { rec .ready none with state := .busy })).heap[w.heap.size + 1]? = some (.loop { rec .ready none with state := .busy }) := World.putObj_heap_same hlt
      have hk2 : (W.putObj (w.heap.size + 1) (.loop { rec .ready none with state := .busy })).heap[w.heap.size]? = some (.deferred (some [])) := (World.putObj_heap_other (by omega)).trans hk
      have hw2 : Kp W (W.putObj (w.heap.size + 1) (.loop { rec .ready none with state := .busy })) := hKb _ _ _ _ (by omega) hl rfl rfl
      refine wpIn_mono (hbody _ pre x _ (hI.put _ hi (by omega) hl rfl) (hNb _ _ _ _ _ _ (by omega) hl rfl hnx)) ?_
      have fin : ∀ (jump : Option Code) (W3 : World), KeepsFrom w.heap.size (W.putObj (w.heap.size + 1) (.loop { rec .ready none with state := .busy })) W3 →
          (Instr.endRound (w.heap.size + 1) jump).run P W3 = .ok (.bool jump.isNone) (W3.putObj (w.heap.size + 1) (.loop (rec (if jump.isNone then .ready else .done) jump))) ∧
          W3.heap[w.heap.size + 1]? = some (.loop { rec .ready none with state := .busy }) ∧
          (W3.putObj (w.heap.size + 1) (.loop (rec (if jump.isNone then .ready else .done) jump))).heap[w.heap.size + 1]? = some (.loop (rec (if jump.isNone then .ready else .done) jump)) ∧
          (W3.putObj (w.heap.size + 1) (.loop (rec (if jump.isNone then .ready else .done) jump))).heap[w.heap.size]? = some (.deferred (some [])) := fun jump W3 hk3 => by
        have hl3 := hk3.same _ _ (by omega) hl2 rfl
        have hr := run_endRound (P := P) jump hl3
        rw [hrec] at hr hl3 ⊢
        exact ⟨hr, hl3, World.putObj_heap_same (Array.getElem?_eq_some_iff.1 hl3).1, (World.putObj_heap_other (by omega)).trans (hk3.same _ _ (Nat.le_refl _) hk2 rfl)⟩
      rintro e a3 W3 hp
      cases e with
      | normal =>
        obtain ⟨hk3, hkp3, hi3⟩ := hp
        obtain ⟨hr, hl3, hl4, hk4⟩ := fin none W3 hk3
        exact ⟨_, _, hr, .inl ⟨rfl, ⟨hI.put _ hi3 (by omega) hl3 rfl, hl4, hk4⟩, hKt (hKt hw2 hkp3) (hKb _ _ _ _ (by omega) hl3 rfl rfl)⟩⟩
      | ret =>
        obtain ⟨hk3, hi3⟩ := hp
        obtain ⟨hr, hl3, hl4, hk4⟩ := fin (some .ret) W3 hk3
        exact ⟨_, _, hr, .inr ⟨rfl, .ret, (hIx _).putObj _ hi3 (by omega) hl3 rfl, hl4, hk4⟩⟩
      | exit id =>
        obtain ⟨hk3, hi3⟩ := hp
        obtain ⟨hr, hl3, hl4, hk4⟩ := fin (some (.exit id)) W3 hk3
        exact ⟨_, _, hr, .inr ⟨rfl, .exit id, (hIx _).putObj _ hi3 (by omega) hl3 rfl, hl4, hk4⟩⟩
      | goto t =>
        obtain ⟨hk3, hi3⟩ := hp
        obtain ⟨hr, hl3, hl4, hk4⟩ := fin (some (.goto t)) W3 hk3
        exact ⟨_, _, hr, .inr ⟨rfl, .goto t, (hIx _).putObj _ hi3 (by omega) hl3 rfl, hl4, hk4⟩⟩
      | panic ch => exact hp.elim
      | outgrown => exact hp.elim
    case behind =>
      rintro e W2 ⟨⟨v, rfl⟩, (⟨xs, hS, hi, hl, hk⟩ | ⟨pre, hSp, c, hi, hl, hk⟩)⟩
      · have hr := run_endLoop (P := P) hl (by rw [hrec]; simp)
        rw [hrec] at hr
        exact ⟨none, _, hr, hdone _ xs _ (Nat.le_refl _) hS (hI.put _ hi (by omega) hl rfl) ((World.putObj_heap_other (by omega)).trans hk)⟩
      · have hr := run_endLoop (P := P) hl (by rw [hrec]; simp)
        rw [hrec] at hr
        exact ⟨some c, _, hr, hstop _ c pre _ (Nat.le_refl _) hSp ((hIx c).putObj _ hi (by omega) hl rfl) ((World.putObj_heap_other (by omega)).trans hk)⟩

/-! all orders, by exchanges -/
def permsF : Nat → List Int → Nat → List (List Int)
  | 0, o, _ => [o]
  | m + 1, o, t => (List.range (m + 1)).flatMap fun d => permsF m (exL o t (t + d)) (t + 1)
theorem exL_exL {o : List Int} {a b : Nat} (ha : a < o.length) (hb : b < o.length) : exL (exL o a b) a b = o := by
  refine ext_Z (by rw [exL_len, exL_len]) (fun p hp => ?_)
  rw [exL_len, exL_len] at hp
  have la : a < (exL o a b).length := by rw [exL_len]; exact ha
  have lb : b < (exL o a b).length := by rw [exL_len]; exact hb
  rw [exL_Z la lb, exL_Z ha hb, exL_Z ha hb, exL_Z ha hb]
  by_cases e1 : b = p
  · subst e1
    rw [if_pos rfl]
    by_cases e2 : b = a
    · subst e2; rw [if_pos rfl]
    · rw [if_neg e2, if_pos rfl]
  · rw [if_neg e1]
    by_cases e2 : a = p
    · subst e2; rw [if_pos rfl, if_pos rfl]
    · rw [if_neg e2, if_neg e1, if_neg e2]
theorem each_ex {o : List Int} {n : Int} {a b : Nat} (h : eachV o n = true) (ha : a < o.length) (hb : b < o.length) : eachV (exL o a b) n = true := by
  simp only [eachV, Bool.and_eq_true, decide_eq_true_eq, exL_len, eachTo_iff] at h ⊢
  obtain ⟨h1, h2⟩ := h
  have inj : ∀ i j, i < o.length → j < o.length → i ≠ j → Z o i ≠ Z o j := by
    intro i j hi hj hne e
    rcases Nat.lt_or_gt_of_ne hne with h | h
    · exact (h1 j hj).2 i h e
    · exact (h1 i hi).2 j h e.symm
  refine ⟨fun i hi => ⟨?_, fun j hj => ?_⟩, h2⟩
  · rw [exL_Z ha hb]
    split
    · exact (h1 a ha).1
    · split
      · exact (h1 b hb).1
      · exact (h1 i hi).1
  · rw [exL_Z ha hb, exL_Z ha hb]
    by_cases e1 : b = j
    · rw [if_pos e1, if_neg (by omega)]
      split
      · exact inj _ _ ha hb (by omega)
      · exact inj _ _ ha hi (by omega)
    · rw [if_neg e1]
      by_cases e2 : a = j
      · rw [if_pos e2]
        split
        · exact inj _ _ hb ha (by omega)
        · rw [if_neg (by omega)]; exact inj _ _ hb hi (by omega)
      · rw [if_neg e2]
        split
        · exact inj _ _ (by omega) ha (by omega)
        · split
          · exact inj _ _ (by omega) hb (by omega)
          · exact inj _ _ (by omega) hi (by omega)
theorem perms_each {n : Nat} : ∀ m o t, o.length = n → t + m = n → eachV o n = true → ∀ p ∈ permsF m o t, eachV p n = true := by
  intro m
  induction m with
  | zero =>
    intro o t _ _ h p hp
    simp only [permsF, List.mem_singleton] at hp
    subst hp; exact h
  | succ m ih =>
    intro o t hl ht h p hp
    simp only [permsF, List.mem_flatMap, List.mem_range] at hp
    obtain ⟨d, hd, hp⟩ := hp
    exact ih _ _ (by rw [exL_len]; exact hl) (by omega) (each_ex h (by omega) (by omega)) p hp
theorem perms_all {n : Nat} : ∀ m o t, o.length = n → t + m = n → eachV o n = true → ∀ p, eachV p n = true → (∀ i, i < t → Z p i = Z o i) → p ∈ permsF m o t := by
  intro m
  induction m with
  | zero =>
    intro o t hl ht h p hp hag
    have hpl := (each_iff.1 hp).2.1
    simp only [permsF, List.mem_singleton]
    exact ext_Z (by omega) (fun k hk => hag k (by omega))
  | succ m ih =>
    intro o t hl ht h p hp hag
    have hpl := (each_iff.1 hp).2.1
    have hmem : Z p t ∈ o := (each_two hp h).mem_iff.1 (by rw [Z_get (by omega)]; exact List.getElem_mem _)
    obtain ⟨w, hw, e⟩ := List.getElem_of_mem hmem
    have ew : Z o w = Z p t := by rw [Z_get hw]; exact e
    have hwt : t ≤ w := by
      apply Classical.byContradiction
      intro hlt
      have h1 := hag w (by omega)
      have hp2 := hp
      simp only [eachV, Bool.and_eq_true, eachTo_iff] at hp2
      exact (hp2.1 t (by omega)).2 w (by omega) (h1.trans ew)
    simp only [permsF, List.mem_flatMap, List.mem_range]
    refine ⟨w - t, by omega, ?_⟩
    rw [show t + (w - t) = w by omega]
    refine ih _ _ (by rw [exL_len]; exact hl) (by omega) (each_ex h (by omega) (by omega)) p hp (fun i hi => ?_)
    rw [exL_Z (by omega) (by omega)]
    by_cases e1 : i = t
    · subst e1
      by_cases e2 : w = i
      · rw [if_pos e2, ← ew, e2]
      · rw [if_neg e2, if_pos rfl, ew]
    · rw [if_neg (by omega), if_neg (by omega)]; exact hag i (by omega)

/-! the least of those that have come -/
def minW (L : List (Int × Int)) : Int → List (List Int) → Int
  | s, [] => s
  | s, p :: q => minW L (min s (wsumV L p)) q
theorem minW_snoc (L : List (Int × Int)) (p : List Int) : ∀ (q : List (List Int)) (s : Int), minW L s (q ++ [p]) = min (minW L s q) (wsumV L p) := by
  intro q
  induction q with
  | nil => intro s; rfl
  | cons a q ih => intro s; exact ih _
theorem minW_spec (L : List (Int × Int)) : ∀ (q : List (List Int)) (s : Int), (minW L s q ≤ s ∧ ∀ p ∈ q, minW L s q ≤ wsumV L p) ∧ (minW L s q = s ∨ ∃ p ∈ q, minW L s q = wsumV L p) := by
  intro q
  induction q with
  | nil => intro s; exact ⟨⟨Int.le_refl _, fun p hp => by cases hp⟩, .inl rfl⟩
  | cons a q ih =>
    intro s
    obtain ⟨⟨h1, h2⟩, h3⟩ := ih (min s (wsumV L a))
    have e : minW L s (a :: q) = minW L (min s (wsumV L a)) q := rfl
    rw [e]
    refine ⟨⟨by omega, fun p hp => ?_⟩, ?_⟩
    · rcases List.mem_cons.1 hp with rfl | hp
      · omega
      · exact h2 p hp
    · rcases h3 with h3 | ⟨p, hp, h3⟩
      · by_cases hs : s ≤ wsumV L a
        · left; omega
        · right; exact ⟨a, by simp, by omega⟩
      · right; exact ⟨p, by simp [hp], h3⟩
theorem each_upto {n : Nat} (h1 : 1 ≤ n) (h6 : n ≤ 6) : eachV (upto n) n = true := by
  refine each_iff.2 ⟨by omega, by rw [upto_len], fun v hv => by have := mem_upto.1 hv; omega, ?_⟩
  refine List.pairwise_iff_getElem.2 (fun i j hi hj hij => ?_)
  simp only [upto, List.getElem_map, List.getElem_range]; omega
theorem minW_least {L : List (Int × Int)} (ht : tOk L = true) : minW L (wsumV L (upto L.length)) (permsF L.length (upto L.length) 0) = leastW L := by
  have hl6 := (tOk_parts ht).2
  have he := each_upto hl6.1 hl6.2
  obtain ⟨⟨h1, h2⟩, h3⟩ := minW_spec L (permsF L.length (upto L.length) 0) (wsumV L (upto L.length))
  have hr := h2 _ (perms_all L.length (upto L.length) 0 (upto_len _) (by omega) he _ (byR_each ht) (fun i hi => by omega))
  rw [← leastW_ratio ht] at hr
  have hge : leastW L ≤ minW L (wsumV L (upto L.length)) (permsF L.length (upto L.length) 0) := by
    rcases h3 with h3 | ⟨p, hp, h3⟩
    · rw [h3]; exact leastW_le ht he
    · rw [h3]; exact leastW_le ht (perms_each L.length (upto L.length) 0 (upto_len _) (by omega) he p hp)
  omega
/-! the iterator -/
theorem room_any {F : Fence} (hd : F.depth = none) (k : Nat) : F.room k := fun d h => by rw [hd] at h; cases h
theorem yield_any {F : Fence} (hd : F.depth = none) {m : Nat} (m' : Nat) {P : Program} {l : Nat} {args : Array Value} {W : World} {R : Ending → World → Prop} (h : YieldAt F m P l args W R) : YieldAt F m' P l args W R := by
  obtain ⟨fn, tmps, assign, body, hy, hR⟩ := h
  exact ⟨fn, tmps, assign, body, hy, ⟨hR.1, fun c cs _ => hR.2 c cs (room_any hd _)⟩⟩

/-- what a round's body keeps: all cells but those of one block -/
def Kb (Bb : Nat) (W W' : World) : Prop := W.heap.size ≤ W'.heap.size ∧ ∀ (b : Nat) (o : Obj), W.heap[b]? = some o → o.isCells = true → b ≠ Bb → W'.heap[b]? = some o
theorem Kb.refl (Bb : Nat) (W : World) : Kb Bb W W := ⟨Nat.le_refl _, fun _ _ h _ _ => h⟩
theorem Kb.t {Bb : Nat} {A C D : World} (h : Kb Bb A C) (k : Kb Bb C D) : Kb Bb A D := ⟨Nat.le_trans h.1 k.1, fun b o ho hc hne => k.2 b o (h.2 b o ho hc hne) hc hne⟩
theorem Kb.b {Bb : Nat} {w : World} (W : World) (l : Nat) (o o' : Obj) (_hl : w.heap.size ≤ l) (h : W.heap[l]? = some o) (h1 : o.isCells = false) (_h2 : o.isWalk = false) : Kb Bb W (W.putObj l o') := by
  refine ⟨(grownBy_putObj' W l o').size, fun b p hp hc _ => ?_⟩
  refine ((grownBy_putObj' W l o').block b (Array.getElem?_eq_some_iff.1 hp).1 fun e => ?_).trans hp
  cases e
  rw [h] at hp; cases hp
  rw [h1] at hc; cases hc
theorem IO.keptW {w w' : World} {base Bb : Nat} {v : Value} {xs : List Int} (h : IO w base v xs) (hb : Bb < base) (hk : Kb Bb w w') : IO w' base v xs := by
  have hl := owns_base h
  refine ⟨h.1, ?_⟩
  rcases h.2 with h2 | ⟨g, cap, cur, rfl, hgb, hh, rest⟩
  · exact .inl h2
  · exact .inr ⟨g, cap, cur, rfl, hgb, hk.2 g _ hh rfl (by have := hl g (by simp [Value.ownBlock]); omega), rest⟩
theorem IO.objW {w : World} {base : Nat} {v : Value} {xs : List Int} (h : IO w base v xs) (r : Nat) (hr : v.ownBlock = some r) : ∃ o : Obj, w.heap[r]? = some o ∧ o.isCells = true := by
  rcases h.2 with ⟨rfl, _⟩ | ⟨g, cap, cur, rfl, hgb, hh, rest⟩
  · simp [Value.ownBlock] at hr
  · simp only [Value.ownBlock] at hr
    have e : g = r := by simpa using hr
    subst e
    exact ⟨_, hh, rfl⟩

def NoFr (_ : World) (_ : Nat) : Prop := False
/-- what comes: a row's place and room, and what it holds -/
abbrev RowAt := Nat × Nat × List Int
def encR (x : RowAt) : Array Value := #[.slice (some ⟨x.1, 0, none⟩) x.2.2.length x.2.1]
/-- a row that comes lies in the world in which it comes -/
def NxR (n : Nat) (_ : List RowAt) (x : RowAt) (W : World) : Prop := eachV x.2.2 n = true ∧ Is W W.heap.size (some ⟨x.1, 0, none⟩) x.2.2
def atRow (G g : Nat) (p : List Int) : RowAt := (G, g, p)

set_option maxRecDepth 100000 in
set_option maxHeartbeats 4000000 in
theorem ordersFrom_in (n l Bb base G g : Nat) (hn : n ≤ 6) (hbb : Bb < base) (J Jx : List RowAt → World → Prop)
    (hY : ∀ m pre x W1, J pre W1 → NxR n pre x W1 → YieldAt Fence.wide m Try.prog l (encR x) W1 fun e W' =>
      (e = .returned (.bool true) ∧ J (pre ++ [x]) W' ∧ Kb Bb W1 W') ∨ (e = .returned (.bool false) ∧ Jx (pre ++ [x]) W'))
    (hJ : AbidesW base NoFr J) :
    ∀ (m k : Nat) (o : List Int) (t : Nat) (pre : List RowAt) (W : World), o.length = n → t + m = n → eachV o n = true → IO W base (.slice (some ⟨G, 0, none⟩) n g) o → J pre W →
      CallsIn Fence.wide k Try.prog 83 #[.slice (some ⟨G, 0, none⟩) n g, .int .i64 (t : Int), .func (.yield l) #[] #[]] W fun e W' =>
        (e = .returned (.bool true) ∧ J (pre ++ (permsF m o t).map (atRow G g)) W' ∧ IO W' base (.slice (some ⟨G, 0, none⟩) n g) o) ∨ (e = .returned (.bool false) ∧ ∃ q, Jx (pre ++ q) W') := by
  have hdd : ∀ k : Nat, ((Fence.wide).depth.isSome = true → 1 ≤ k) := fun k h => by cases h
  intro m
  induction m with
  | zero =>
    intro k o t pre W hl ht he hown hJs
    obtain rfl : t = n := by omega
    have heq : ((t : Int) == (t : Int)) = true := by simp
    have hIs := hown.isOf.2
    obtain ⟨fn, tmps, assign, body, hy, hR⟩ := hY (k - 1) pre (G, g, o) W hJs ⟨he, hIs⟩
    simp only [encR, hl] at hy
    refine callsIn_of_wp Try.func83 rfl trivial ?_ rfl
    simp only [Try.ntmps83, List.size_toArray, List.length_cons, List.length_nil, Nat.reduceAdd, Nat.reduceSub, Array.replicate_succ, Array.replicate_zero, List.push_toArray, List.append_toArray, List.nil_append, List.cons_append]
    gi_wp2
    refine ⟨hdd _, hR.mono ?_⟩
    rintro e W3 (⟨rfl, hJ3, hk3⟩ | ⟨rfl, hJx3⟩)
    · gi_wp2
      go_ret
      exact .inl ⟨rfl, hJ3, hown.keptW hbb hk3⟩
    · gi_wp2
      go_ret
      exact .inr ⟨rfl, _, hJx3⟩
  | succ m ih =>
    intro k o t pre W hl ht he hown hJs
    have hneq : ((t : Int) == (n : Int)) = false := beq_eq_false_iff_ne.2 (by omega)
    have HS := Lib.hid (fun d => show ((List.range (d + 1)).flatMap fun d => permsF m (exL o t (t + d)) (t + 1)) = ((List.range d).flatMap fun d => permsF m (exL o t (t + d)) (t + 1)) ++ permsF m (exL o t (t + d)) (t + 1) by simp [List.range_succ])
    have HB := Lib.hid (owns_base hown G (by simp [Value.ownBlock]))
    refine callsIn_of_wp Try.func83 rfl trivial ?_ rfl
    simp only [Try.ntmps83, List.size_toArray, List.length_cons, List.length_nil, Nat.reduceAdd, Nat.reduceSub, Array.replicate_succ, Array.replicate_zero, List.push_toArray, List.append_toArray, List.nil_append, List.cons_append]
    gi_wp2
    gi_loopw [7] (fun i wr => ∃ q : Nat, t ≤ q ∧ q ≤ n ∧ i = .int .i64 (q : Int) ∧ J (pre ++ ((List.range (q - t)).flatMap fun d => permsF m (exL o t (t + d)) (t + 1)).map (atRow G g)) wr ∧ IO wr base (.slice (some ⟨G, 0, none⟩) n g) o)
      (fun i _ => n - (intOf i).toNat)
    case atStart => exact ⟨t, by omega, by omega, rfl, by simpa using hJs, hown⟩
    case round =>
      clear hJs hown
      obtain ⟨q, hq0, hq, rfl, hJs, hown⟩ := hrel
      by_cases hlt : q < n
      · have p2 : (q : Int) < (n : Int) := by omega
        have HX1 := Lib.hid (fun (W : World) (h : IO W base (.slice (some ⟨G, 0, none⟩) n g) o) => by have K := c_exchange o G g t q base W (by rw [hl]; exact h) (by omega) (by omega) (by omega); rw [hl] at K; exact K)
        have HX2 := Lib.hid (fun (W : World) (h : IO W base (.slice (some ⟨G, 0, none⟩) n g) (exL o t q)) => by
          have K := c_exchange (exL o t q) G g t q base W (by rw [exL_len, hl]; exact h) (by rw [exL_len]; omega) (by rw [exL_len]; omega) (by rw [exL_len]; omega)
          rw [exL_len, hl, exL_exL (by omega) (by omega)] at K; exact K)
        have HR := Lib.hid (fun (W : World) (h : IO W base (.slice (some ⟨G, 0, none⟩) n g) (exL o t q)) hJ1 => ih (k - 1) (exL o t q) (t + 1) (pre ++ ((List.range (q - t)).flatMap fun d => permsF m (exL o t (t + d)) (t + 1)).map (atRow G g)) W (by rw [exL_len]; exact hl) (by omega) (each_ex he (by omega) (by omega)) h hJ1)
        have HSd := Lib.hid (show pre ++ ((List.range (q - t)).flatMap fun d => permsF m (exL o t (t + d)) (t + 1)).map (atRow G g) ++ (permsF m (exL o t q) (t + 1)).map (atRow G g) = pre ++ ((List.range (q + 1 - t)).flatMap fun d => permsF m (exL o t (t + d)) (t + 1)).map (atRow G g) by
          rw [show q + 1 - t = (q - t) + 1 by omega, HS.out, List.map_append, show t + (q - t) = q by omega, List.append_assoc])
        have ec : ((t + 1 : Nat) : Int) = (t : Int) + 1 := by omega
        rw [ec] at HR
        clear ec HS
        gi_wp2
        refine ⟨trivial, hdd _, ?_⟩
        refine (callsIn_wide.2 (HX1.out _ hown)).mono ?_
        rintro e w1 ⟨⟨r1, rfl⟩, hown1, hg1⟩
        have hJ1 := hJ _ _ _ _ hJs hg1 (fun r e => by
          cases e
          obtain ⟨ob, h1, h2⟩ := hown.objW G (by simp [Value.ownBlock])
          exact ⟨HB.out, ob, h1, h2, fun h => h⟩)
        clear hJs hown hg1
        gi_wp2
        refine ⟨trivial, hdd _, ?_⟩
        refine (HR.out _ hown1 hJ1).mono ?_
        clear hJ1 hown1
        rintro e w2 (⟨rfl, hJ2, hown2⟩ | ⟨rfl, y, hx2⟩)
        · rw [HSd.out] at hJ2
          gi_wp2
          refine ⟨trivial, hdd _, ?_⟩
          refine (callsIn_wide.2 (HX2.out _ hown2)).mono ?_
          rintro e w3 ⟨⟨r3, rfl⟩, hown3, hg3⟩
          have hJ3 := hJ _ _ _ _ hJ2 hg3 (fun r e => by
            cases e
            obtain ⟨ob, h1, h2⟩ := hown2.objW G (by simp [Value.ownBlock])
            exact ⟨HB.out, ob, h1, h2, fun h => h⟩)
          clear hJ2 hown2 hg3 HX1 HX2 HR HSd
          gi_wp2
          go_roundw
          case rel => exact ⟨q + 1, by omega, by omega, by go_num, hJ3, hown3⟩
          case measure => simp [intOf]; omega
        · gi_wp2
          go_ret
          exact .inr ⟨rfl, _, by rw [List.append_assoc] at hx2; exact hx2⟩
      · obtain rfl : q = n := by omega
        have p2 : ¬ (q : Int) < (q : Int) := by omega
        rw [show q - t = m + 1 by omega] at hJs
        gi_wp2
        go_ret
        exact .inl ⟨rfl, hJs, hown⟩

set_option maxRecDepth 100000 in
set_option maxHeartbeats 4000000 in
theorem allOrders1_in (n k l Bb Bn : Nat) (hn : 1 ≤ n ∧ n ≤ 6) (J Jx : List RowAt → World → Prop)
    (hY : ∀ pre x W1, J pre W1 → NxR n pre x W1 → YieldAt Fence.wide (k - 1) Try.prog l (encR x) W1 fun e W' =>
      (e = .returned (.bool true) ∧ J (pre ++ [x]) W' ∧ Kb Bb W1 W') ∨ (e = .returned (.bool false) ∧ Jx (pre ++ [x]) W'))
    (W : World) (hJ : AbidesW W.heap.size NoFr J) (hBn : W.heap[Bn]? = some (.cells #[.int .i64 (n : Int)] 3 (0, 0))) (hbb : Bb < W.heap.size) (h0 : J [] W) :
    CallsIn Fence.wide k Try.prog 82 #[.func (.yield l) #[] #[], .pointer (some ⟨Bn, 0, none⟩)] W fun e W' => (∃ v, e = .returned v) ∧
      ((∃ xs : List RowAt, xs.map (fun x => x.2.2) = permsF n (upto n) 0 ∧ J xs W') ∨ (∃ pre, True ∧ Jx pre W')) := by
  have hdd : ∀ k : Nat, ((Fence.wide).depth.isSome = true → 1 ≤ k) := fun k h => by cases h
  have cn : W.cell? ⟨Bn, 0, none⟩ = some (.int .i64 (n : Int)) := by simp [World.cell?, hBn]
  have HO := Lib.hid (fun G g => ordersFrom_in n l Bb W.heap.size G g hn.2 hbb J Jx (fun m pre x W1 hj hx => yield_any rfl m (hY pre x W1 hj hx)) hJ n (k - 1) (upto n) 0 [])
  refine callsIn_of_wp Try.func82 rfl trivial ?_ rfl
  simp only [Try.ntmps82, List.size_toArray, List.length_cons, List.length_nil, Nat.reduceAdd, Nat.reduceSub, Array.replicate_succ, Array.replicate_zero, List.push_toArray, List.append_toArray, List.nil_append, List.cons_append]
  gi_wp2
  refine ⟨trivial, hdd _, ?_⟩
  refine (callsIn_wide.2 (c_asListed n W (by omega))).mono ?_
  rintro e w1 ⟨v, rfl, hown1, hb1⟩
  have hJ1 := hJ _ _ _ none h0 (grown_below hb1 (Nat.le_refl _)) (fun r e => by cases e)
  obtain ⟨G', g, rfl, -, hG⟩ := hown1.formG
  obtain ⟨G, rfl, -, -, -⟩ := hG (by rw [upto_len]; omega)
  rw [upto_len] at hown1 ⊢
  have HR := Lib.hid (HO.out G g w1 (upto_len n) (by omega) (each_upto hn.1 hn.2) hown1 hJ1)
  clear hJ1 hown1 hG hb1 HO h0 hBn
  gi_wp2
  refine ⟨trivial, hdd _, ?_⟩
  refine HR.out.mono ?_
  rintro e w2 (⟨rfl, hJ2, -⟩ | ⟨rfl, y, hx2⟩)
  · gi_wp2
    go_end0
    refine ⟨⟨_, rfl⟩, .inl ⟨_, ?_, hJ2⟩⟩
    rw [List.nil_append, List.map_map]
    exact List.map_id'' (fun _ => rfl) _
  · gi_wp2
    go_end0
    exact ⟨⟨_, rfl⟩, .inr ⟨_, trivial, hx2⟩⟩

theorem allOrders_in (n k : Nat) (w : World) :
    CallsIn Fence.wide k Try.prog 67 #[.int .i64 (n : Int)] w fun e w' => e = .returned (.func (.func 82) #[] #[.pointer (some ⟨w.heap.size, 0, none⟩)]) ∧ w' = w.alloc (.cells #[.int .i64 (n : Int)] 3) := by
  refine callsIn_of_wp Try.func67 rfl trivial ?_ rfl
  simp only [Try.ntmps67, List.size_toArray, List.length_cons, List.length_nil, Nat.reduceAdd, Nat.reduceSub, Array.replicate_succ, Array.replicate_zero, List.push_toArray, List.append_toArray, List.nil_append, List.cons_append]
  gi_wp2
  go_ret
  exact ⟨rfl, rfl⟩

theorem allOrders_nw (n k Bb Bn : Nat) (hn : 1 ≤ n ∧ n ≤ 6) (w : World) (hBn : w.heap[Bn]? = some (.cells #[.int .i64 (n : Int)] 3 (0, 0))) (hbb : Bb < w.heap.size) :
    SeqNw NoFr Fence.wide k Try.prog 82 #[.pointer (some ⟨Bn, 0, none⟩)] encR (Kb Bb) (NxR n) (fun xs => xs.map (fun x => x.2.2) = permsF n (upto n) 0) (fun _ => True) w := fun l J Jx W hW hJ hY h0 => by
  have h1 : Bn < w.heap.size := (Array.getElem?_eq_some_iff.1 hBn).1
  have hs := hW.size
  exact allOrders1_in n k l Bb Bn hn J Jx hY W hJ ((hW.block Bn h1).trans hBn) (by omega) h0

end Go.Proofs.Ytofjfhifldafcaa

