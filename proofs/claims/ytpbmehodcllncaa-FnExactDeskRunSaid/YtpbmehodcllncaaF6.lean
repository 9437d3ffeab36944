/- What the frames of the exact laws over desks share: an argument that is one of the laws' desks. -/
import Derived.Test.YtpbmehodcllncaaF5
import Derived.Test.YtpbmehodcllncaaV16
namespace Go.Proofs.Ytpbmehodcllncaa
set_option linter.unusedVariables false
open Go.RowKit Go.ChangeShapes Go.WideShapes Go.ChangeAt Go.Deep Go.Joins

theorem open_lawRow {H : Type} {enc : TypeId × Value → H} {W : World} {fuel : Nat} {v : Value} {y : DataW H × List MemPlace} (h : DataW.trod enc Try.prog W 0 (fun _ => true) true fuel 50 [v] = some y) :
    ∃ (A : Option Addr) (c : Nat) (L : List (Int × Int)), v = .slice A L.length c ∧ L.length ≤ c ∧ c ≤ maxLen ∧ Cs W W.heap.size A L := by
  obtain ⟨A, n, c, rfl⟩ : ∃ A n c, v = .slice A n c := by
    rcases open_slice_pairs Try.underlying50 Try.underlying91 cellsLC rfl rfl cellsI cellsI h with ⟨hcs, _⟩ | ⟨a, len, cap, m, k, V0, V1, D0, D1, P0, P1, hcs, _⟩
    · exact ⟨none, 0, 0, by simpa using hcs⟩
    · exact ⟨some a, len, cap, by simpa using hcs⟩
  obtain ⟨L, rfl, h1, h2, h3⟩ := open_lawCust (A := A) (n := n) (c := c) (d := y.1) (p := y.2) ⟨fuel, by simpa [Value.cells] using h⟩
  exact ⟨A, c, L, rfl, h1, h2, h3⟩

set_option maxRecDepth 8000 in
theorem cellsLS : Try.prog.cellsOf 50 = 1 := by kernel_rfl

set_option maxRecDepth 8000 in
theorem open_lawRows {H : Type} {enc : TypeId × Value → H} {W : World} {fuel : Nat} {v : Value} {y : DataW H × List MemPlace} (h : DataW.trod enc Try.prog W 0 (fun _ => true) true fuel 51 [v] = some y) :
    ∃ (A : Option Addr) (c : Nat) (Ls : List (List (Int × Int))), v = .slice A Ls.length c ∧ Ls.length ≤ c ∧ c ≤ maxLen ∧ Css W W.heap.size A Ls ∧ ∀ k, k < Ls.length → (LL Ls k).length ≤ maxLen := by
  rcases open_slice1 Try.underlying51 cellsLS h with ⟨hcs, _⟩ | ⟨a, len, cap, m, k, V, D0, P0, hcs, _, hl, hm, hmm, _, hx⟩
  · have hv : v = .slice none 0 0 := by simpa using hcs
    subst hv
    exact ⟨none, 0, [], rfl, Nat.le_refl _, by simp [maxLen], Css.nil _ _ _, fun k hk => by simp at hk⟩
  · have hv : v = .slice (some a) len cap := by simpa using hcs
    subst hv
    have hmc : m = cap := by simpa using hmm
    subst hmc
    have each : ∀ r, r < m → ∃ q : Option Addr × Nat × List (Int × Int), V r = .slice q.1 q.2.2.length q.2.1 ∧ q.2.2.length ≤ q.2.1 ∧ q.2.1 ≤ maxLen ∧ Cs W W.heap.size q.1 q.2.2 := by
      intro r hr
      obtain ⟨A, c, L, e, h1, h2, h3⟩ := open_lawRow (hx r hr).2
      exact ⟨(A, c, L), e, h1, h2, h3⟩
    obtain ⟨q, hq⟩ := choose_lt each
    have hLL : ∀ k, k < len → LL ((List.range len).map fun r => (q r).2.2) k = (q k).2.2 := fun k hk => by
      rw [LL_get (by simpa using hk)]; simp
    refine ⟨some a, m, (List.range len).map fun r => (q r).2.2, by simp, by simpa using hl, hm, fun hp => ?_, fun k hk => ?_⟩
    · simp only [List.length_map, List.length_range] at hp
      obtain ⟨b, off, spot⟩ := a
      have hc0 := (hx 0 (by omega)).1
      have hspot : spot = none := by simpa [Addr.add] using World.cell?_spot hc0
      subst hspot
      have hadd : ∀ j, (⟨b, off, none⟩ : Addr).add j = ⟨b, off + j, none⟩ := by
        intro j
        by_cases e : j = 0 <;> simp [Addr.add, e]
      refine ⟨b, off, rfl, ?_, fun k hk => ?_⟩
      · rw [hadd] at hc0
        exact World.block_lt_of_cell? W _ hc0
      · simp only [List.length_map, List.length_range] at hk
        have hc := (hx k (by omega)).1
        rw [hadd] at hc
        obtain ⟨e, h1, h2, h3⟩ := hq k (by omega)
        rw [hLL k hk]
        exact ⟨(q k).1, (q k).2.1, by rw [hc, e], h1, h3⟩
    · simp only [List.length_map, List.length_range] at hk
      obtain ⟨e, h1, h2, h3⟩ := hq k (by omega)
      rw [hLL k hk]
      omega

set_option maxRecDepth 8000 in
theorem open_lawDesk {H : Type} {enc : TypeId × Value → H} {W : World} {r : Reach} {b0 : Nat} {v : Value} {d : DataW H} {p : List MemPlace} (hv : Value.okWide Try.prog W r b0 53 v)
    (h : DataW.Trod enc Try.prog W 0 (fun _ => true) true 53 v d p) : ∃ (u o : Value) (D : KV), v = .agg #[u, o] ∧ LawK W u o D := by
  obtain ⟨c0, c1, y0, y1, n, rfl, -, -, t0, t1⟩ := open_agg2 Try.underlying53 (by kernel_rfl) (by kernel_rfl) hv h
  obtain ⟨A, c, L, rfl, h1, h2, h3⟩ := open_lawRow t0
  obtain ⟨B, e, Ls, rfl, h4, h5, h6, h7⟩ := open_lawRows t1
  refine ⟨_, _, ⟨L, Ls⟩, rfl, ⟨⟨A, c, rfl, h1, h3⟩, B, e, rfl, h4, h6⟩, ?_, ?_, fun k hk => ?_⟩
  · simp only [maxLen] at h2; simp only; omega
  · simp only [maxLen] at h5; simp only; omega
  · have := h7 k hk
    simp only [maxLen] at this
    omega

end Go.Proofs.Ytpbmehodcllncaa

