/- What the frames of chapter 12's exact laws share: an argument that is a slice of the laws' deeds. -/
import Derived.Test.YtpbmehodcllncaaF5
import Derived.Test.YtpbmehodcllncaaO8
import Derived.Deep.Slices
namespace Go.Proofs.Ytpbmehodcllncaa
set_option linter.unusedVariables false
open Go.RowKit Go.ChangeShapes Go.WideShapes Go.ChangeAt Go.Deep

theorem cellsLD : Try.prog.cellsOf 62 = 3 := by kernel_rfl
/-- what one deed's three cells read as -/
theorem deed_cells {H : Type} {enc : TypeId × Value → H} {W : World} {fuel : Nat} {v0 v1 v2 : Value} {y : DataW H × List MemPlace} (h : DataW.trod enc Try.prog W 0 (fun _ => true) true fuel 62 [v0, v1, v2] = some y) :
    ∃ d : DV, v0 = .int .i64 d.k ∧ v1 = .int .i64 d.a ∧ v2 = .int .i64 d.b := by
  obtain ⟨xs, k, hk, hxy, _, hxl, hf⟩ := DataW.trod_struct Try.underlying62 h
  match xs, hxl with
  | [y0, y1, y2], _ =>
    have g0 := hf 0 _ rfl
    have g1 := hf 1 _ rfl
    have g2 := hf 2 _ rfl
    simp [cellsI] at g0 g1 g2
    obtain ⟨x0, e0, -⟩ := DataW.trod_int Try.underlying3 g0
    obtain ⟨x1, e1, -⟩ := DataW.trod_int Try.underlying3 g1
    obtain ⟨x2, e2, -⟩ := DataW.trod_int Try.underlying3 g2
    simp at e0 e1 e2
    exact ⟨⟨x0, x1, x2⟩, e0, e1, e2⟩

theorem open_lawDeeds {H : Type} {enc : TypeId × Value → H} {W : World} {A : Option Addr} {n c : Nat} {d : DataW H} {p : List MemPlace}
    (h : DataW.Trod enc Try.prog W 0 (fun _ => true) true 65 (.slice A n c) d p) :
    ∃ L : List DV, L.length = n ∧ n ≤ c ∧ c ≤ maxLen ∧ Ds3 W W.heap.size A L := by
  obtain ⟨fuel, hf⟩ := h
  rcases open_slice Try.underlying65 hf with ⟨hcs, _⟩ | ⟨a, len, cap, m, k, D, Pl, hcs, _, hl, hm, hmm, _, hx⟩
  · simp [Value.cells] at hcs
    obtain ⟨rfl, rfl, rfl⟩ := hcs
    exact ⟨[], rfl, Nat.le_refl _, by simp [maxLen], fun h => by simp at h⟩
  · simp [Value.cells] at hcs
    obtain ⟨rfl, rfl, rfl⟩ := hcs
    have hmc : m = c := by simpa using hmm
    subst hmc
    have each : ∀ i, i < m → ∃ d : DV, W.cell? (a.add (i * 3)) = some (.int .i64 d.k) ∧ W.cell? (a.add (i * 3 + 1)) = some (.int .i64 d.a) ∧ W.cell? (a.add (i * 3 + 2)) = some (.int .i64 d.b) := by
      intro i hi
      obtain ⟨cs', h1, h2⟩ := hx i hi
      rw [cellsLD] at h1
      obtain ⟨_, hlen, hcell⟩ := World.cells?_some h1
      match cs', hlen with
      | [v0, v1, v2], _ =>
        obtain ⟨d, rfl, rfl, rfl⟩ := deed_cells h2
        have e0 := hcell 0 (by omega)
        have e1 := hcell 1 (by omega)
        have e2 := hcell 2 (by omega)
        rw [add_add] at e0 e1 e2
        exact ⟨d, by simpa using e0, by simpa using e1, by simpa using e2⟩
    haveI : Inhabited DV := ⟨⟨0, 0, 0⟩⟩
    obtain ⟨q, hq⟩ := choose_lt each
    refine ⟨(List.range n).map q, by simp, hl, hm, fun hp => ?_⟩
    simp only [List.length_map, List.length_range] at hp
    obtain ⟨b, off, spot⟩ := a
    have hc0 := (hq 0 (by omega)).1
    have hspot : spot = none := by simpa [Addr.add] using World.cell?_spot hc0
    subst hspot
    have hadd : ∀ j, (⟨b, off, none⟩ : Addr).add j = ⟨b, off + j, none⟩ := by
      intro j
      by_cases e : j = 0 <;> simp [Addr.add, e]
    refine ⟨b, off, rfl, ?_, fun i hi => ?_⟩
    · rw [hadd] at hc0
      exact World.block_lt_of_cell? W ⟨b, off + 0 * 3, none⟩ hc0
    · simp only [List.length_map, List.length_range] at hi
      obtain ⟨h0, h1, h2⟩ := hq i (by omega)
      rw [hadd] at h0 h1 h2
      have hz : ZD ((List.range n).map q) i = q i := by simp [ZD, hi]
      rw [hz]
      exact ⟨h0, by rw [← Nat.add_assoc] at h1; exact h1, by rw [← Nat.add_assoc] at h2; exact h2⟩

end Go.Proofs.Ytpbmehodcllncaa

