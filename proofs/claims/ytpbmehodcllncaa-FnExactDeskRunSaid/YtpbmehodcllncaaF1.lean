/- What the frames of the exact laws share: an argument that is a slice of the laws' customers. -/
import Derived.Test.YtpbmehodcllncaaO
import Derived.ProofKit
import Derived.OpenShut
import Derived.Deep.SlicePairs
namespace Go.Proofs.Ytpbmehodcllncaa
set_option linter.unusedVariables false
open Go.RowKit Go.ChangeShapes Go.WideShapes Go.ChangeAt Go.Deep

theorem cellsI : Try.prog.cellsOf 3 = 1 := by kernel_rfl

theorem cellsLC : Try.prog.cellsOf 91 = 2 := by kernel_rfl
theorem open_lawCust {H : Type} {enc : TypeId × Value → H} {W : World} {A : Option Addr} {n c : Nat} {d : DataW H} {p : List MemPlace}
    (h : DataW.Trod enc Try.prog W 0 (fun _ => true) true 50 (.slice A n c) d p) :
    ∃ L : List (Int × Int), L.length = n ∧ n ≤ c ∧ c ≤ maxLen ∧ Cs W W.heap.size A L := by
  obtain ⟨fuel, hf⟩ := h
  rcases open_slice_pairs Try.underlying50 Try.underlying91 cellsLC rfl rfl cellsI cellsI hf with ⟨hcs, _⟩ | ⟨a, len, cap, m, k, V0, V1, D0, D1, P0, P1, hcs, _, hl, hm, hmm, _, hx⟩
  · simp [Value.cells] at hcs
    obtain ⟨rfl, rfl, rfl⟩ := hcs
    exact ⟨[], rfl, Nat.le_refl _, by simp [maxLen], fun h => by simp at h⟩
  · simp [Value.cells] at hcs
    obtain ⟨rfl, rfl, rfl⟩ := hcs
    have hmc : m = c := by simpa using hmm
    subst hmc
    have key : ∀ i, i < m → V0 i = .int .i64 (intOf (V0 i)) ∧ V1 i = .int .i64 (intOf (V1 i)) := by
      intro i hi
      obtain ⟨_, _, h0, h1⟩ := hx i hi
      obtain ⟨x, e0, _⟩ := DataW.trod_int Try.underlying3 h0
      obtain ⟨y, e1, _⟩ := DataW.trod_int Try.underlying3 h1
      simp at e0 e1
      rw [e0, e1]
      exact ⟨rfl, rfl⟩
    refine ⟨(List.range n).map fun i => (intOf (V0 i), intOf (V1 i)), by simp, hl, hm, fun hp => ?_⟩
    simp only [List.length_map, List.length_range] at hp
    obtain ⟨b, off, spot⟩ := a
    have hc0 := (hx 0 (by omega)).1
    have hspot : spot = none := by simpa [Addr.add] using World.cell?_spot hc0
    subst hspot
    have hadd : ∀ j, (⟨b, off, none⟩ : Addr).add j = ⟨b, off + j, none⟩ := by
      intro j
      by_cases e : j = 0 <;> simp [Addr.add, e]
    refine ⟨b, off, rfl, ?_, fun i hi => ?_⟩
    · rw [hadd] at hc0
      exact World.block_lt_of_cell? W ⟨b, off + 0 * 2, none⟩ hc0
    · simp only [List.length_map, List.length_range] at hi
      obtain ⟨h0, h1, _⟩ := hx i (by omega)
      rw [hadd] at h0 h1
      have hk := key i (by omega)
      refine ⟨?_, ?_⟩
      · rw [h0, hk.1]; simp [X, hi, intOf]
      · rw [← Nat.add_assoc] at h1
        rw [h1, hk.2]; simp [Y, hi, intOf]

end Go.Proofs.Ytpbmehodcllncaa

