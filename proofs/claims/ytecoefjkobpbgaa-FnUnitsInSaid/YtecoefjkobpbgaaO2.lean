/- append of a list of numbers to a list, also where the operation is guarded and where nothing is appended; orders by their bounds -/
import Derived.Test.YtecoefjkobpbgaaO
import Derived.Deep.Upon
import Derived.OwnWalk
namespace Go.Proofs.Ytecoefjkobpbgaa
set_option linter.unusedVariables false
open Go.RowKit

theorem intsI_news {w : World} {b off : Nat} {L : List Int} (h : ∀ k, k < L.length → w.cell? ⟨b, off + k, none⟩ = some (.int .i64 (Z L k))) : ∀ j u, (L.map (Value.int .i64))[j]? = some u → w.cell? ((⟨b, off, none⟩ : Addr).add j) = some u := by
  intro j u hj
  have hjl : j < L.length := by have := (List.getElem?_eq_some_iff.1 hj).1; simpa using this
  have e : (⟨b, off, none⟩ : Addr).add j = ⟨b, off + j, none⟩ := by by_cases e : j = 0 <;> simp [Addr.add, e]
  rw [e, h j hjl, ← hj]
  simp [Z, hjl]
theorem intsI_one (L : List Int) : ∀ u ∈ L.map (Value.int .i64), u.oneCell' = true := by
  intro u hu
  obtain ⟨c, _, rfl⟩ := List.mem_map.1 hu
  rfl

theorem Is.one (w : World) (x : Int) : Is (w.alloc (.cells #[.int .i64 x] 3)) (w.heap.size + 1) (some ⟨w.heap.size, 0, none⟩) [x] := by
  intro _
  refine ⟨w.heap.size, 0, rfl, by omega, fun k hk => ?_⟩
  obtain rfl : k = 0 := by simpa using hk
  have hz := heap_alloc_new w (.cells #[.int .i64 x] 3)
  simp [cell_of_row _ w.heap.size 0 _ _ _ hz, Z]

section
variable {w : World}
theorem app_II {ops : Array Oper} {rest : List Oper} {o : Oper} {a : Act} {Q : Exit → Act → World → Prop} (hw : Region.wanted o (yielded ops a.tmps) = true) (s x : Operand)
    (ho : o.op = .call { callee := .builtin .append, args := #[s, x], argTypes := #[25, 25] })
    (base : Nat) (v : Value) (M L : List Int) (A : Option Addr) (c B : Nat) (hs : a.eval s = v) (hown : IO w base v M) (hx : a.eval x = .slice A L.length c)
    (hI : Is w B A L) (hlen : M.length + L.length ≤ 1000000000000) (hbase : base ≤ w.heap.size)
    (h : ∀ G cap w', IO w' base (.slice G (M.length + L.length) cap) (M ++ L) → w.grownBy w' v.ownBlock → Below base w w' → wpList Try.prog ops Q rest (a.put o.dst (.slice G (M.length + L.length) cap)) w') :
    wpList Try.prog ops Q (o :: rest) a w := by
  obtain ⟨i0, hi, hz0, hz1, hz2⟩ := info_parts infoI
  show if Region.wanted o (yielded ops a.tmps) then _ else _
  rw [if_pos hw]
  refine Or.inl ?_
  by_cases hp : 0 < L.length
  · obtain ⟨b, off, rfl, -, hc⟩ := hI hp
    refine wp_append_lies w s x _ ho base 3 i0 _ 1 8 Try.underlying25 hi hz0 hz1 hz2 rfl (by decide) v M.length _ hs hown
      ⟨b, off, none⟩ L.length c (L.map (Value.int .i64)) hx (by simp) (intsI_news hc) (intsI_one L) hp (by simp only [maxLen]; omega) (by omega) hbase _ rfl ?_
    intro g cap w' h1 h2 _ _
    exact h (some ⟨g, 0, none⟩) cap w' (by simpa [IO] using h1) h2 ((Below.refl _ _).grown h2 hbase (owns_base hown))
  · have h0 : L = [] := List.eq_nil_of_length_eq_zero (by omega)
    subst h0
    obtain ⟨G, g, rfl, hg1, -, -⟩ := hown.form
    have hsrc : Src Try.prog i0.size 25 (.slice A 0 c) 0 [] w := ⟨.inl ⟨_, Try.underlying25⟩, fun w' => by simp [Builtin.lenOf], by cases A <;> simp [Builtin.firstCells, loadCells, loadCellsFrom], by cases A <;> simp [Builtin.firstCells, loadCells, loadCellsFrom], by simp, fun u hu => by cases hu⟩
    have hr := run_append_nothing (P := Try.prog) w 25 25 o.type 3 i0 Try.underlying25 hi G M.length g hg1 (.slice A 0 c) hsrc
    have hx' : a.eval x = .slice A 0 c := hx
    unfold Oper.wp execOp
    simp only [ho, resolve, invoke, builtin, Sem.run_bind, Sem.run_pure, Result.andThen_ok, List.map_toArray, List.map_cons, List.map_nil, hs, hx', hr]
    exact h G g w (by simpa using hown) ⟨rfl, rfl, rfl, Nat.le_refl _, fun _ _ _ => rfl⟩ (Below.refl _ _)
end

section
variable {w : World}
/-- make([]int, n), in a region in the text's order -/
theorem make_I {ops : Array Oper} {rest : List Oper} {o : Oper} {a : Act} {Q : Exit → Act → World → Prop} (hgd : o.guard = none) (s : Operand) (ho : o.op = .makeSlice 25 s s)
    (base : Nat) (n : Nat) (hs : a.eval s = .int .i64 (n : Int)) (hn : n ≤ 1000000) (hbase : base ≤ w.heap.size)
    (h : ∀ w', IO w' base (.slice (some ⟨w.heap.size, 0, none⟩) n n) (List.replicate n 0) → w.grownBy w' none → wpList Try.prog ops Q rest (a.put o.dst (.slice (some ⟨w.heap.size, 0, none⟩) n n)) w') :
    wpList Try.prog ops Q (o :: rest) a w := by
  obtain ⟨i0, hi, hz0, hz1, hz2⟩ := info_parts infoI
  refine wpList_make_full w hgd s s _ ho base 3 i0 _ 1 Try.underlying25 hi hz0 hz1 .i64 .i64 n n n hs hs rfl rfl (by rw [hz2]; omega) (by simp only [maxLen]; omega) hbase ?_
  intro w' h1 h2
  refine h w' ?_ h2
  have e : (madeCells (Value.int .i64 0).cells (n * 1)).toList = (List.replicate n (0 : Int)).map (Value.int .i64) := by
    rw [List.map_replicate, Nat.mul_one]; exact toList_madeCells_one _ _
  unfold IO
  rw [← e, List.length_replicate]
  exact h1
end

end Go.Proofs.Ytecoefjkobpbgaa

