/- impl.BusyOf -/
import Derived.Test.YtjjncpimelpfiaaN5
import Derived.Test.YtjjncpimelpfiaaK3
namespace Go.Proofs.Ytjjncpimelpfiaa
set_option linter.unusedVariables false
open Go.RowKit
attribute [local go_sem ↓] Go.wp_at_zero Go.wp_at_succ

theorem rows_take {B : List (Int × Int)} {k : Nat} (h : k < B.length) : rows (B.take (k + 1)) = rows (B.take k) ++ [[X B k, Y B k]] := by
  have e : B.take (k + 1) = B.take k ++ [B[k]] := by rw [List.take_add_one]; simp [h]
  rw [e, rows_app]
  simp [X, Y, h]

set_option maxRecDepth 4000 in
set_option maxHeartbeats 4000000 in
theorem c_iBusyOf (L : List (Int × Int)) (A : Option Addr) (c : Nat) (w : World) (hA : Cs w w.heap.size A L) (hn : L.length ≤ 140737488351232) :
    Calls Try.prog 19 #[.slice A L.length c] w fun e w' => ∃ v, e = .returned v ∧ (∃ vs, IOO w' w.heap.size v (rows (busyP L)) vs) ∧ Below w.heap.size w w' := by
  have hbl := busyP_len L
  have KB := Lib.hid (c_busyPeriods L A c w hA hn)
  generalize busyP L = B at KB hbl ⊢
  go_enter Try.func19, Try.ntmps19
  go_wp2_with fail
  refine KB.out.mono ?_
  rintro e w1 ⟨v1, rfl, o1, hb1⟩
  have hs1 := hb1.size
  obtain ⟨O, oc, rfl, hO⟩ := o1.form
  clear o1 KB
  have HO := Lib.hid hO
  clear hO
  go_wp2_with fail
  go_loopw [3, 9] (fun o i wr => ∃ (k : Nat) (vs : List Value), k ≤ B.length ∧ i = .int .i64 k ∧ IOO wr w1.heap.size o (rows (B.take k)) vs ∧ Below w1.heap.size w1 wr)
    (fun _ i _ => B.length - (intOf i).toNat)
  case atStart => exact ⟨0, [], by omega, rfl, by simpa [rows] using IOO.nil w1 w1.heap.size, Below.refl _ _⟩
  case round =>
    obtain ⟨k, vs, hk, rfl, hown, hb⟩ := hrel
    have hsz := hb.size
    by_cases hlt : k < B.length
    · obtain ⟨g0, rfl, hg0, hg0lt, hcl, -⟩ := HO.out (by omega)
      have c1 := (hb.cell (p := ⟨g0, k * 2, none⟩) hg0lt).trans (hcl k hlt).1
      have c2 := (hb.cell (p := ⟨g0, k * 2 + 1, none⟩) hg0lt).trans (hcl k hlt).2
      have p1 : (0 : Int) ≤ (k : Int) := by omega
      have p2 : (k : Int) < (B.length : Int) := by omega
      have hlen : (rows (B.take k)).length ≤ 1000000000 := by rw [rows_len, List.length_take]; omega
      have E := Lib.hid (rows_take hlt)
      clear hcl
      go_wp2_with fail
      refine (c_row (X B k) (Y B k) _).mono ?_
      rintro e w5 ⟨rfl, hio, hb5⟩
      simp only [World.size_alloc] at hio
      have hba : Below wr.heap.size wr (wr.alloc (.cells #[.int .i64 (X B k), .int .i64 (Y B k)] 66)) := (Below.refl _ wr).alloc (Nat.le_refl _) _
      have hbx : Below wr.heap.size wr w5 := hba.trans (hb5.mono (by simp))
      have hbz : Below wr.heap.size wr (w5.alloc (.cells #[.slice (some ⟨wr.heap.size + 1 + 1, 0, none⟩) 2 2] 36)) := hbx.alloc hbx.size _
      have hio2 : IO (w5.alloc (.cells #[.slice (some ⟨wr.heap.size + 1 + 1, 0, none⟩) 2 2] 36)) w1.heap.size (.slice (some ⟨wr.heap.size + 1 + 1, 0, none⟩) 2 2) [X B k, Y B k] := (hio.mono (by omega)).alloc _
      have hsl : ∀ r, (Value.slice (some ⟨wr.heap.size + 1 + 1, 0, none⟩) 2 2).ownBlock = some r → wr.heap.size ≤ r := by intro r e; simp [Value.ownBlock] at e; omega
      have hbs := hbz.size
      have HU := Lib.hid (And.intro hbz (And.intro hio2 (And.intro hsl (And.intro hlen (Nat.le_trans hsz hbs)))))
      have HSP := Lib.hid (show Sep w1.heap.size w1.heap.size u3 from fun r e => .inr (owns_base hown.row r e))
      clear hba hbx hbz hio2 hsl hbs hb5 hio hlen
      go_wp2_with (refine app_OO ?_ (.tmp 13) (.tmp 16) ?_ w1.heap.size u3 (rows (B.take k)) vs wr (.slice (some ⟨wr.heap.size + 1 + 1, 0, none⟩) 2 2) [X B k, Y B k] w5.heap.size ?_ ?_ ?_ ?_ ?_ ?_ ?_ ?_ ?_ ?_ w1.heap.size w1.heap.size w1 ?_ ?_ ?_ ?_; rfl; rfl; rfl; exact hown; exact HU.out.1; exact HU.out.2.1; exact HU.out.2.2.1; rfl; rfl; exact (heap_alloc_new _ _); exact HU.out.2.2.2.1; exact HU.out.2.2.2.2; exact HSP.out; exact (fun b h1 h2 => absurd h1 (by omega)); exact HU.out.2.2.2.2; intro g7 cap w7 hown7 hb70 hsep7 hmid7)
      go_roundw
      case rel => exact ⟨k + 1, _, by omega, by go_num, by rw [E.out]; exact hown7, (hb.trans (HU.out.1.mono hsz)).trans hb70⟩
      case measure => simp [intOf]; omega
    · have hlf : ¬ ((k : Int) < (B.length : Int)) := by omega
      go_wp2_with fail
      go_ret
      refine ⟨_, rfl, ⟨vs, ?_⟩, hb1.trans (hb.mono hs1)⟩
      have e : B.take k = B := List.take_of_length_le (by omega)
      rw [e] at hown
      exact hown.mono hs1

end Go.Proofs.Ytjjncpimelpfiaa

