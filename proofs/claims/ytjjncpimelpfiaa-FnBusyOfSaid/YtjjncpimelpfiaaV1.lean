/- walks of the exact laws of chapter 1 -/
import Derived.Test.YtjjncpimelpfiaaX
import Derived.Test.YtjjncpimelpfiaaT
import Derived.Test.YtjjncpimelpfiaaD
import Derived.Test.YtjjncpimelpfiaaH
import Derived.Test.YtjjncpimelpfiaaE
import Derived.Test.YtjjncpimelpfiaaF
namespace Go.Proofs.Ytjjncpimelpfiaa
set_option linter.unusedVariables false
open Go.RowKit


theorem comeV_form (L : List (Int × Int)) (t : Int) : ∃ (a b : Int) (q : Bool), comeV L t = .tuple #[.int .i64 a, .int .i64 b, .bool q] := by
  unfold comeV; split
  · exact ⟨_, _, _, rfl⟩
  · exact ⟨_, _, _, rfl⟩





theorem c_iComeByV (L : List (Int × Int)) (A : Option Addr) (c : Nat) (t a b : Int) (q : Bool) (hV : comeV L t = .tuple #[.int .i64 a, .int .i64 b, .bool q]) (w : World) (hA : Cs w w.heap.size A L) (hn : L.length ≤ c) (hc' : L.length ≤ 140737488351232) :
    Calls Try.prog 15 #[.slice A L.length c, .int .i64 t] w fun e w' => e = .returned (.tuple #[.int .i64 a, .int .i64 b, .bool q]) ∧ Below w.heap.size w w' := by rw [← hV]; exact c_iComeBy L A c t w hA hn hc'




end Go.Proofs.Ytjjncpimelpfiaa

