/- spec.l1Number (ahead of the landing) -/
import Derived.Test.YtpbmehodcllncaaO
import Derived.Test.YtpbmehodcllncaaB
import Derived.Test.YtpbmehodcllncaaM32
import Derived.Laws.IdiomStrings
import Derived.Laws.BytesString
import Derived.Laws.Concat
namespace Go.Proofs.Ytpbmehodcllncaa
set_option linter.unusedVariables false
open Go.RowKit
attribute [local go_sem ↓] Go.wp_at_zero Go.wp_at_succ

/-- a text of bytes -/
def bs (l : List UInt8) : ByteArray := ⟨l.toArray⟩
theorem bs_append (x y : List UInt8) : bs x ++ bs y = bs (x ++ y) := ByteArray.mk_append_mk x y
theorem bs_size (x : List UInt8) : (bs x).size = x.length := by simp [bs, ByteArray.size]
theorem bs_list (x : List UInt8) : (bs x).toList = x := ByteArray.toList_mk x
theorem run_conv1 (c : UInt8) (x : Int) (hx : x = (c.toNat : Int)) (w : World) :
    (convert 22 9 (.slice (some ⟨w.heap.size, 0, none⟩) 1 1)).run Try.prog (w.alloc (.cells #[.int .u8 x] 5)) = .ok (.string (bs [c])) (w.alloc (.cells #[.int .u8 x] 5)) := by
  have := run_convert_bytes_back (P := Try.prog) (w.alloc (.cells #[.int .u8 x] 5)) 22 9 5 ⟨w.heap.size, 0, none⟩ 1 [c] Try.underlying22 Try.underlying5 Try.underlying9
    (fun j hj => by
      have hj0 : j = 0 := by simpa using hj
      subst hj0
      have := World.cell?_alloc_mark w #[.int .u8 x] 5 (0, 0) 0
      simp [Addr.add, hx] at this ⊢)
  exact this

theorem run_conv2 (c : UInt8) (x : Int) (hx : x = (c.toNat : Int)) (w : World) (B : Nat) (hc : w.cell? ⟨B, 0, none⟩ = some (.int .u8 x)) :
    (convert 22 9 (.slice (some ⟨B, 0, none⟩) 1 1)).run Try.prog w = .ok (.string (bs [c])) w :=
  run_convert_bytes_back (P := Try.prog) w 22 9 5 ⟨B, 0, none⟩ 1 [c] Try.underlying22 Try.underlying5 Try.underlying9
    (fun j hj => by
      have hj0 : j = 0 := by simpa using hj
      subst hj0
      simpa [Addr.add, hx] using hc)

end Go.Proofs.Ytpbmehodcllncaa

