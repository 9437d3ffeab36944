/- spec.l1Cut (ahead of the landing) -/
import Derived.Test.YtpbmehodcllncaaK30
namespace Go.Proofs.Ytpbmehodcllncaa
set_option linter.unusedVariables false
open Go.RowKit
attribute [local go_sem ↓] Go.wp_at_zero Go.wp_at_succ

theorem extract_bs (s : ByteArray) (f k : Nat) : s.extract f k = bs ((s.data.toList.take k).drop f) := by
  apply ByteArray.ext
  rw [ByteArray.data_extract]
  apply Array.toList_inj.1
  simp [bs, Array.toList_extract, List.extract_eq_take_drop, List.drop_take]

theorem take_dropB (s : ByteArray) (k f : Nat) (hk : k < s.size) (hf : f ≤ k) : (s.data.toList.take (k + 1)).drop f = (s.data.toList.take k).drop f ++ [s[k]] := by
  have hl : s.data.toList.length = s.size := Array.length_toList
  rw [take_snocB s k hk, List.drop_append_of_le_length (by rw [List.length_take]; omega)]

end Go.Proofs.Ytpbmehodcllncaa

