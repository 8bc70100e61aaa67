/-
  The walk of impl.packedSize.
-/
import Derived.Test.YtonhehndoifipaaJPackHopsPH
import Derived.Test.YtonhehndoifipaaJPackHopsIAW0
import Derived.BigQuiet
import Derived.Deep.QuietTactic
namespace Go.Proofs.Ytonhehndoifipaa
open Go.RowKit

set_option maxHeartbeats 1000000 in
set_option maxRecDepth 1000000 in
theorem packedSize_any (n : Nat) (w : World) (hn : n ≤ 9223372036854775807) :
    Calls Try.prog 39 #[.int .i64 n] w fun e w' => e = .returned (.int .i64 (((3 * n + 7) / 8 : Nat) : Int)) ∧ w' = w := by
  have HR : Hid ((n : Int) / 8 * 3 + ((n : Int) % 8 * 3 + 7) / 8 = (((3 * n + 7) / 8 : Nat) : Int)) := by show _ = _; omega
  go_enter Try.func39, Try.ntmps39
  go_wp2
  go_ret
  exact ⟨by rw [← HR.out]; rfl, rfl⟩
end Go.Proofs.Ytonhehndoifipaa
