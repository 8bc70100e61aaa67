/-
  The walk of bytes.Equal.
-/
import Derived.Test.YteicpjbeihabnaaDoorJFindTargetM
import Derived.BigQuiet
import Derived.Deep.QuietTactic
namespace Go.Proofs.YteicpjbeihabnaaDoor
open Go.RowKit

set_option maxHeartbeats 1000000 in
set_option maxRecDepth 1000000 in
theorem bytesEqual_any (u v : Value) (s t : ByteArray) (w : World) (h : BS w u s) (k : BS w v t) :
    Calls Tryd.prog 46 #[u, v] w fun e w' => Ans (s = t) e ∧ w' = w := by
  have c5 := toStr_bs h
  have c6 := toStr_bs k
  obtain ⟨a1, c1, rfl⟩ := h.slice
  obtain ⟨a2, c2, rfl⟩ := k.slice
  clear h k
  by_cases q : s = t
  · subst q
    go_enter Tryd.func46, Tryd.ntmps46
    go_wp2
    go_ret
    exact ⟨Ans.yes trivial, rfl⟩
  · have HR := hide q
    have s6 : (s.toList == t.toList) = false := by
      rw [beq_eq_false_iff_ne]
      intro h
      rw [ByteArray.toList_eq, ByteArray.toList_eq] at h
      exact q (ByteArray.ext (Array.toList_inj.1 h))
    clear q
    go_enter Tryd.func46, Tryd.ntmps46
    go_wp2
    go_ret
    exact ⟨Ans.no HR.out, rfl⟩
end Go.Proofs.YteicpjbeihabnaaDoor
