/-
  Plainly: what the fields of a node come to.
-/
import Derived.Test.YtbjaccalloipcaaDoorJVtVF5
import Derived.Test.YtbjaccalloipcaaDoorJVtVT
import Derived.Test.YtbjaccalloipcaaDoorJVtVG1
import Derived.Test.YtbjaccalloipcaaDoorJVtND6
namespace Go.Proofs.YtbjaccalloipcaaDoor
open Go.RowKit

theorem vfd_ty {d : Nd} (h : vTy d = false) : vFd d = false := by unfold vFd; rw [h]; simp
theorem vfd_ns {d : Nd} (h : vNs d = false) : vFd d = false := by unfold vFd; rw [h]; simp
theorem vfd_tx {d : Nd} (h : vTx d = false) : vFd d = false := by unfold vFd; rw [h]; simp
theorem vfd_lo {d : Nd} (h : ¬ 0 ≤ d.n) : vFd d = false := by unfold vFd; rw [decide_eq_false h]; simp
theorem vfd_ok {d : Nd} (h1 : vTx d = true) (h2 : vTy d = true) (h3 : vNs d = true) (h4 : 0 ≤ d.n) : vFd d = decide (d.n ≤ gN d.kind) := by unfold vFd; rw [h1, h2, h3, decide_eq_true h4]; simp
end Go.Proofs.YtbjaccalloipcaaDoor
