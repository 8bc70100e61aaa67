/-
  A side that may stand.
-/
import Derived.Test.YteicpjbeihabnaaDoorJNextIL0
namespace Go.Proofs.YteicpjbeihabnaaDoor
open Go.RowKit

/-- A side that may stand. -/
def sdB (n : Int) : Bool := decide (1 ≤ n) && decide (n ≤ 40)
theorem sdB_t {n : Int} (h : sdB n = true) : 1 ≤ n ∧ n ≤ 40 := by
  unfold sdB at h
  rw [Bool.and_eq_true] at h
  exact ⟨of_decide_eq_true h.1, of_decide_eq_true h.2⟩
theorem sdB_f {n : Int} (h : sdB n = false) : ¬ (1 ≤ n ∧ n ≤ 40) := fun ⟨h1, h2⟩ => by
  unfold sdB at h
  rw [decide_eq_true h1, decide_eq_true h2] at h
  cases h
theorem isSide_sd (n : Int) (w : World) : Calls Tryd.prog 68 #[.int .i64 n] w fun e w' => e = .returned (.bool (sdB n)) ∧ w' = w := isSide_any n w
end Go.Proofs.YteicpjbeihabnaaDoor
