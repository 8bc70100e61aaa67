/-
  Where a way leads lies in the grid.
  Plainly: a row of tables may stand.
-/
import Derived.Test.YteicpjbeihabnaaDoorJNextSL4
import Derived.Test.YteicpjbeihabnaaDoorJNextTb0
namespace Go.Proofs.YteicpjbeihabnaaDoor
open Go.RowKit

theorem toC_lt {w h c : Int} (hw : 1 ≤ w) (hc0 : 0 ≤ c) (hc : c < w * h) (d : Nat) : toC w h c d < w * h := by
  obtain ⟨h1, h2, h3, h4⟩ := toC_div hw hc0 hc
  have e : c = w * (c / w) + c % w := (Int.mul_ediv_add_emod c w).symm
  have hp : 0 < w * h := by omega
  generalize c / w = y at *
  generalize c % w = x at *
  have ew : w * y = y * w := Int.mul_comm _ _
  have eh : w * h = h * w := Int.mul_comm _ _
  have m1 : (y + 1) * w ≤ h * w := Int.mul_le_mul_of_nonneg_right (by omega) (by omega)
  have e1 : (y + 1) * w = y * w + w := by rw [Int.add_mul, Int.one_mul]
  have e2 : (y - 1) * w = y * w - w := by rw [Int.sub_mul, Int.one_mul]
  have key : toC w h c d = (if d = 0 then (if y - 1 < 0 then -1 else (y - 1) * w + x) else if d = 1 then (if w ≤ x + 1 then -1 else y * w + (x + 1)) else if d = 2 then (if h ≤ y + 1 then -1 else (y + 1) * w + x) else (if x - 1 < 0 then -1 else y * w + (x - 1))) := by
    have ey : c / w = y := by rw [e, Int.add_comm, Int.add_mul_ediv_left _ _ (by omega), Int.ediv_eq_zero_of_lt h3 h4, Int.zero_add]
    have ex : c % w = x := by rw [e, Int.add_comm, Int.add_mul_emod_self_left, Int.emod_eq_of_lt h3 h4]
    unfold toC; rw [ey, ex]
  rw [key]
  split
  · split <;> omega
  · split
    · split <;> omega
    · split
      · split
        · omega
        · have m2 : (y + 1 + 1) * w ≤ h * w := Int.mul_le_mul_of_nonneg_right (by omega) (by omega)
          have e3 : (y + 1 + 1) * w = y * w + w + w := by rw [Int.add_mul, Int.one_mul, e1]
          omega
      · split <;> omega
end Go.Proofs.YteicpjbeihabnaaDoor

namespace Go.Proofs.YteicpjbeihabnaaDoor
open Go.RowKit

/-- A cell's distance and hop may stand, for the target at cell t. -/
def StepOk (W H t : Int) (D P : List Int) (c : Nat) : Prop :=
  if (c : Int) = t then D.getD c 0 = 0 ∧ P.getD c 0 = -1
  else if D.getD c 0 = -1 then P.getD c 0 = -1
  else 1 ≤ D.getD c 0 ∧ D.getD c 0 ≤ 65534 ∧ 0 ≤ P.getD c 0 ∧ P.getD c 0 ≤ 3 ∧ 0 ≤ toC W H c (P.getD c 0).toNat ∧
    0 ≤ D.getD (toC W H c (P.getD c 0).toNat).toNat 0 ∧ D.getD (toC W H c (P.getD c 0).toNat).toNat 0 < D.getD c 0
/-- A target's distances and hops may stand. -/
structure RowOk (W H t : Int) (D P : List Int) : Prop where
  dl : (D.length : Int) = W * H
  pl : (P.length : Int) = W * H
  each : ∀ c : Nat, (c : Int) < W * H → StepOk W H t D P c
end Go.Proofs.YteicpjbeihabnaaDoor
