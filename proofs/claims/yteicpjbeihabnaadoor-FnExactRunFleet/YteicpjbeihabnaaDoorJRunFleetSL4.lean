/-
  The walks of l4to, l4bits.
  Where a way leads lies in the grid.
  Plainly: a row of tables may stand.
-/
import Derived.Test.YteicpjbeihabnaaDoorJRunFleetB0
import Derived.Test.YteicpjbeihabnaaDoorJRunFleetIIS0
namespace Go.Proofs.YteicpjbeihabnaaDoor
open Go.RowKit

/-- The cell to which a way leads, or -1 (l4to). -/
def toC (w h c : Int) (d : Nat) : Int :=
  if d = 0 then (if c / w - 1 < 0 then -1 else (c / w - 1) * w + c % w)
  else if d = 1 then (if w ≤ c % w + 1 then -1 else c / w * w + (c % w + 1))
  else if d = 2 then (if h ≤ c / w + 1 then -1 else (c / w + 1) * w + c % w)
  else (if c % w - 1 < 0 then -1 else c / w * w + (c % w - 1))

theorem toC_div {w h c : Int} (hw : 1 ≤ w) (hc0 : 0 ≤ c) (hc : c < w * h) : 0 ≤ c / w ∧ c / w < h ∧ 0 ≤ c % w ∧ c % w < w := by
  refine ⟨Int.ediv_nonneg hc0 (by omega), Int.ediv_lt_of_lt_mul (by omega) (by rw [Int.mul_comm]; exact hc), Int.emod_nonneg _ (by omega), Int.emod_lt_of_pos _ (by omega)⟩

set_option maxHeartbeats 1000000 in
set_option maxRecDepth 1000000 in
theorem l4to_any (W H c : Int) (d : Nat) (w : World) (hw0 : 1 ≤ W) (hw1 : W ≤ 40) (hh0 : 1 ≤ H) (hh1 : H ≤ 40) (hc0 : 0 ≤ c) (hc1 : c < W * H) (hd : d < 4) :
    Calls Tryd.prog 72 #[.int .i64 W, .int .i64 H, .int .i64 c, .int .i64 d] w fun e w' => e = .returned (.int .i64 (toC W H c d)) ∧ w' = w := by
  obtain ⟨hy0, hy1, hx0, hx1⟩ := toC_div hw0 hc0 hc1
  have hdm : c.tdiv W = c / W := Int.tdiv_eq_ediv_of_nonneg hc0
  have hmm : c.tmod W = c % W := Int.tmod_eq_emod_of_nonneg hc0
  have hWne : (W == 0) = false := by rw [beq_eq_false_iff_ne]; omega
  have hcb : c ≤ 1600 := by
    have : W * H ≤ 40 * 40 := Int.mul_le_mul hw1 hh1 (by omega) (by omega)
    omega
  obtain ⟨x, hx⟩ : ∃ x, c % W = x := ⟨_, rfl⟩
  obtain ⟨y, hy⟩ : ∃ y, c / W = y := ⟨_, rfl⟩
  have HT : Hid (toC W H c d = if d = 0 then (if y - 1 < 0 then -1 else (y - 1) * W + x) else if d = 1 then (if W ≤ x + 1 then -1 else y * W + (x + 1)) else if d = 2 then (if H ≤ y + 1 then -1 else (y + 1) * W + x) else (if x - 1 < 0 then -1 else y * W + (x - 1))) := by
    show _ = _; unfold toC; rw [hx, hy]
  have hy1' : y < H := by rw [← hy]; exact hy1
  have hy0' : 0 ≤ y := by rw [← hy]; exact hy0
  have hx1' : x < W := by rw [← hx]; exact hx1
  have hx0' : 0 ≤ x := by rw [← hx]; exact hx0
  have hyW : ∀ z, 0 ≤ z → z ≤ 40 → 0 ≤ z * W ∧ z * W ≤ 1600 := fun z h0 h1 => ⟨Int.mul_nonneg h0 (by omega), by
    have := Int.mul_le_mul h1 hw1 (by omega) (by omega); omega⟩
  have HYW := hide hyW
  rw [hx] at hmm
  rw [hy] at hdm
  clear hyW hx hy hy0 hy1 hx0 hx1
  have hd4 : d = 0 ∨ d = 1 ∨ d = 2 ∨ d = 3 := by omega
  have u1 : decide (x < 0) = false := decide_eq_false (by omega)
  have u2 : decide (W ≤ x) = false := decide_eq_false (by omega)
  have u3 : decide (y < 0) = false := decide_eq_false (by omega)
  have u4 : decide (H ≤ y) = false := decide_eq_false (by omega)
  rcases hd4 with rfl | rfl | rfl | rfl
  · have HT2 : Hid (toC W H c 0 = if y - 1 < 0 then -1 else (y - 1) * W + x) := HT.out
    by_cases r : y - 1 < 0
    · have v1 : decide (y - 1 < 0) = true := decide_eq_true r
      have HT3 : Hid (toC W H c 0 = -1) := by show _ = _; rw [HT2.out, if_pos r]
      go_enter Tryd.func72, Tryd.ntmps72
      go_wp2
      go_ret
      exact ⟨by rw [HT3.out]; rfl, rfl⟩
    · have v1 : decide (y - 1 < 0) = false := decide_eq_false r
      have v2 : decide (H ≤ y - 1) = false := decide_eq_false (by omega)
      have HT3 : Hid (toC W H c 0 = (y - 1) * W + x) := by show _ = _; rw [HT2.out, if_neg r]
      obtain ⟨p0, p1⟩ := HYW.out (y - 1) (by omega) (by omega)
      go_enter Tryd.func72, Tryd.ntmps72
      go_wp2
      go_ret
      exact ⟨by rw [HT3.out]; rfl, rfl⟩
  · have HT2 : Hid (toC W H c 1 = if W ≤ x + 1 then -1 else y * W + (x + 1)) := HT.out
    have u5 : decide (x + 1 < 0) = false := decide_eq_false (by omega)
    by_cases r : W ≤ x + 1
    · have v1 : decide (W ≤ x + 1) = true := decide_eq_true r
      have HT3 : Hid (toC W H c 1 = -1) := by show _ = _; rw [HT2.out, if_pos r]
      go_enter Tryd.func72, Tryd.ntmps72
      go_wp2
      go_ret
      exact ⟨by rw [HT3.out]; rfl, rfl⟩
    · have v1 : decide (W ≤ x + 1) = false := decide_eq_false r
      have HT3 : Hid (toC W H c 1 = y * W + (x + 1)) := by show _ = _; rw [HT2.out, if_neg r]
      obtain ⟨p0, p1⟩ := HYW.out y (by omega) (by omega)
      go_enter Tryd.func72, Tryd.ntmps72
      go_wp2
      go_ret
      exact ⟨by rw [HT3.out]; rfl, rfl⟩
  · have HT2 : Hid (toC W H c 2 = if H ≤ y + 1 then -1 else (y + 1) * W + x) := HT.out
    have u5 : decide (y + 1 < 0) = false := decide_eq_false (by omega)
    by_cases r : H ≤ y + 1
    · have v1 : decide (H ≤ y + 1) = true := decide_eq_true r
      have HT3 : Hid (toC W H c 2 = -1) := by show _ = _; rw [HT2.out, if_pos r]
      go_enter Tryd.func72, Tryd.ntmps72
      go_wp2
      go_ret
      exact ⟨by rw [HT3.out]; rfl, rfl⟩
    · have v1 : decide (H ≤ y + 1) = false := decide_eq_false r
      have HT3 : Hid (toC W H c 2 = (y + 1) * W + x) := by show _ = _; rw [HT2.out, if_neg r]
      obtain ⟨p0, p1⟩ := HYW.out (y + 1) (by omega) (by omega)
      go_enter Tryd.func72, Tryd.ntmps72
      go_wp2
      go_ret
      exact ⟨by rw [HT3.out]; rfl, rfl⟩
  · have HT2 : Hid (toC W H c 3 = if x - 1 < 0 then -1 else y * W + (x - 1)) := HT.out
    have u5 : decide (W ≤ x - 1) = false := decide_eq_false (by omega)
    by_cases r : x - 1 < 0
    · have v1 : decide (x - 1 < 0) = true := decide_eq_true r
      have HT3 : Hid (toC W H c 3 = -1) := by show _ = _; rw [HT2.out, if_pos r]
      go_enter Tryd.func72, Tryd.ntmps72
      go_wp2
      go_ret
      exact ⟨by rw [HT3.out]; rfl, rfl⟩
    · have v1 : decide (x - 1 < 0) = false := decide_eq_false r
      have HT3 : Hid (toC W H c 3 = y * W + (x - 1)) := by show _ = _; rw [HT2.out, if_neg r]
      obtain ⟨p0, p1⟩ := HYW.out y (by omega) (by omega)
      go_enter Tryd.func72, Tryd.ntmps72
      go_wp2
      go_ret
      exact ⟨by rw [HT3.out]; rfl, rfl⟩
end Go.Proofs.YteicpjbeihabnaaDoor

namespace Go.Proofs.YteicpjbeihabnaaDoor
open Go.RowKit

theorem toC_lt {w h c : Int} (hw : 1 ≤ w) (hc0 : 0 ≤ c) (hc : c < w * h) (d : Nat) : toC w h c d < w * h := by
  obtain ⟨h1, h2, h3, h4⟩ := toC_div hw hc0 hc
  have e : c = w * (c / w) + c % w := (Int.mul_ediv_add_emod c w).symm
  have hp : 0 < w * h := by omega
  generalize c / w = y at *
  generalize c % w = x at *
  have ew : w * y = y * w := Int.mul_comm _ _
  have eh : w * h = h * w := Int.mul_comm _ _
  have m1 : (y + 1) * w ≤ h * w := Int.mul_le_mul_of_nonneg_right (by omega) (by omega)
  have e1 : (y + 1) * w = y * w + w := by rw [Int.add_mul, Int.one_mul]
  have e2 : (y - 1) * w = y * w - w := by rw [Int.sub_mul, Int.one_mul]
  have key : toC w h c d = (if d = 0 then (if y - 1 < 0 then -1 else (y - 1) * w + x) else if d = 1 then (if w ≤ x + 1 then -1 else y * w + (x + 1)) else if d = 2 then (if h ≤ y + 1 then -1 else (y + 1) * w + x) else (if x - 1 < 0 then -1 else y * w + (x - 1))) := by
    have ey : c / w = y := by rw [e, Int.add_comm, Int.add_mul_ediv_left _ _ (by omega), Int.ediv_eq_zero_of_lt h3 h4, Int.zero_add]
    have ex : c % w = x := by rw [e, Int.add_comm, Int.add_mul_emod_self_left, Int.emod_eq_of_lt h3 h4]
    unfold toC; rw [ey, ex]
  rw [key]
  split
  · split <;> omega
  · split
    · split <;> omega
    · split
      · split
        · omega
        · have m2 : (y + 1 + 1) * w ≤ h * w := Int.mul_le_mul_of_nonneg_right (by omega) (by omega)
          have e3 : (y + 1 + 1) * w = y * w + w + w := by rw [Int.add_mul, Int.one_mul, e1]
          omega
      · split <;> omega
end Go.Proofs.YteicpjbeihabnaaDoor

namespace Go.Proofs.YteicpjbeihabnaaDoor
open Go.RowKit

/-- A cell's distance and hop may stand, for the target at cell t. -/
def StepOk (W H t : Int) (D P : List Int) (c : Nat) : Prop :=
  if (c : Int) = t then D.getD c 0 = 0 ∧ P.getD c 0 = -1
  else if D.getD c 0 = -1 then P.getD c 0 = -1
  else 1 ≤ D.getD c 0 ∧ D.getD c 0 ≤ 65534 ∧ 0 ≤ P.getD c 0 ∧ P.getD c 0 ≤ 3 ∧ 0 ≤ toC W H c (P.getD c 0).toNat ∧
    0 ≤ D.getD (toC W H c (P.getD c 0).toNat).toNat 0 ∧ D.getD (toC W H c (P.getD c 0).toNat).toNat 0 < D.getD c 0
/-- A target's distances and hops may stand. -/
structure RowOk (W H t : Int) (D P : List Int) : Prop where
  dl : (D.length : Int) = W * H
  pl : (P.length : Int) = W * H
  each : ∀ c : Nat, (c : Int) < W * H → StepOk W H t D P c
end Go.Proofs.YteicpjbeihabnaaDoor
