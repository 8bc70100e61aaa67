/-
  The walks of l4to, l4bits.
-/
import Derived.Test.YtpnocklldlacjaaDoorJNearestIN0
namespace Go.Proofs.YtpnocklldlacjaaDoor
open Go.RowKit

/-- The cell to which a way leads, or -1 (l4to). -/
def toC (w h c : Int) (d : Nat) : Int :=
  if d = 0 then (if c / w - 1 < 0 then -1 else (c / w - 1) * w + c % w)
  else if d = 1 then (if w ≤ c % w + 1 then -1 else c / w * w + (c % w + 1))
  else if d = 2 then (if h ≤ c / w + 1 then -1 else (c / w + 1) * w + c % w)
  else (if c % w - 1 < 0 then -1 else c / w * w + (c % w - 1))

theorem toC_div {w h c : Int} (hw : 1 ≤ w) (hc0 : 0 ≤ c) (hc : c < w * h) : 0 ≤ c / w ∧ c / w < h ∧ 0 ≤ c % w ∧ c % w < w := by
  refine ⟨Int.ediv_nonneg hc0 (by omega), Int.ediv_lt_of_lt_mul (by omega) (by rw [Int.mul_comm]; exact hc), Int.emod_nonneg _ (by omega), Int.emod_lt_of_pos _ (by omega)⟩

set_option maxHeartbeats 1000000 in
set_option maxRecDepth 1000000 in
theorem l4to_any (W H c : Int) (d : Nat) (w : World) (hw0 : 1 ≤ W) (hw1 : W ≤ 40) (hh0 : 1 ≤ H) (hh1 : H ≤ 40) (hc0 : 0 ≤ c) (hc1 : c < W * H) (hd : d < 4) :
    Calls Tryd.prog 53 #[.int .i64 W, .int .i64 H, .int .i64 c, .int .i64 d] w fun e w' => e = .returned (.int .i64 (toC W H c d)) ∧ w' = w := by
  obtain ⟨hy0, hy1, hx0, hx1⟩ := toC_div hw0 hc0 hc1
  have hdm : c.tdiv W = c / W := Int.tdiv_eq_ediv_of_nonneg hc0
  have hmm : c.tmod W = c % W := Int.tmod_eq_emod_of_nonneg hc0
  have hWne : (W == 0) = false := by rw [beq_eq_false_iff_ne]; omega
  have hcb : c ≤ 1600 := by
    have : W * H ≤ 40 * 40 := Int.mul_le_mul hw1 hh1 (by omega) (by omega)
    omega
  obtain ⟨x, hx⟩ : ∃ x, c % W = x := ⟨_, rfl⟩
  obtain ⟨y, hy⟩ : ∃ y, c / W = y := ⟨_, rfl⟩
  have HT : Hid (toC W H c d = if d = 0 then (if y - 1 < 0 then -1 else (y - 1) * W + x) else if d = 1 then (if W ≤ x + 1 then -1 else y * W + (x + 1)) else if d = 2 then (if H ≤ y + 1 then -1 else (y + 1) * W + x) else (if x - 1 < 0 then -1 else y * W + (x - 1))) := by
    show _ = _; unfold toC; rw [hx, hy]
  have hy1' : y < H := by rw [← hy]; exact hy1
  have hy0' : 0 ≤ y := by rw [← hy]; exact hy0
  have hx1' : x < W := by rw [← hx]; exact hx1
  have hx0' : 0 ≤ x := by rw [← hx]; exact hx0
  have hyW : ∀ z, 0 ≤ z → z ≤ 40 → 0 ≤ z * W ∧ z * W ≤ 1600 := fun z h0 h1 => ⟨Int.mul_nonneg h0 (by omega), by
    have := Int.mul_le_mul h1 hw1 (by omega) (by omega); omega⟩
  have HYW := hide hyW
  rw [hx] at hmm
  rw [hy] at hdm
  clear hyW hx hy hy0 hy1 hx0 hx1
  have hd4 : d = 0 ∨ d = 1 ∨ d = 2 ∨ d = 3 := by omega
  have u1 : decide (x < 0) = false := decide_eq_false (by omega)
  have u2 : decide (W ≤ x) = false := decide_eq_false (by omega)
  have u3 : decide (y < 0) = false := decide_eq_false (by omega)
  have u4 : decide (H ≤ y) = false := decide_eq_false (by omega)
  rcases hd4 with rfl | rfl | rfl | rfl
  · have HT2 : Hid (toC W H c 0 = if y - 1 < 0 then -1 else (y - 1) * W + x) := HT.out
    by_cases r : y - 1 < 0
    · have v1 : decide (y - 1 < 0) = true := decide_eq_true r
      have HT3 : Hid (toC W H c 0 = -1) := by show _ = _; rw [HT2.out, if_pos r]
      go_enter Tryd.func53, Tryd.ntmps53
      go_wp2
      go_ret
      exact ⟨by rw [HT3.out]; rfl, rfl⟩
    · have v1 : decide (y - 1 < 0) = false := decide_eq_false r
      have v2 : decide (H ≤ y - 1) = false := decide_eq_false (by omega)
      have HT3 : Hid (toC W H c 0 = (y - 1) * W + x) := by show _ = _; rw [HT2.out, if_neg r]
      obtain ⟨p0, p1⟩ := HYW.out (y - 1) (by omega) (by omega)
      go_enter Tryd.func53, Tryd.ntmps53
      go_wp2
      go_ret
      exact ⟨by rw [HT3.out]; rfl, rfl⟩
  · have HT2 : Hid (toC W H c 1 = if W ≤ x + 1 then -1 else y * W + (x + 1)) := HT.out
    have u5 : decide (x + 1 < 0) = false := decide_eq_false (by omega)
    by_cases r : W ≤ x + 1
    · have v1 : decide (W ≤ x + 1) = true := decide_eq_true r
      have HT3 : Hid (toC W H c 1 = -1) := by show _ = _; rw [HT2.out, if_pos r]
      go_enter Tryd.func53, Tryd.ntmps53
      go_wp2
      go_ret
      exact ⟨by rw [HT3.out]; rfl, rfl⟩
    · have v1 : decide (W ≤ x + 1) = false := decide_eq_false r
      have HT3 : Hid (toC W H c 1 = y * W + (x + 1)) := by show _ = _; rw [HT2.out, if_neg r]
      obtain ⟨p0, p1⟩ := HYW.out y (by omega) (by omega)
      go_enter Tryd.func53, Tryd.ntmps53
      go_wp2
      go_ret
      exact ⟨by rw [HT3.out]; rfl, rfl⟩
  · have HT2 : Hid (toC W H c 2 = if H ≤ y + 1 then -1 else (y + 1) * W + x) := HT.out
    have u5 : decide (y + 1 < 0) = false := decide_eq_false (by omega)
    by_cases r : H ≤ y + 1
    · have v1 : decide (H ≤ y + 1) = true := decide_eq_true r
      have HT3 : Hid (toC W H c 2 = -1) := by show _ = _; rw [HT2.out, if_pos r]
      go_enter Tryd.func53, Tryd.ntmps53
      go_wp2
      go_ret
      exact ⟨by rw [HT3.out]; rfl, rfl⟩
    · have v1 : decide (H ≤ y + 1) = false := decide_eq_false r
      have HT3 : Hid (toC W H c 2 = (y + 1) * W + x) := by show _ = _; rw [HT2.out, if_neg r]
      obtain ⟨p0, p1⟩ := HYW.out (y + 1) (by omega) (by omega)
      go_enter Tryd.func53, Tryd.ntmps53
      go_wp2
      go_ret
      exact ⟨by rw [HT3.out]; rfl, rfl⟩
  · have HT2 : Hid (toC W H c 3 = if x - 1 < 0 then -1 else y * W + (x - 1)) := HT.out
    have u5 : decide (W ≤ x - 1) = false := decide_eq_false (by omega)
    by_cases r : x - 1 < 0
    · have v1 : decide (x - 1 < 0) = true := decide_eq_true r
      have HT3 : Hid (toC W H c 3 = -1) := by show _ = _; rw [HT2.out, if_pos r]
      go_enter Tryd.func53, Tryd.ntmps53
      go_wp2
      go_ret
      exact ⟨by rw [HT3.out]; rfl, rfl⟩
    · have v1 : decide (x - 1 < 0) = false := decide_eq_false r
      have HT3 : Hid (toC W H c 3 = y * W + (x - 1)) := by show _ = _; rw [HT2.out, if_neg r]
      obtain ⟨p0, p1⟩ := HYW.out y (by omega) (by omega)
      go_enter Tryd.func53, Tryd.ntmps53
      go_wp2
      go_ret
      exact ⟨by rw [HT3.out]; rfl, rfl⟩
end Go.Proofs.YtpnocklldlacjaaDoor
