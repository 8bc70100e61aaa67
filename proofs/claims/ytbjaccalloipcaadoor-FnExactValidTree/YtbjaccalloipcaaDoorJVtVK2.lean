/-
  The walks of validCount, mayStand.
-/
import Derived.Test.YtbjaccalloipcaaDoorJVtVK
namespace Go.Proofs.YtbjaccalloipcaaDoor
open Go.RowKit

/-- How many children a node of a kind may have. -/
def vCnt (k c : Int) : Bool :=
  if k = 0 ∨ k = 2 then decide (0 ≤ c) else if k = 1 ∨ k = 3 ∨ k = 21 ∨ k = 22 then c == 1 else if k = 4 then decide (0 ≤ c) && decide (c ≤ 10)
  else if k = 5 ∨ k = 14 ∨ k = 15 then c == 3 else if k = 6 then c == 2 || c == 3 else if k = 7 ∨ k = 11 ∨ k = 12 ∨ k = 20 then c == 2
  else if k = 8 ∨ k = 9 ∨ k = 10 then c == 2 || c == 4 else if k = 13 then c == 3 || c == 5 else if k = 16 ∨ k = 17 ∨ k = 18 ∨ k = 19 then c == 0 else false

theorem vCnt_none (k c : Int) (h : k < 0 ∨ 22 < k) : vCnt k c = false := by
  unfold vCnt
  rw [if_neg (by omega), if_neg (by omega), if_neg (by omega), if_neg (by omega), if_neg (by omega), if_neg (by omega), if_neg (by omega), if_neg (by omega), if_neg (by omega)]

set_option maxHeartbeats 4000000 in
set_option maxRecDepth 1000000 in
theorem validCount_any (k c : Int) (w : World) : Calls Tryd.prog 26 #[.int .i64 k, .int .i64 c] w fun e w' => e = .returned (.bool (vCnt k c)) ∧ w' = w := by
  have hc : c = 2 ∨ c = 3 ∨ (c ≠ 2 ∧ c ≠ 3 ∧ 0 ≤ c) ∨ (c ≠ 2 ∧ c ≠ 3 ∧ c < 0) := by omega
  rcases hc with rfl | rfl | ⟨h1, h2, h3⟩ | ⟨h1, h2, h3⟩
  · rcases kinds k with h | h
    · rcases h with rfl | rfl | rfl | rfl | rfl | rfl | rfl | rfl | rfl | rfl | rfl | rfl | rfl | rfl | rfl | rfl | rfl | rfl | rfl | rfl | rfl | rfl | rfl
      all_goals
        go_enter Tryd.func26, Tryd.ntmps26
        go_wp2
        go_ret
        exact ⟨by rfl, by trivial⟩
    · have HF : Hid (vCnt k 2 = false) := vCnt_none k _ h
      have n0 : (k == 0) = false := by rw [beq_eq_false_iff_ne]; omega
      have n1 : (k == 1) = false := by rw [beq_eq_false_iff_ne]; omega
      have n2 : (k == 2) = false := by rw [beq_eq_false_iff_ne]; omega
      have n3 : (k == 3) = false := by rw [beq_eq_false_iff_ne]; omega
      have n4 : (k == 4) = false := by rw [beq_eq_false_iff_ne]; omega
      have n5 : (k == 5) = false := by rw [beq_eq_false_iff_ne]; omega
      have n6 : (k == 6) = false := by rw [beq_eq_false_iff_ne]; omega
      have n7 : (k == 7) = false := by rw [beq_eq_false_iff_ne]; omega
      have n8 : (k == 8) = false := by rw [beq_eq_false_iff_ne]; omega
      have n9 : (k == 9) = false := by rw [beq_eq_false_iff_ne]; omega
      have n10 : (k == 10) = false := by rw [beq_eq_false_iff_ne]; omega
      have n11 : (k == 11) = false := by rw [beq_eq_false_iff_ne]; omega
      have n12 : (k == 12) = false := by rw [beq_eq_false_iff_ne]; omega
      have n13 : (k == 13) = false := by rw [beq_eq_false_iff_ne]; omega
      have n14 : (k == 14) = false := by rw [beq_eq_false_iff_ne]; omega
      have n15 : (k == 15) = false := by rw [beq_eq_false_iff_ne]; omega
      have n16 : (k == 16) = false := by rw [beq_eq_false_iff_ne]; omega
      have n17 : (k == 17) = false := by rw [beq_eq_false_iff_ne]; omega
      have n18 : (k == 18) = false := by rw [beq_eq_false_iff_ne]; omega
      have n19 : (k == 19) = false := by rw [beq_eq_false_iff_ne]; omega
      have n20 : (k == 20) = false := by rw [beq_eq_false_iff_ne]; omega
      have n21 : (k == 21) = false := by rw [beq_eq_false_iff_ne]; omega
      have n22 : (k == 22) = false := by rw [beq_eq_false_iff_ne]; omega
      clear h
      go_enter Tryd.func26, Tryd.ntmps26
      go_wp2
      go_ret
      exact ⟨by rw [HF.out]; rfl, by trivial⟩
  · rcases kinds k with h | h
    · rcases h with rfl | rfl | rfl | rfl | rfl | rfl | rfl | rfl | rfl | rfl | rfl | rfl | rfl | rfl | rfl | rfl | rfl | rfl | rfl | rfl | rfl | rfl | rfl
      all_goals
        go_enter Tryd.func26, Tryd.ntmps26
        go_wp2
        go_ret
        exact ⟨by rfl, by trivial⟩
    · have HF : Hid (vCnt k 3 = false) := vCnt_none k _ h
      have n0 : (k == 0) = false := by rw [beq_eq_false_iff_ne]; omega
      have n1 : (k == 1) = false := by rw [beq_eq_false_iff_ne]; omega
      have n2 : (k == 2) = false := by rw [beq_eq_false_iff_ne]; omega
      have n3 : (k == 3) = false := by rw [beq_eq_false_iff_ne]; omega
      have n4 : (k == 4) = false := by rw [beq_eq_false_iff_ne]; omega
      have n5 : (k == 5) = false := by rw [beq_eq_false_iff_ne]; omega
      have n6 : (k == 6) = false := by rw [beq_eq_false_iff_ne]; omega
      have n7 : (k == 7) = false := by rw [beq_eq_false_iff_ne]; omega
      have n8 : (k == 8) = false := by rw [beq_eq_false_iff_ne]; omega
      have n9 : (k == 9) = false := by rw [beq_eq_false_iff_ne]; omega
      have n10 : (k == 10) = false := by rw [beq_eq_false_iff_ne]; omega
      have n11 : (k == 11) = false := by rw [beq_eq_false_iff_ne]; omega
      have n12 : (k == 12) = false := by rw [beq_eq_false_iff_ne]; omega
      have n13 : (k == 13) = false := by rw [beq_eq_false_iff_ne]; omega
      have n14 : (k == 14) = false := by rw [beq_eq_false_iff_ne]; omega
      have n15 : (k == 15) = false := by rw [beq_eq_false_iff_ne]; omega
      have n16 : (k == 16) = false := by rw [beq_eq_false_iff_ne]; omega
      have n17 : (k == 17) = false := by rw [beq_eq_false_iff_ne]; omega
      have n18 : (k == 18) = false := by rw [beq_eq_false_iff_ne]; omega
      have n19 : (k == 19) = false := by rw [beq_eq_false_iff_ne]; omega
      have n20 : (k == 20) = false := by rw [beq_eq_false_iff_ne]; omega
      have n21 : (k == 21) = false := by rw [beq_eq_false_iff_ne]; omega
      have n22 : (k == 22) = false := by rw [beq_eq_false_iff_ne]; omega
      clear h
      go_enter Tryd.func26, Tryd.ntmps26
      go_wp2
      go_ret
      exact ⟨by rw [HF.out]; rfl, by trivial⟩
  · have e1 : (c == 2) = false := by rw [beq_eq_false_iff_ne]; exact h1
    have e2 : (c == 3) = false := by rw [beq_eq_false_iff_ne]; exact h2
    have e3 : decide ((0 : Int) ≤ c) = true := decide_eq_true h3
    have HV := hide (show vCnt k c = _ by unfold vCnt; simp only [e1, e2, e3, Bool.false_or, Bool.true_and]; rfl)
    clear h1 h2 h3
    rcases kinds k with h | h
    · rcases h with rfl | rfl | rfl | rfl | rfl | rfl | rfl | rfl | rfl | rfl | rfl | rfl | rfl | rfl | rfl | rfl | rfl | rfl | rfl | rfl | rfl | rfl | rfl
      all_goals
        go_enter Tryd.func26, Tryd.ntmps26
        go_wp2
        go_ret
        exact ⟨by rw [HV.out]; rfl, by trivial⟩
    · have HF : Hid (vCnt k c = false) := vCnt_none k _ h
      have n0 : (k == 0) = false := by rw [beq_eq_false_iff_ne]; omega
      have n1 : (k == 1) = false := by rw [beq_eq_false_iff_ne]; omega
      have n2 : (k == 2) = false := by rw [beq_eq_false_iff_ne]; omega
      have n3 : (k == 3) = false := by rw [beq_eq_false_iff_ne]; omega
      have n4 : (k == 4) = false := by rw [beq_eq_false_iff_ne]; omega
      have n5 : (k == 5) = false := by rw [beq_eq_false_iff_ne]; omega
      have n6 : (k == 6) = false := by rw [beq_eq_false_iff_ne]; omega
      have n7 : (k == 7) = false := by rw [beq_eq_false_iff_ne]; omega
      have n8 : (k == 8) = false := by rw [beq_eq_false_iff_ne]; omega
      have n9 : (k == 9) = false := by rw [beq_eq_false_iff_ne]; omega
      have n10 : (k == 10) = false := by rw [beq_eq_false_iff_ne]; omega
      have n11 : (k == 11) = false := by rw [beq_eq_false_iff_ne]; omega
      have n12 : (k == 12) = false := by rw [beq_eq_false_iff_ne]; omega
      have n13 : (k == 13) = false := by rw [beq_eq_false_iff_ne]; omega
      have n14 : (k == 14) = false := by rw [beq_eq_false_iff_ne]; omega
      have n15 : (k == 15) = false := by rw [beq_eq_false_iff_ne]; omega
      have n16 : (k == 16) = false := by rw [beq_eq_false_iff_ne]; omega
      have n17 : (k == 17) = false := by rw [beq_eq_false_iff_ne]; omega
      have n18 : (k == 18) = false := by rw [beq_eq_false_iff_ne]; omega
      have n19 : (k == 19) = false := by rw [beq_eq_false_iff_ne]; omega
      have n20 : (k == 20) = false := by rw [beq_eq_false_iff_ne]; omega
      have n21 : (k == 21) = false := by rw [beq_eq_false_iff_ne]; omega
      have n22 : (k == 22) = false := by rw [beq_eq_false_iff_ne]; omega
      clear h
      go_enter Tryd.func26, Tryd.ntmps26
      go_wp2
      go_ret
      exact ⟨by rw [HF.out]; rfl, by trivial⟩
  · have e1 : (c == 2) = false := by rw [beq_eq_false_iff_ne]; exact h1
    have e2 : (c == 3) = false := by rw [beq_eq_false_iff_ne]; exact h2
    have e3 : decide ((0 : Int) ≤ c) = false := decide_eq_false (by omega)
    have HV := hide (show vCnt k c = _ by unfold vCnt; simp only [e1, e2, e3, Bool.false_or, Bool.false_and]; rfl)
    clear h1 h2 h3
    rcases kinds k with h | h
    · rcases h with rfl | rfl | rfl | rfl | rfl | rfl | rfl | rfl | rfl | rfl | rfl | rfl | rfl | rfl | rfl | rfl | rfl | rfl | rfl | rfl | rfl | rfl | rfl
      all_goals
        go_enter Tryd.func26, Tryd.ntmps26
        go_wp2
        go_ret
        exact ⟨by rw [HV.out]; rfl, by trivial⟩
    · have HF : Hid (vCnt k c = false) := vCnt_none k _ h
      have n0 : (k == 0) = false := by rw [beq_eq_false_iff_ne]; omega
      have n1 : (k == 1) = false := by rw [beq_eq_false_iff_ne]; omega
      have n2 : (k == 2) = false := by rw [beq_eq_false_iff_ne]; omega
      have n3 : (k == 3) = false := by rw [beq_eq_false_iff_ne]; omega
      have n4 : (k == 4) = false := by rw [beq_eq_false_iff_ne]; omega
      have n5 : (k == 5) = false := by rw [beq_eq_false_iff_ne]; omega
      have n6 : (k == 6) = false := by rw [beq_eq_false_iff_ne]; omega
      have n7 : (k == 7) = false := by rw [beq_eq_false_iff_ne]; omega
      have n8 : (k == 8) = false := by rw [beq_eq_false_iff_ne]; omega
      have n9 : (k == 9) = false := by rw [beq_eq_false_iff_ne]; omega
      have n10 : (k == 10) = false := by rw [beq_eq_false_iff_ne]; omega
      have n11 : (k == 11) = false := by rw [beq_eq_false_iff_ne]; omega
      have n12 : (k == 12) = false := by rw [beq_eq_false_iff_ne]; omega
      have n13 : (k == 13) = false := by rw [beq_eq_false_iff_ne]; omega
      have n14 : (k == 14) = false := by rw [beq_eq_false_iff_ne]; omega
      have n15 : (k == 15) = false := by rw [beq_eq_false_iff_ne]; omega
      have n16 : (k == 16) = false := by rw [beq_eq_false_iff_ne]; omega
      have n17 : (k == 17) = false := by rw [beq_eq_false_iff_ne]; omega
      have n18 : (k == 18) = false := by rw [beq_eq_false_iff_ne]; omega
      have n19 : (k == 19) = false := by rw [beq_eq_false_iff_ne]; omega
      have n20 : (k == 20) = false := by rw [beq_eq_false_iff_ne]; omega
      have n21 : (k == 21) = false := by rw [beq_eq_false_iff_ne]; omega
      have n22 : (k == 22) = false := by rw [beq_eq_false_iff_ne]; omega
      clear h
      go_enter Tryd.func26, Tryd.ntmps26
      go_wp2
      go_ret
      exact ⟨by rw [HF.out]; rfl, by trivial⟩
end Go.Proofs.YtbjaccalloipcaaDoor
