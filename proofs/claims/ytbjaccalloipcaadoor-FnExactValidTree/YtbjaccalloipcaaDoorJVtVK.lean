/-
  The walks of isStatement, isExpression, greatestN, validCount, mayStand, and of l2expr, l2stat.
-/
import Derived.Test.YtbjaccalloipcaaDoorJVtB0
namespace Go.Proofs.YtbjaccalloipcaaDoor
open Go.RowKit

def isStat (k : Int) : Bool := decide (3 ≤ k) && decide (k ≤ 15)
def isExpr (k : Int) : Bool := decide (16 ≤ k) && decide (k ≤ 22)

set_option maxHeartbeats 400000 in
set_option maxRecDepth 1000000 in
theorem implStat_any (k : Int) (w : World) : Calls Tryd.prog 41 #[.int .i64 k] w fun e w' => e = .returned (.bool (isStat k)) ∧ w' = w := by
  by_cases h : 3 ≤ k
  · have d1 : decide ((3 : Int) ≤ k) = true := decide_eq_true h
    have HS : Hid (isStat k = decide (k ≤ 15)) := by show _ = _; unfold isStat; rw [d1]; rfl
    go_enter Tryd.func41, Tryd.ntmps41
    go_wp2
    go_ret
    exact ⟨by rw [HS.out]; rfl, by trivial⟩
  · have d1 : decide ((3 : Int) ≤ k) = false := decide_eq_false h
    have HS : Hid (isStat k = false) := by show _ = _; unfold isStat; rw [d1]; rfl
    go_enter Tryd.func41, Tryd.ntmps41
    go_wp2
    go_ret
    exact ⟨by rw [HS.out]; rfl, by trivial⟩

set_option maxHeartbeats 400000 in
set_option maxRecDepth 1000000 in
theorem implExpr_any (k : Int) (w : World) : Calls Tryd.prog 42 #[.int .i64 k] w fun e w' => e = .returned (.bool (isExpr k)) ∧ w' = w := by
  by_cases h : 16 ≤ k
  · have d1 : decide ((16 : Int) ≤ k) = true := decide_eq_true h
    have HS : Hid (isExpr k = decide (k ≤ 22)) := by show _ = _; unfold isExpr; rw [d1]; rfl
    go_enter Tryd.func42, Tryd.ntmps42
    go_wp2
    go_ret
    exact ⟨by rw [HS.out]; rfl, by trivial⟩
  · have d1 : decide ((16 : Int) ≤ k) = false := decide_eq_false h
    have HS : Hid (isExpr k = false) := by show _ = _; unfold isExpr; rw [d1]; rfl
    go_enter Tryd.func42, Tryd.ntmps42
    go_wp2
    go_ret
    exact ⟨by rw [HS.out]; rfl, by trivial⟩

set_option maxHeartbeats 400000 in
set_option maxRecDepth 1000000 in
theorem specStat_any (k : Int) (w : World) : Calls Tryd.prog 36 #[.int .i64 k] w fun e w' => e = .returned (.bool (isStat k)) ∧ w' = w := by
  by_cases h : 3 ≤ k
  · have d1 : decide ((3 : Int) ≤ k) = true := decide_eq_true h
    have HS : Hid (isStat k = decide (k ≤ 15)) := by show _ = _; unfold isStat; rw [d1]; rfl
    go_enter Tryd.func36, Tryd.ntmps36
    go_wp2
    go_ret
    exact ⟨by rw [HS.out]; rfl, by trivial⟩
  · have d1 : decide ((3 : Int) ≤ k) = false := decide_eq_false h
    have HS : Hid (isStat k = false) := by show _ = _; unfold isStat; rw [d1]; rfl
    go_enter Tryd.func36, Tryd.ntmps36
    go_wp2
    go_ret
    exact ⟨by rw [HS.out]; rfl, by trivial⟩

set_option maxHeartbeats 400000 in
set_option maxRecDepth 1000000 in
theorem specExpr_any (k : Int) (w : World) : Calls Tryd.prog 35 #[.int .i64 k] w fun e w' => e = .returned (.bool (isExpr k)) ∧ w' = w := by
  by_cases h : 16 ≤ k
  · have d1 : decide ((16 : Int) ≤ k) = true := decide_eq_true h
    have HS : Hid (isExpr k = decide (k ≤ 22)) := by show _ = _; unfold isExpr; rw [d1]; rfl
    go_enter Tryd.func35, Tryd.ntmps35
    go_wp2
    go_ret
    exact ⟨by rw [HS.out]; rfl, by trivial⟩
  · have d1 : decide ((16 : Int) ≤ k) = false := decide_eq_false h
    have HS : Hid (isExpr k = false) := by show _ = _; unfold isExpr; rw [d1]; rfl
    go_enter Tryd.func35, Tryd.ntmps35
    go_wp2
    go_ret
    exact ⟨by rw [HS.out]; rfl, by trivial⟩

/-- The kinds of nodes, one by one. -/
theorem kinds (k : Int) : (k = 0 ∨ k = 1 ∨ k = 2 ∨ k = 3 ∨ k = 4 ∨ k = 5 ∨ k = 6 ∨ k = 7 ∨ k = 8 ∨ k = 9 ∨ k = 10 ∨ k = 11 ∨ k = 12 ∨ k = 13 ∨ k = 14 ∨ k = 15 ∨ k = 16 ∨ k = 17 ∨ k = 18 ∨ k = 19 ∨ k = 20 ∨ k = 21 ∨ k = 22) ∨ (k < 0 ∨ 22 < k) := by omega

/-- The greatest number that a node of a kind may bear. -/
def gN (k : Int) : Int := if k = 10 ∨ k = 11 ∨ k = 12 then 3 else if k = 16 then 99999 else if k = 18 then 1 else if k = 20 then 13 else 0
set_option maxHeartbeats 1000000 in
set_option maxRecDepth 1000000 in
theorem greatestN_any (k : Int) (w : World) : Calls Tryd.prog 37 #[.int .i64 k] w fun e w' => e = .returned (.int .i64 (gN k)) ∧ w' = w := by
  rcases kinds k with h | h
  · rcases h with rfl | rfl | rfl | rfl | rfl | rfl | rfl | rfl | rfl | rfl | rfl | rfl | rfl | rfl | rfl | rfl | rfl | rfl | rfl | rfl | rfl | rfl | rfl
    all_goals
      go_enter Tryd.func37, Tryd.ntmps37
      go_wp2
      go_ret
      exact ⟨rfl, by trivial⟩
  · have HS : Hid (gN k = 0) := by show _ = _; unfold gN; rw [if_neg (by omega), if_neg (by omega), if_neg (by omega), if_neg (by omega)]
    have e1 : (k == 10) = false := by rw [beq_eq_false_iff_ne]; omega
    have e2 : (k == 11) = false := by rw [beq_eq_false_iff_ne]; omega
    have e3 : (k == 12) = false := by rw [beq_eq_false_iff_ne]; omega
    have e4 : (k == 16) = false := by rw [beq_eq_false_iff_ne]; omega
    have e5 : (k == 18) = false := by rw [beq_eq_false_iff_ne]; omega
    have e6 : (k == 20) = false := by rw [beq_eq_false_iff_ne]; omega
    clear h
    go_enter Tryd.func37, Tryd.ntmps37
    go_wp2
    go_ret
    exact ⟨by rw [HS.out]; rfl, by trivial⟩
end Go.Proofs.YtbjaccalloipcaaDoor
