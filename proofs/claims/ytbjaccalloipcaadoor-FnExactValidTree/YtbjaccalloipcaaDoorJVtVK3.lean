/-
  The walk of mayStand.
-/
import Derived.Test.YtbjaccalloipcaaDoorJVtVK2
namespace Go.Proofs.YtbjaccalloipcaaDoor
open Go.RowKit

/-- Whether a node of kind k may be the child i of one of kind p. -/
def mSt (p i k : Int) : Bool :=
  if p = 0 then k == 1 || isStat k else if p = 2 then isStat k else if p = 1 then k == 2 else if p = 5 ∧ i = 2 then k == 2
  else if p = 6 ∧ 0 < i then k == 2 || (i == 2 && k == 6) else isExpr k

set_option maxHeartbeats 2000000 in
set_option maxRecDepth 1000000 in
theorem mayStand_any (p i k : Int) (w : World) : Calls Tryd.prog 27 #[.int .i64 p, .int .i64 i, .int .i64 k] w fun e w' => e = .returned (.bool (mSt p i k)) ∧ w' = w := by
  have HE := hide (fun w => implExpr_any k w)
  have HS := hide (fun w => implStat_any k w)
  obtain ⟨E, hE⟩ : ∃ E, isExpr k = E := ⟨_, rfl⟩
  obtain ⟨S, hS⟩ : ∃ S, isStat k = S := ⟨_, rfl⟩
  simp only [hE] at HE
  simp only [hS] at HS
  by_cases p0 : p = 0
  · subst p0
    by_cases k1 : k = 1
    · have HM : Hid (mSt 0 i k = true) := by show _ = _; unfold mSt; rw [if_pos rfl, k1]; rfl
      have e1 : (k == 1) = true := by rw [beq_iff_eq]; exact k1
      clear k1
      go_enter Tryd.func27, Tryd.ntmps27
      go_wp2
      go_ret
      exact ⟨by rw [HM.out]; rfl, by trivial⟩
    · have e1 : (k == 1) = false := by rw [beq_eq_false_iff_ne]; exact k1
      have HM : Hid (mSt 0 i k = S) := by show _ = _; unfold mSt; rw [if_pos rfl, e1, hS]; rfl
      clear k1
      go_enter Tryd.func27, Tryd.ntmps27
      go_wp2_with (go_at_call 41; refine (HS.out _).mono ?_; rintro e w1 ⟨rfl, rfl⟩)
      go_ret
      exact ⟨by rw [HM.out]; rfl, by trivial⟩
  by_cases p2 : p = 2
  · subst p2
    have HM : Hid (mSt 2 i k = S) := by show _ = _; unfold mSt; rw [if_neg (by omega), if_pos rfl, hS]
    go_enter Tryd.func27, Tryd.ntmps27
    go_wp2_with (go_at_call 41; refine (HS.out _).mono ?_; rintro e w1 ⟨rfl, rfl⟩)
    go_ret
    exact ⟨by rw [HM.out]; rfl, by trivial⟩
  by_cases p1 : p = 1
  · subst p1
    have HM : Hid (mSt 1 i k = (k == 2)) := by show _ = _; unfold mSt; rw [if_neg (by omega), if_neg (by omega), if_pos rfl]
    go_enter Tryd.func27, Tryd.ntmps27
    go_wp2
    go_ret
    exact ⟨by rw [HM.out]; rfl, by trivial⟩
  by_cases p5 : p = 5
  · subst p5
    by_cases i2 : i = 2
    · subst i2
      have HM : Hid (mSt 5 2 k = (k == 2)) := by show _ = _; unfold mSt; rw [if_neg (by omega), if_neg (by omega), if_neg (by omega), if_pos ⟨rfl, rfl⟩]
      go_enter Tryd.func27, Tryd.ntmps27
      go_wp2
      go_ret
      exact ⟨by rw [HM.out]; rfl, by trivial⟩
    · have e1 : (i == 2) = false := by rw [beq_eq_false_iff_ne]; exact i2
      have HM : Hid (mSt 5 i k = E) := by show _ = _; unfold mSt; rw [if_neg (by omega), if_neg (by omega), if_neg (by omega), if_neg (by omega), if_neg (by omega), hE]
      clear i2
      go_enter Tryd.func27, Tryd.ntmps27
      go_wp2_with (go_at_call 42; refine (HE.out _).mono ?_; rintro e w1 ⟨rfl, rfl⟩)
      go_ret
      exact ⟨by rw [HM.out]; rfl, by trivial⟩
  by_cases p6 : p = 6
  · subst p6
    by_cases i0 : 0 < i
    · have d0 : decide ((0 : Int) < i) = true := decide_eq_true i0
      by_cases k2 : k = 2
      · have e1 : (k == 2) = true := by rw [beq_iff_eq]; exact k2
        have HM : Hid (mSt 6 i k = true) := by show _ = _; unfold mSt; rw [if_neg (by omega), if_neg (by omega), if_neg (by omega), if_neg (by omega), if_pos ⟨rfl, i0⟩, e1]; rfl
        clear k2
        go_enter Tryd.func27, Tryd.ntmps27
        go_wp2
        go_ret
        exact ⟨by rw [HM.out]; rfl, by trivial⟩
      · have e1 : (k == 2) = false := by rw [beq_eq_false_iff_ne]; exact k2
        by_cases i2 : i = 2
        · subst i2
          have HM : Hid (mSt 6 2 k = (k == 6)) := by show _ = _; unfold mSt; rw [if_neg (by omega), if_neg (by omega), if_neg (by omega), if_neg (by omega), if_pos ⟨rfl, i0⟩, e1]; rfl
          clear k2
          go_enter Tryd.func27, Tryd.ntmps27
          go_wp2
          go_ret
          exact ⟨by rw [HM.out]; rfl, by trivial⟩
        · have e2 : (i == 2) = false := by rw [beq_eq_false_iff_ne]; exact i2
          have HM : Hid (mSt 6 i k = false) := by show _ = _; unfold mSt; rw [if_neg (by omega), if_neg (by omega), if_neg (by omega), if_neg (by omega), if_pos ⟨rfl, i0⟩, e1, e2]; rfl
          clear k2 i2
          go_enter Tryd.func27, Tryd.ntmps27
          go_wp2
          go_ret
          exact ⟨by rw [HM.out]; rfl, by trivial⟩
    · have d0 : decide ((0 : Int) < i) = false := decide_eq_false i0
      have HM : Hid (mSt 6 i k = E) := by show _ = _; unfold mSt; rw [if_neg (by omega), if_neg (by omega), if_neg (by omega), if_neg (by omega), if_neg (by omega), hE]
      go_enter Tryd.func27, Tryd.ntmps27
      go_wp2_with (go_at_call 42; refine (HE.out _).mono ?_; rintro e w1 ⟨rfl, rfl⟩)
      go_ret
      exact ⟨by rw [HM.out]; rfl, by trivial⟩
  · have HM : Hid (mSt p i k = E) := by show _ = _; unfold mSt; rw [if_neg (by omega), if_neg (by omega), if_neg (by omega), if_neg (by omega), if_neg (by omega), hE]
    have n0 : (p == 0) = false := by rw [beq_eq_false_iff_ne]; omega
    have n1 : (p == 1) = false := by rw [beq_eq_false_iff_ne]; omega
    have n2 : (p == 2) = false := by rw [beq_eq_false_iff_ne]; omega
    have n5 : (p == 5) = false := by rw [beq_eq_false_iff_ne]; omega
    have n6 : (p == 6) = false := by rw [beq_eq_false_iff_ne]; omega
    clear p0 p1 p2 p5 p6
    go_enter Tryd.func27, Tryd.ntmps27
    go_wp2_with (go_at_call 42; refine (HE.out _).mono ?_; rintro e w1 ⟨rfl, rfl⟩)
    go_ret
    exact ⟨by rw [HM.out]; rfl, by trivial⟩
end Go.Proofs.YtbjaccalloipcaaDoor
