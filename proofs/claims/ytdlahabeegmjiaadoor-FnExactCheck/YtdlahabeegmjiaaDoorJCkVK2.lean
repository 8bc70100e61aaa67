/-
  The walks of validCount, mayStand.
  The walk of mayStand.
  The walk of l2end.
-/
import Derived.Test.YtdlahabeegmjiaaDoorJCkIN1
import Derived.Test.YtdlahabeegmjiaaDoorJCkND4
import Derived.Test.YtdlahabeegmjiaaDoorJCkND0
namespace Go.Proofs.YtdlahabeegmjiaaDoor
open Go.RowKit

/-- How many children a node of a kind may have. -/
def vCnt (k c : Int) : Bool :=
  if k = 0 ∨ k = 2 then decide (0 ≤ c) else if k = 1 ∨ k = 3 ∨ k = 21 ∨ k = 22 then c == 1 else if k = 4 then decide (0 ≤ c) && decide (c ≤ 10)
  else if k = 5 ∨ k = 14 ∨ k = 15 then c == 3 else if k = 6 then c == 2 || c == 3 else if k = 7 ∨ k = 11 ∨ k = 12 ∨ k = 20 then c == 2
  else if k = 8 ∨ k = 9 ∨ k = 10 then c == 2 || c == 4 else if k = 13 then c == 3 || c == 5 else if k = 16 ∨ k = 17 ∨ k = 18 ∨ k = 19 then c == 0 else false

theorem vCnt_none (k c : Int) (h : k < 0 ∨ 22 < k) : vCnt k c = false := by
  unfold vCnt
  rw [if_neg (by omega), if_neg (by omega), if_neg (by omega), if_neg (by omega), if_neg (by omega), if_neg (by omega), if_neg (by omega), if_neg (by omega), if_neg (by omega)]

set_option maxHeartbeats 4000000 in
set_option maxRecDepth 1000000 in
theorem validCount_any (k c : Int) (w : World) : Calls Tryd.prog 48 #[.int .i64 k, .int .i64 c] w fun e w' => e = .returned (.bool (vCnt k c)) ∧ w' = w := by
  have hc : c = 2 ∨ c = 3 ∨ (c ≠ 2 ∧ c ≠ 3 ∧ 0 ≤ c) ∨ (c ≠ 2 ∧ c ≠ 3 ∧ c < 0) := by omega
  rcases hc with rfl | rfl | ⟨h1, h2, h3⟩ | ⟨h1, h2, h3⟩
  · rcases kinds k with h | h
    · rcases h with rfl | rfl | rfl | rfl | rfl | rfl | rfl | rfl | rfl | rfl | rfl | rfl | rfl | rfl | rfl | rfl | rfl | rfl | rfl | rfl | rfl | rfl | rfl
      all_goals
        go_enter Tryd.func48, Tryd.ntmps48
        go_wp2
        go_ret
        exact ⟨by rfl, by trivial⟩
    · have HF : Hid (vCnt k 2 = false) := vCnt_none k _ h
      have n0 : (k == 0) = false := by rw [beq_eq_false_iff_ne]; omega
      have n1 : (k == 1) = false := by rw [beq_eq_false_iff_ne]; omega
      have n2 : (k == 2) = false := by rw [beq_eq_false_iff_ne]; omega
      have n3 : (k == 3) = false := by rw [beq_eq_false_iff_ne]; omega
      have n4 : (k == 4) = false := by rw [beq_eq_false_iff_ne]; omega
      have n5 : (k == 5) = false := by rw [beq_eq_false_iff_ne]; omega
      have n6 : (k == 6) = false := by rw [beq_eq_false_iff_ne]; omega
      have n7 : (k == 7) = false := by rw [beq_eq_false_iff_ne]; omega
      have n8 : (k == 8) = false := by rw [beq_eq_false_iff_ne]; omega
      have n9 : (k == 9) = false := by rw [beq_eq_false_iff_ne]; omega
      have n10 : (k == 10) = false := by rw [beq_eq_false_iff_ne]; omega
      have n11 : (k == 11) = false := by rw [beq_eq_false_iff_ne]; omega
      have n12 : (k == 12) = false := by rw [beq_eq_false_iff_ne]; omega
      have n13 : (k == 13) = false := by rw [beq_eq_false_iff_ne]; omega
      have n14 : (k == 14) = false := by rw [beq_eq_false_iff_ne]; omega
      have n15 : (k == 15) = false := by rw [beq_eq_false_iff_ne]; omega
      have n16 : (k == 16) = false := by rw [beq_eq_false_iff_ne]; omega
      have n17 : (k == 17) = false := by rw [beq_eq_false_iff_ne]; omega
      have n18 : (k == 18) = false := by rw [beq_eq_false_iff_ne]; omega
      have n19 : (k == 19) = false := by rw [beq_eq_false_iff_ne]; omega
      have n20 : (k == 20) = false := by rw [beq_eq_false_iff_ne]; omega
      have n21 : (k == 21) = false := by rw [beq_eq_false_iff_ne]; omega
      have n22 : (k == 22) = false := by rw [beq_eq_false_iff_ne]; omega
      clear h
      go_enter Tryd.func48, Tryd.ntmps48
      go_wp2
      go_ret
      exact ⟨by rw [HF.out]; rfl, by trivial⟩
  · rcases kinds k with h | h
    · rcases h with rfl | rfl | rfl | rfl | rfl | rfl | rfl | rfl | rfl | rfl | rfl | rfl | rfl | rfl | rfl | rfl | rfl | rfl | rfl | rfl | rfl | rfl | rfl
      all_goals
        go_enter Tryd.func48, Tryd.ntmps48
        go_wp2
        go_ret
        exact ⟨by rfl, by trivial⟩
    · have HF : Hid (vCnt k 3 = false) := vCnt_none k _ h
      have n0 : (k == 0) = false := by rw [beq_eq_false_iff_ne]; omega
      have n1 : (k == 1) = false := by rw [beq_eq_false_iff_ne]; omega
      have n2 : (k == 2) = false := by rw [beq_eq_false_iff_ne]; omega
      have n3 : (k == 3) = false := by rw [beq_eq_false_iff_ne]; omega
      have n4 : (k == 4) = false := by rw [beq_eq_false_iff_ne]; omega
      have n5 : (k == 5) = false := by rw [beq_eq_false_iff_ne]; omega
      have n6 : (k == 6) = false := by rw [beq_eq_false_iff_ne]; omega
      have n7 : (k == 7) = false := by rw [beq_eq_false_iff_ne]; omega
      have n8 : (k == 8) = false := by rw [beq_eq_false_iff_ne]; omega
      have n9 : (k == 9) = false := by rw [beq_eq_false_iff_ne]; omega
      have n10 : (k == 10) = false := by rw [beq_eq_false_iff_ne]; omega
      have n11 : (k == 11) = false := by rw [beq_eq_false_iff_ne]; omega
      have n12 : (k == 12) = false := by rw [beq_eq_false_iff_ne]; omega
      have n13 : (k == 13) = false := by rw [beq_eq_false_iff_ne]; omega
      have n14 : (k == 14) = false := by rw [beq_eq_false_iff_ne]; omega
      have n15 : (k == 15) = false := by rw [beq_eq_false_iff_ne]; omega
      have n16 : (k == 16) = false := by rw [beq_eq_false_iff_ne]; omega
      have n17 : (k == 17) = false := by rw [beq_eq_false_iff_ne]; omega
      have n18 : (k == 18) = false := by rw [beq_eq_false_iff_ne]; omega
      have n19 : (k == 19) = false := by rw [beq_eq_false_iff_ne]; omega
      have n20 : (k == 20) = false := by rw [beq_eq_false_iff_ne]; omega
      have n21 : (k == 21) = false := by rw [beq_eq_false_iff_ne]; omega
      have n22 : (k == 22) = false := by rw [beq_eq_false_iff_ne]; omega
      clear h
      go_enter Tryd.func48, Tryd.ntmps48
      go_wp2
      go_ret
      exact ⟨by rw [HF.out]; rfl, by trivial⟩
  · have e1 : (c == 2) = false := by rw [beq_eq_false_iff_ne]; exact h1
    have e2 : (c == 3) = false := by rw [beq_eq_false_iff_ne]; exact h2
    have e3 : decide ((0 : Int) ≤ c) = true := decide_eq_true h3
    have HV := hide (show vCnt k c = _ by unfold vCnt; simp only [e1, e2, e3, Bool.false_or, Bool.true_and]; rfl)
    clear h1 h2 h3
    rcases kinds k with h | h
    · rcases h with rfl | rfl | rfl | rfl | rfl | rfl | rfl | rfl | rfl | rfl | rfl | rfl | rfl | rfl | rfl | rfl | rfl | rfl | rfl | rfl | rfl | rfl | rfl
      all_goals
        go_enter Tryd.func48, Tryd.ntmps48
        go_wp2
        go_ret
        exact ⟨by rw [HV.out]; rfl, by trivial⟩
    · have HF : Hid (vCnt k c = false) := vCnt_none k _ h
      have n0 : (k == 0) = false := by rw [beq_eq_false_iff_ne]; omega
      have n1 : (k == 1) = false := by rw [beq_eq_false_iff_ne]; omega
      have n2 : (k == 2) = false := by rw [beq_eq_false_iff_ne]; omega
      have n3 : (k == 3) = false := by rw [beq_eq_false_iff_ne]; omega
      have n4 : (k == 4) = false := by rw [beq_eq_false_iff_ne]; omega
      have n5 : (k == 5) = false := by rw [beq_eq_false_iff_ne]; omega
      have n6 : (k == 6) = false := by rw [beq_eq_false_iff_ne]; omega
      have n7 : (k == 7) = false := by rw [beq_eq_false_iff_ne]; omega
      have n8 : (k == 8) = false := by rw [beq_eq_false_iff_ne]; omega
      have n9 : (k == 9) = false := by rw [beq_eq_false_iff_ne]; omega
      have n10 : (k == 10) = false := by rw [beq_eq_false_iff_ne]; omega
      have n11 : (k == 11) = false := by rw [beq_eq_false_iff_ne]; omega
      have n12 : (k == 12) = false := by rw [beq_eq_false_iff_ne]; omega
      have n13 : (k == 13) = false := by rw [beq_eq_false_iff_ne]; omega
      have n14 : (k == 14) = false := by rw [beq_eq_false_iff_ne]; omega
      have n15 : (k == 15) = false := by rw [beq_eq_false_iff_ne]; omega
      have n16 : (k == 16) = false := by rw [beq_eq_false_iff_ne]; omega
      have n17 : (k == 17) = false := by rw [beq_eq_false_iff_ne]; omega
      have n18 : (k == 18) = false := by rw [beq_eq_false_iff_ne]; omega
      have n19 : (k == 19) = false := by rw [beq_eq_false_iff_ne]; omega
      have n20 : (k == 20) = false := by rw [beq_eq_false_iff_ne]; omega
      have n21 : (k == 21) = false := by rw [beq_eq_false_iff_ne]; omega
      have n22 : (k == 22) = false := by rw [beq_eq_false_iff_ne]; omega
      clear h
      go_enter Tryd.func48, Tryd.ntmps48
      go_wp2
      go_ret
      exact ⟨by rw [HF.out]; rfl, by trivial⟩
  · have e1 : (c == 2) = false := by rw [beq_eq_false_iff_ne]; exact h1
    have e2 : (c == 3) = false := by rw [beq_eq_false_iff_ne]; exact h2
    have e3 : decide ((0 : Int) ≤ c) = false := decide_eq_false (by omega)
    have HV := hide (show vCnt k c = _ by unfold vCnt; simp only [e1, e2, e3, Bool.false_or, Bool.false_and]; rfl)
    clear h1 h2 h3
    rcases kinds k with h | h
    · rcases h with rfl | rfl | rfl | rfl | rfl | rfl | rfl | rfl | rfl | rfl | rfl | rfl | rfl | rfl | rfl | rfl | rfl | rfl | rfl | rfl | rfl | rfl | rfl
      all_goals
        go_enter Tryd.func48, Tryd.ntmps48
        go_wp2
        go_ret
        exact ⟨by rw [HV.out]; rfl, by trivial⟩
    · have HF : Hid (vCnt k c = false) := vCnt_none k _ h
      have n0 : (k == 0) = false := by rw [beq_eq_false_iff_ne]; omega
      have n1 : (k == 1) = false := by rw [beq_eq_false_iff_ne]; omega
      have n2 : (k == 2) = false := by rw [beq_eq_false_iff_ne]; omega
      have n3 : (k == 3) = false := by rw [beq_eq_false_iff_ne]; omega
      have n4 : (k == 4) = false := by rw [beq_eq_false_iff_ne]; omega
      have n5 : (k == 5) = false := by rw [beq_eq_false_iff_ne]; omega
      have n6 : (k == 6) = false := by rw [beq_eq_false_iff_ne]; omega
      have n7 : (k == 7) = false := by rw [beq_eq_false_iff_ne]; omega
      have n8 : (k == 8) = false := by rw [beq_eq_false_iff_ne]; omega
      have n9 : (k == 9) = false := by rw [beq_eq_false_iff_ne]; omega
      have n10 : (k == 10) = false := by rw [beq_eq_false_iff_ne]; omega
      have n11 : (k == 11) = false := by rw [beq_eq_false_iff_ne]; omega
      have n12 : (k == 12) = false := by rw [beq_eq_false_iff_ne]; omega
      have n13 : (k == 13) = false := by rw [beq_eq_false_iff_ne]; omega
      have n14 : (k == 14) = false := by rw [beq_eq_false_iff_ne]; omega
      have n15 : (k == 15) = false := by rw [beq_eq_false_iff_ne]; omega
      have n16 : (k == 16) = false := by rw [beq_eq_false_iff_ne]; omega
      have n17 : (k == 17) = false := by rw [beq_eq_false_iff_ne]; omega
      have n18 : (k == 18) = false := by rw [beq_eq_false_iff_ne]; omega
      have n19 : (k == 19) = false := by rw [beq_eq_false_iff_ne]; omega
      have n20 : (k == 20) = false := by rw [beq_eq_false_iff_ne]; omega
      have n21 : (k == 21) = false := by rw [beq_eq_false_iff_ne]; omega
      have n22 : (k == 22) = false := by rw [beq_eq_false_iff_ne]; omega
      clear h
      go_enter Tryd.func48, Tryd.ntmps48
      go_wp2
      go_ret
      exact ⟨by rw [HF.out]; rfl, by trivial⟩
end Go.Proofs.YtdlahabeegmjiaaDoor

namespace Go.Proofs.YtdlahabeegmjiaaDoor
open Go.RowKit

/-- Whether a node of kind k may be the child i of one of kind p. -/
def mSt (p i k : Int) : Bool :=
  if p = 0 then k == 1 || isStat k else if p = 2 then isStat k else if p = 1 then k == 2 else if p = 5 ∧ i = 2 then k == 2
  else if p = 6 ∧ 0 < i then k == 2 || (i == 2 && k == 6) else isExpr k

set_option maxHeartbeats 2000000 in
set_option maxRecDepth 1000000 in
theorem mayStand_any (p i k : Int) (w : World) : Calls Tryd.prog 49 #[.int .i64 p, .int .i64 i, .int .i64 k] w fun e w' => e = .returned (.bool (mSt p i k)) ∧ w' = w := by
  have HE := hide (fun w => implExpr_any k w)
  have HS := hide (fun w => implStat_any k w)
  obtain ⟨E, hE⟩ : ∃ E, isExpr k = E := ⟨_, rfl⟩
  obtain ⟨S, hS⟩ : ∃ S, isStat k = S := ⟨_, rfl⟩
  simp only [hE] at HE
  simp only [hS] at HS
  by_cases p0 : p = 0
  · subst p0
    by_cases k1 : k = 1
    · have HM : Hid (mSt 0 i k = true) := by show _ = _; unfold mSt; rw [if_pos rfl, k1]; rfl
      have e1 : (k == 1) = true := by rw [beq_iff_eq]; exact k1
      clear k1
      go_enter Tryd.func49, Tryd.ntmps49
      go_wp2
      go_ret
      exact ⟨by rw [HM.out]; rfl, by trivial⟩
    · have e1 : (k == 1) = false := by rw [beq_eq_false_iff_ne]; exact k1
      have HM : Hid (mSt 0 i k = S) := by show _ = _; unfold mSt; rw [if_pos rfl, e1, hS]; rfl
      clear k1
      go_enter Tryd.func49, Tryd.ntmps49
      go_wp2_with (go_at_call 65; refine (HS.out _).mono ?_; rintro e w1 ⟨rfl, rfl⟩)
      go_ret
      exact ⟨by rw [HM.out]; rfl, by trivial⟩
  by_cases p2 : p = 2
  · subst p2
    have HM : Hid (mSt 2 i k = S) := by show _ = _; unfold mSt; rw [if_neg (by omega), if_pos rfl, hS]
    go_enter Tryd.func49, Tryd.ntmps49
    go_wp2_with (go_at_call 65; refine (HS.out _).mono ?_; rintro e w1 ⟨rfl, rfl⟩)
    go_ret
    exact ⟨by rw [HM.out]; rfl, by trivial⟩
  by_cases p1 : p = 1
  · subst p1
    have HM : Hid (mSt 1 i k = (k == 2)) := by show _ = _; unfold mSt; rw [if_neg (by omega), if_neg (by omega), if_pos rfl]
    go_enter Tryd.func49, Tryd.ntmps49
    go_wp2
    go_ret
    exact ⟨by rw [HM.out]; rfl, by trivial⟩
  by_cases p5 : p = 5
  · subst p5
    by_cases i2 : i = 2
    · subst i2
      have HM : Hid (mSt 5 2 k = (k == 2)) := by show _ = _; unfold mSt; rw [if_neg (by omega), if_neg (by omega), if_neg (by omega), if_pos ⟨rfl, rfl⟩]
      go_enter Tryd.func49, Tryd.ntmps49
      go_wp2
      go_ret
      exact ⟨by rw [HM.out]; rfl, by trivial⟩
    · have e1 : (i == 2) = false := by rw [beq_eq_false_iff_ne]; exact i2
      have HM : Hid (mSt 5 i k = E) := by show _ = _; unfold mSt; rw [if_neg (by omega), if_neg (by omega), if_neg (by omega), if_neg (by omega), if_neg (by omega), hE]
      clear i2
      go_enter Tryd.func49, Tryd.ntmps49
      go_wp2_with (go_at_call 66; refine (HE.out _).mono ?_; rintro e w1 ⟨rfl, rfl⟩)
      go_ret
      exact ⟨by rw [HM.out]; rfl, by trivial⟩
  by_cases p6 : p = 6
  · subst p6
    by_cases i0 : 0 < i
    · have d0 : decide ((0 : Int) < i) = true := decide_eq_true i0
      by_cases k2 : k = 2
      · have e1 : (k == 2) = true := by rw [beq_iff_eq]; exact k2
        have HM : Hid (mSt 6 i k = true) := by show _ = _; unfold mSt; rw [if_neg (by omega), if_neg (by omega), if_neg (by omega), if_neg (by omega), if_pos ⟨rfl, i0⟩, e1]; rfl
        clear k2
        go_enter Tryd.func49, Tryd.ntmps49
        go_wp2
        go_ret
        exact ⟨by rw [HM.out]; rfl, by trivial⟩
      · have e1 : (k == 2) = false := by rw [beq_eq_false_iff_ne]; exact k2
        by_cases i2 : i = 2
        · subst i2
          have HM : Hid (mSt 6 2 k = (k == 6)) := by show _ = _; unfold mSt; rw [if_neg (by omega), if_neg (by omega), if_neg (by omega), if_neg (by omega), if_pos ⟨rfl, i0⟩, e1]; rfl
          clear k2
          go_enter Tryd.func49, Tryd.ntmps49
          go_wp2
          go_ret
          exact ⟨by rw [HM.out]; rfl, by trivial⟩
        · have e2 : (i == 2) = false := by rw [beq_eq_false_iff_ne]; exact i2
          have HM : Hid (mSt 6 i k = false) := by show _ = _; unfold mSt; rw [if_neg (by omega), if_neg (by omega), if_neg (by omega), if_neg (by omega), if_pos ⟨rfl, i0⟩, e1, e2]; rfl
          clear k2 i2
          go_enter Tryd.func49, Tryd.ntmps49
          go_wp2
          go_ret
          exact ⟨by rw [HM.out]; rfl, by trivial⟩
    · have d0 : decide ((0 : Int) < i) = false := decide_eq_false i0
      have HM : Hid (mSt 6 i k = E) := by show _ = _; unfold mSt; rw [if_neg (by omega), if_neg (by omega), if_neg (by omega), if_neg (by omega), if_neg (by omega), hE]
      go_enter Tryd.func49, Tryd.ntmps49
      go_wp2_with (go_at_call 66; refine (HE.out _).mono ?_; rintro e w1 ⟨rfl, rfl⟩)
      go_ret
      exact ⟨by rw [HM.out]; rfl, by trivial⟩
  · have HM : Hid (mSt p i k = E) := by show _ = _; unfold mSt; rw [if_neg (by omega), if_neg (by omega), if_neg (by omega), if_neg (by omega), if_neg (by omega), hE]
    have n0 : (p == 0) = false := by rw [beq_eq_false_iff_ne]; omega
    have n1 : (p == 1) = false := by rw [beq_eq_false_iff_ne]; omega
    have n2 : (p == 2) = false := by rw [beq_eq_false_iff_ne]; omega
    have n5 : (p == 5) = false := by rw [beq_eq_false_iff_ne]; omega
    have n6 : (p == 6) = false := by rw [beq_eq_false_iff_ne]; omega
    clear p0 p1 p2 p5 p6
    go_enter Tryd.func49, Tryd.ntmps49
    go_wp2_with (go_at_call 66; refine (HE.out _).mono ?_; rintro e w1 ⟨rfl, rfl⟩)
    go_ret
    exact ⟨by rw [HM.out]; rfl, by trivial⟩
end Go.Proofs.YtdlahabeegmjiaaDoor

namespace Go.Proofs.YtdlahabeegmjiaaDoor
open Go.RowKit

/-- The count of a node. -/
def cn (L : List Nd) (i : Nat) : Int := (L.getD i .zero).count
/-- An end as l2end answers it. -/
def oi : Option Nat → Int
  | none => -1
  | some e => e

set_option maxHeartbeats 1000000 in
set_option maxRecDepth 1000000 in
theorem l2end_any (v : Value) (L : List Nd) (hl : L.length ≤ 1048576) : ∀ f : Nat, f ≤ 60 → ∀ (i : Nat) (w : World), i ≤ L.length → NS w v L →
    Calls Tryd.prog 23 #[v, .int .i64 i, .int .i64 f] w fun e w' => e = .returned (.int .i64 (oi (sE L.length (cn L) f i))) ∧ w' = w := by
  intro f
  induction f with
  | zero =>
    intro _ i w hi h
    obtain ⟨a, b, o, c, rfl, _, _⟩ := h
    have HR : Hid (oi (sE L.length (cn L) 0 i) = -1) := rfl
    by_cases h1 : i < L.length
    · have t0 : decide ((L.length : Int) ≤ (i : Int)) = false := decide_eq_false (by omega)
      go_enter Tryd.func23, Tryd.ntmps23
      go_wp2
      go_ret
      exact ⟨by rw [HR.out]; rfl, by trivial⟩
    · have t0 : decide ((L.length : Int) ≤ (i : Int)) = true := decide_eq_true (by omega)
      go_enter Tryd.func23, Tryd.ntmps23
      go_wp2
      go_ret
      exact ⟨by rw [HR.out]; rfl, by trivial⟩
  | succ f ih =>
    intro hf i w hi h
    have HIH := hide (ih (by omega))
    have HNS := hide h
    obtain ⟨a, b, o, c, rfl, ha, hc⟩ := h
    have hf1 : ((f : Int) + 1 == 0) = false := by rw [beq_eq_false_iff_ne]; omega
    by_cases h1 : i < L.length
    · have t0 : decide ((L.length : Int) ≤ (i : Int)) = false := decide_eq_false (by omega)
      obtain rfl := ha (by omega)
      obtain ⟨vt, vn, vy, hN, _⟩ := hc i h1
      have g := hN.count
      obtain ⟨C, hC⟩ : ∃ C, (L.getD i .zero).count = C := ⟨_, rfl⟩
      have hcC : cn L i = C := hC
      rw [hC] at g
      clear hc ha hN hC ih
      by_cases h2 : C < 0
      · have t1 : decide (C < 0) = true := decide_eq_true h2
        have HR : Hid (oi (sE L.length (cn L) (f + 1) i) = -1) := by show _ = _; rw [sE, if_pos (by omega)]; rfl
        go_enter Tryd.func23, Tryd.ntmps23
        go_wp2
        go_ret
        exact ⟨by rw [HR.out]; rfl, by trivial⟩
      by_cases h3 : (L.length : Int) < C
      · have t1 : decide (C < 0) = false := decide_eq_false h2
        have t2 : decide ((L.length : Int) < C) = true := decide_eq_true h3
        have HR : Hid (oi (sE L.length (cn L) (f + 1) i) = -1) := by show _ = _; rw [sE, if_pos (by omega)]; rfl
        go_enter Tryd.func23, Tryd.ntmps23
        go_wp2
        go_ret
        exact ⟨by rw [HR.out]; rfl, by trivial⟩
      have t1 : decide (C < 0) = false := decide_eq_false h2
      have t2 : decide ((L.length : Int) < C) = false := decide_eq_false h3
      have HR : Hid (sE L.length (cn L) (f + 1) i = sLoop (sE L.length (cn L) f) C.toNat (i + 1)) := by show _ = _; rw [sE, if_neg (by omega), hcC]
      clear hcC
      go_enter Tryd.func23, Tryd.ntmps23
      go_wp2
      go_loopw [7, 8] (fun x ix wr => ∃ k p : Nat, k ≤ C.toNat ∧ ix = .int .i64 k ∧ x = .int .i64 p ∧ p ≤ L.length ∧ sLoop (sE L.length (cn L) f) (C.toNat - k) p = sE L.length (cn L) (f + 1) i ∧ wr = w) (fun _ ix _ => C.toNat - (intOf ix).toNat)
      case atStart => exact ⟨0, i + 1, Nat.zero_le _, rfl, by go_num, by omega, HR.out.symm, rfl⟩
      case round =>
        obtain ⟨k, p, hk, rfl, rfl, hp, hs, rfl⟩ := hrel
        have HS := hide hs
        by_cases hlt : k < C.toNat
        · have hlti : decide ((k : Int) < C) = true := decide_eq_true (by omega)
          have HI := HIH.out p wr hp HNS.out
          have hsp : C.toNat - k = (C.toNat - (k + 1)) + 1 := by omega
          rw [hsp, sLoop] at hs
          cases hx : sE L.length (cn L) f p with
          | none =>
            rw [hx] at HI hs
            have HH := hide HI
            have HR2 : Hid (oi (sE L.length (cn L) (f + 1) i) = -1) := by show _ = _; rw [← hs]; rfl
            clear HI hs hx
            go_wp2_with fail
            refine HH.out.mono ?_
            rintro e w1 ⟨rfl, rfl⟩
            go_wp2
            go_ret
            exact ⟨by rw [HR2.out]; rfl, by trivial⟩
          | some q =>
            rw [hx] at HI hs
            have hq := (sE_br _ _ _ _ _ hx).le
            have HH := hide HI
            have HS2 := hide hs
            have hqn : decide ((q : Int) < 0) = false := decide_eq_false (by omega)
            clear HI hs hx
            go_wp2_with fail
            refine HH.out.mono ?_
            rintro e w1 ⟨rfl, rfl⟩
            unfold oi
            go_wp2
            go_roundw
            case rel => exact ⟨k + 1, q, by omega, by go_num, rfl, hq, HS2.out, by trivial⟩
            case measure => simp [intOf]; omega
        · have hlti : decide ((k : Int) < C) = false := decide_eq_false (by omega)
          have HR2 : Hid (oi (sE L.length (cn L) (f + 1) i) = p) := by show _ = _; rw [← hs, show C.toNat - k = 0 by omega]; rfl
          clear hs
          go_wp2
          go_ret
          exact ⟨by rw [HR2.out]; rfl, by trivial⟩
    · have t0 : decide ((L.length : Int) ≤ (i : Int)) = true := decide_eq_true (by omega)
      have HR : Hid (oi (sE L.length (cn L) (f + 1) i) = -1) := by show _ = _; rw [sE, if_pos (by omega)]; rfl
      clear hc ha ih
      go_enter Tryd.func23, Tryd.ntmps23
      go_wp2
      go_ret
      exact ⟨by rw [HR.out]; rfl, by trivial⟩
end Go.Proofs.YtdlahabeegmjiaaDoor
