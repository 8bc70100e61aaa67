/-
  The walks of l2decl, l4value, l4declOK.
-/
import Derived.Test.YtijdlbanfdhfnaaGreatDoorJDnDNP
import Derived.Test.YtijdlbanfdhfnaaGreatDoorJDnK
import Derived.Test.YtijdlbanfdhfnaaGreatDoorJDnSD5
import Derived.BigQuiet
import Derived.Deep.QuietTactic
namespace Go.Proofs.YtijdlbanfdhfnaaGreatDoor
open Go.RowKit

/-- The kind of a declaration. -/
def kdB (k : Int) : Bool := decide (7 ≤ k) && decide (k ≤ 15)
theorem kdB_iff (k : Int) : kdB k = true ↔ 7 ≤ k ∧ k ≤ 15 := by unfold kdB; rw [Bool.and_eq_true, decide_eq_true_iff, decide_eq_true_iff]
set_option maxHeartbeats 1000000 in
set_option maxRecDepth 1000000 in
theorem l2decl_any (k : Int) (w : World) :
    Calls Tryz.prog 39 #[.int .i64 k] w fun e w' => e = .returned (.bool (kdB k)) ∧ w' = w := by
  by_cases h1 : 7 ≤ k
  · have t1 : decide (7 ≤ k) = true := decide_eq_true h1
    have HR : Hid (kdB k = decide (k ≤ 15)) := by show _ = _; unfold kdB; rw [t1, Bool.true_and]
    obtain ⟨b, hb⟩ : ∃ b, decide (k ≤ 15) = b := ⟨_, rfl⟩
    rw [hb] at HR
    go_enter Tryz.func39, Tryz.ntmps39
    go_wp2
    go_ret
    exact ⟨by rw [HR.out]; rfl, rfl⟩
  · have t1 : decide (7 ≤ k) = false := decide_eq_false h1
    have HR : Hid (kdB k = false) := by show _ = _; unfold kdB; rw [t1, Bool.false_and]
    go_enter Tryz.func39, Tryz.ntmps39
    go_wp2
    go_ret
    exact ⟨by rw [HR.out]; rfl, rfl⟩
set_option maxHeartbeats 1000000 in
set_option maxRecDepth 1000000 in
theorem l4value_any (k : Int) (w : World) :
    Calls Tryz.prog 40 #[.int .i64 k] w fun e w' => e = .returned (.bool (vlB k)) ∧ w' = w := by
  by_cases h1 : -1000000 ≤ k
  · have t1 : decide (-1000000 ≤ k) = true := decide_eq_true h1
    have HR : Hid (vlB k = decide (k ≤ 1000000)) := by show _ = _; unfold vlB; rw [t1, Bool.true_and]
    obtain ⟨b, hb⟩ : ∃ b, decide (k ≤ 1000000) = b := ⟨_, rfl⟩
    rw [hb] at HR
    go_enter Tryz.func40, Tryz.ntmps40
    go_wp2
    go_ret
    exact ⟨by rw [HR.out]; rfl, rfl⟩
  · have t1 : decide (-1000000 ≤ k) = false := decide_eq_false h1
    have HR : Hid (vlB k = false) := by show _ = _; unfold vlB; rw [t1, Bool.false_and]
    go_enter Tryz.func40, Tryz.ntmps40
    go_wp2
    go_ret
    exact ⟨by rw [HR.out]; rfl, rfl⟩

set_option maxHeartbeats 8000000 in
set_option maxRecDepth 1000000 in
theorem l4declOK_any (d : Dc) (v7 : Value) (w : World) (hb : DcB d) (h : DcV w d v7) :
    Calls Tryz.prog 14 #[dcagg d v7] w fun e w' => Ans (DcOk d) e ∧ Below w.heap.size w w' := by
  have hl := hb.name
  have HN := hide h.name
  obtain ⟨a7, c7, rfl⟩ := h.name.slice
  unfold dcagg
  obtain ⟨K, X1, Y1, X2, Y2, D, C, N, O⟩ := d
  simp only at HN hl ⊢
  clear h hb
  obtain ⟨W1, hW1⟩ : ∃ W, w.alloc (.cells #[.int .i64 K, .int .i64 X1, .int .i64 Y1, .int .i64 X2, .int .i64 Y2, .int .i64 D, .int .i64 C, .slice a7 N.size c7, .int .i64 O] 42) = W := ⟨_, rfl⟩
  have HB1 : Hid (Below w.heap.size w W1) := by rw [← hW1]; exact (Below.refl _ _).alloc (Nat.le_refl _) _
  have hBk : Blk W1 w.heap.size 42 #[.int .i64 K, .int .i64 X1, .int .i64 Y1, .int .i64 X2, .int .i64 Y2, .int .i64 D, .int .i64 C, .slice a7 N.size c7, .int .i64 O] := by rw [← hW1]; exact Blk.new _ _ _
  have z0 := hBk.cell 0
  have z1 := hBk.cell 1
  have z2 := hBk.cell 2
  have z3 := hBk.cell 3
  have z4 := hBk.cell 4
  have z5 := hBk.cell 5
  have z6 := hBk.cell 6
  have z7 := hBk.cell 7
  simp only [List.getElem?_toArray, List.getElem?_cons_succ, List.getElem?_cons_zero] at z0 z1 z2 z3 z4 z5 z6 z7
  have HGD := hide (good_bs (w := W1) hl (HN.out.below HB1.out))
  have HW := hide hW1
  clear hW1 hBk
  go_enter Tryz.func14, Tryz.ntmps14
  go_wp2_with fail
  rw [HW.out]
  have HC := hide (l2decl_any K W1)
  by_cases hb : kdB K = false
  · rw [hb] at HC
    have HR : Hid (¬ DcOk ⟨K, X1, Y1, X2, Y2, D, C, N, O⟩) := fun h => by
      have := (kdB_iff K).2 ⟨h.k0, h.k1⟩
      rw [hb] at this
      cases this
    clear hb
    refine HC.out.mono ?_
    rintro e w2 ⟨rfl, hw2⟩
    have hw2 := hw2.symm
    subst hw2
    go_wp2
    go_ret
    exact ⟨Ans.no HR.out, HB1.out⟩
  have hb := eq_true_of_ne_false hb
  rw [hb] at HC
  have H0 := hide hb
  clear hb
  refine HC.out.mono ?_
  rintro e w2 ⟨rfl, hw2⟩
  have hw2 := hw2.symm
  subst hw2
  clear HC
  have HC := hide (l4value_any X1 W1)
  by_cases hb : vlB X1 = false
  · rw [hb] at HC
    have HR : Hid (¬ DcOk ⟨K, X1, Y1, X2, Y2, D, C, N, O⟩) := fun h => by
      have := h.x1
      rw [show vlB X1 = false from hb] at this
      cases this
    clear hb
    go_wp2_with fail
    refine HC.out.mono ?_
    rintro e w2 ⟨rfl, hw2⟩
    have hw2 := hw2.symm
    subst hw2
    go_wp2
    go_ret
    exact ⟨Ans.no HR.out, HB1.out⟩
  have hb := eq_true_of_ne_false hb
  rw [hb] at HC
  have H1 := hide hb
  clear hb
  go_wp2_with fail
  refine HC.out.mono ?_
  rintro e w2 ⟨rfl, hw2⟩
  have hw2 := hw2.symm
  subst hw2
  clear HC
  have HC := hide (l4value_any Y1 W1)
  by_cases hb : vlB Y1 = false
  · rw [hb] at HC
    have HR : Hid (¬ DcOk ⟨K, X1, Y1, X2, Y2, D, C, N, O⟩) := fun h => by
      have := h.y1
      rw [show vlB Y1 = false from hb] at this
      cases this
    clear hb
    go_wp2_with fail
    refine HC.out.mono ?_
    rintro e w2 ⟨rfl, hw2⟩
    have hw2 := hw2.symm
    subst hw2
    go_wp2
    go_ret
    exact ⟨Ans.no HR.out, HB1.out⟩
  have hb := eq_true_of_ne_false hb
  rw [hb] at HC
  have H2 := hide hb
  clear hb
  go_wp2_with fail
  refine HC.out.mono ?_
  rintro e w2 ⟨rfl, hw2⟩
  have hw2 := hw2.symm
  subst hw2
  clear HC
  have HC := hide (l4value_any X2 W1)
  by_cases hb : vlB X2 = false
  · rw [hb] at HC
    have HR : Hid (¬ DcOk ⟨K, X1, Y1, X2, Y2, D, C, N, O⟩) := fun h => by
      have := h.x2
      rw [show vlB X2 = false from hb] at this
      cases this
    clear hb
    go_wp2_with fail
    refine HC.out.mono ?_
    rintro e w2 ⟨rfl, hw2⟩
    have hw2 := hw2.symm
    subst hw2
    go_wp2
    go_ret
    exact ⟨Ans.no HR.out, HB1.out⟩
  have hb := eq_true_of_ne_false hb
  rw [hb] at HC
  have H3 := hide hb
  clear hb
  go_wp2_with fail
  refine HC.out.mono ?_
  rintro e w2 ⟨rfl, hw2⟩
  have hw2 := hw2.symm
  subst hw2
  clear HC
  have HC := hide (l4value_any Y2 W1)
  by_cases hb : vlB Y2 = false
  · rw [hb] at HC
    have HR : Hid (¬ DcOk ⟨K, X1, Y1, X2, Y2, D, C, N, O⟩) := fun h => by
      have := h.y2
      rw [show vlB Y2 = false from hb] at this
      cases this
    clear hb
    go_wp2_with fail
    refine HC.out.mono ?_
    rintro e w2 ⟨rfl, hw2⟩
    have hw2 := hw2.symm
    subst hw2
    go_wp2
    go_ret
    exact ⟨Ans.no HR.out, HB1.out⟩
  have hb := eq_true_of_ne_false hb
  rw [hb] at HC
  have H4 := hide hb
  clear hb
  go_wp2_with fail
  refine HC.out.mono ?_
  rintro e w2 ⟨rfl, hw2⟩
  have hw2 := hw2.symm
  subst hw2
  clear HC
  have HC := hide (l4value_any C W1)
  by_cases hb : vlB C = false
  · rw [hb] at HC
    have HR : Hid (¬ DcOk ⟨K, X1, Y1, X2, Y2, D, C, N, O⟩) := fun h => by
      have := h.cs
      rw [show vlB C = false from hb] at this
      cases this
    clear hb
    go_wp2_with fail
    refine HC.out.mono ?_
    rintro e w2 ⟨rfl, hw2⟩
    have hw2 := hw2.symm
    subst hw2
    go_wp2
    go_ret
    exact ⟨Ans.no HR.out, HB1.out⟩
  have hb := eq_true_of_ne_false hb
  rw [hb] at HC
  have H5 := hide hb
  clear hb
  go_wp2_with fail
  refine HC.out.mono ?_
  rintro e w2 ⟨rfl, hw2⟩
  have hw2 := hw2.symm
  subst hw2
  clear HC
  have hk := (kdB_iff K).1 H0.out
  have hk9 : K = 7 ∨ K = 8 ∨ K = 9 ∨ K = 10 ∨ K = 11 ∨ K = 12 ∨ K = 13 ∨ K = 14 ∨ K = 15 := by omega
  clear hk
  rcases hk9 with rfl | rfl | rfl | rfl | rfl | rfl | rfl | rfl | rfl
  · skip
    by_cases q : ¬ X1 = X2
    · have tX : (X1 != X2) = true := by rw [bne_iff_ne]; exact q
      have HR : Hid (¬ DcOk ⟨7, X1, Y1, X2, Y2, D, C, N, O⟩) := fun h => by
        exact q (h.ax rfl)
      clear q
      go_wp2
      go_ret
      exact ⟨Ans.no HR.out, HB1.out⟩
    have q := Classical.not_not.1 q
    have tX : (X1 != X2) = false := by rw [q]; exact bne_self_eq_false _
    have HEX := hide q
    clear q
    by_cases q : ¬ Y1 = Y2
    · have tY : (Y1 != Y2) = true := by rw [bne_iff_ne]; exact q
      have HR : Hid (¬ DcOk ⟨7, X1, Y1, X2, Y2, D, C, N, O⟩) := fun h => by
        exact q (h.ay rfl)
      clear q
      go_wp2
      go_ret
      exact ⟨Ans.no HR.out, HB1.out⟩
    have q := Classical.not_not.1 q
    have tY : (Y1 != Y2) = false := by rw [q]; exact bne_self_eq_false _
    have HEY := hide q
    clear q
    by_cases q : D < 0
    · have td : decide (D < 0) = true := decide_eq_true q
      have HR : Hid (¬ DcOk ⟨7, X1, Y1, X2, Y2, D, C, N, O⟩) := fun h => by
        have h1 : 0 ≤ D := h.d0; omega
      clear q
      go_wp2
      go_ret
      exact ⟨Ans.no HR.out, HB1.out⟩
    have td : decide (D < 0) = false := decide_eq_false q
    by_cases q2 : 3 < D
    · have te : decide (3 < D) = true := decide_eq_true q2
      have HR : Hid (¬ DcOk ⟨7, X1, Y1, X2, Y2, D, C, N, O⟩) := fun h => by
        have h1 : D ≤ 3 := h.d1; omega
      clear q q2
      go_wp2
      go_ret
      exact ⟨Ans.no HR.out, HB1.out⟩
    have te : decide (3 < D) = false := decide_eq_false q2
    have HD : Hid (0 ≤ D ∧ D ≤ 3) := ⟨by omega, by omega⟩
    clear q q2
    by_cases q : ¬ D = 0
    · have tf : (D != 0) = true := by rw [bne_iff_ne]; exact q
      have HR : Hid (¬ DcOk ⟨7, X1, Y1, X2, Y2, D, C, N, O⟩) := fun h => by
        exact q (h.dw rfl)
      clear q
      go_wp2
      go_ret
      exact ⟨Ans.no HR.out, HB1.out⟩
    have q := Classical.not_not.1 q
    have tf : (D != 0) = false := by rw [q]; rfl
    have HD0 := hide q
    clear q
    by_cases q : ¬ C = 0
    · have tg : (C != 0) = true := by rw [bne_iff_ne]; exact q
      have HR : Hid (¬ DcOk ⟨7, X1, Y1, X2, Y2, D, C, N, O⟩) := fun h => by
        exact q (h.cz (show (7 : Int) ≠ 13 by decide))
      clear q
      go_wp2
      go_ret
      exact ⟨Ans.no HR.out, HB1.out⟩
    have q := Classical.not_not.1 q
    have tg : (C != 0) = false := by rw [q]; rfl
    have HC0 := hide q
    clear q
    by_cases q : ¬ N.size = 0
    · have th : (((N.size : Nat) : Int) == 0) = false := by rw [beq_eq_false_iff_ne]; omega
      have HR : Hid (¬ DcOk ⟨7, X1, Y1, X2, Y2, D, C, N, O⟩) := fun h => by
        exact q (h.n2 rfl)
      clear q
      go_wp2
      go_ret
      exact ⟨Ans.no HR.out, HB1.out⟩
    have q := Classical.not_not.1 q
    have th : (((N.size : Nat) : Int) == 0) = true := by rw [beq_iff_eq]; omega
    have HR : Hid (DcOk ⟨7, X1, Y1, X2, Y2, D, C, N, O⟩) := ⟨by show (7 : Int) ≤ 7; omega, by show (7 : Int) ≤ 15; omega, H1.out, H2.out, H3.out, H4.out, H5.out, fun _ => HEX.out, fun _ => HEY.out, HD.out.1, HD.out.2, fun _ => HD0.out, fun _ => HC0.out, fun h => absurd (show nmK 7 = true from h) (by decide), fun h => absurd (show nmK 7 = true from h) (by decide), fun _ => q⟩
    clear q
    go_wp2
    go_ret
    exact ⟨Ans.yes HR.out, HB1.out⟩
  · skip
    by_cases q : D < 0
    · have td : decide (D < 0) = true := decide_eq_true q
      have HR : Hid (¬ DcOk ⟨8, X1, Y1, X2, Y2, D, C, N, O⟩) := fun h => by
        have h1 : 0 ≤ D := h.d0; omega
      clear q
      go_wp2
      go_ret
      exact ⟨Ans.no HR.out, HB1.out⟩
    have td : decide (D < 0) = false := decide_eq_false q
    by_cases q2 : 3 < D
    · have te : decide (3 < D) = true := decide_eq_true q2
      have HR : Hid (¬ DcOk ⟨8, X1, Y1, X2, Y2, D, C, N, O⟩) := fun h => by
        have h1 : D ≤ 3 := h.d1; omega
      clear q q2
      go_wp2
      go_ret
      exact ⟨Ans.no HR.out, HB1.out⟩
    have te : decide (3 < D) = false := decide_eq_false q2
    have HD : Hid (0 ≤ D ∧ D ≤ 3) := ⟨by omega, by omega⟩
    clear q q2
    by_cases q : ¬ D = 0
    · have tf : (D != 0) = true := by rw [bne_iff_ne]; exact q
      have HR : Hid (¬ DcOk ⟨8, X1, Y1, X2, Y2, D, C, N, O⟩) := fun h => by
        exact q (h.dw rfl)
      clear q
      go_wp2
      go_ret
      exact ⟨Ans.no HR.out, HB1.out⟩
    have q := Classical.not_not.1 q
    have tf : (D != 0) = false := by rw [q]; rfl
    have HD0 := hide q
    clear q
    by_cases q : ¬ C = 0
    · have tg : (C != 0) = true := by rw [bne_iff_ne]; exact q
      have HR : Hid (¬ DcOk ⟨8, X1, Y1, X2, Y2, D, C, N, O⟩) := fun h => by
        exact q (h.cz (show (8 : Int) ≠ 13 by decide))
      clear q
      go_wp2
      go_ret
      exact ⟨Ans.no HR.out, HB1.out⟩
    have q := Classical.not_not.1 q
    have tg : (C != 0) = false := by rw [q]; rfl
    have HC0 := hide q
    clear q
    by_cases q : ¬ N.size = 0
    · have th : (((N.size : Nat) : Int) == 0) = false := by rw [beq_eq_false_iff_ne]; omega
      have HR : Hid (¬ DcOk ⟨8, X1, Y1, X2, Y2, D, C, N, O⟩) := fun h => by
        exact q (h.n2 rfl)
      clear q
      go_wp2
      go_ret
      exact ⟨Ans.no HR.out, HB1.out⟩
    have q := Classical.not_not.1 q
    have th : (((N.size : Nat) : Int) == 0) = true := by rw [beq_iff_eq]; omega
    have HR : Hid (DcOk ⟨8, X1, Y1, X2, Y2, D, C, N, O⟩) := ⟨by show (7 : Int) ≤ 8; omega, by show (8 : Int) ≤ 15; omega, H1.out, H2.out, H3.out, H4.out, H5.out, fun h => absurd (show arK 8 = false from h) (by decide), fun h => absurd (show arK 8 = false from h) (by decide), HD.out.1, HD.out.2, fun _ => HD0.out, fun _ => HC0.out, fun h => absurd (show nmK 8 = true from h) (by decide), fun h => absurd (show nmK 8 = true from h) (by decide), fun _ => q⟩
    clear q
    go_wp2
    go_ret
    exact ⟨Ans.yes HR.out, HB1.out⟩
  · skip
    by_cases q : D < 0
    · have td : decide (D < 0) = true := decide_eq_true q
      have HR : Hid (¬ DcOk ⟨9, X1, Y1, X2, Y2, D, C, N, O⟩) := fun h => by
        have h1 : 0 ≤ D := h.d0; omega
      clear q
      go_wp2
      go_ret
      exact ⟨Ans.no HR.out, HB1.out⟩
    have td : decide (D < 0) = false := decide_eq_false q
    by_cases q2 : 3 < D
    · have te : decide (3 < D) = true := decide_eq_true q2
      have HR : Hid (¬ DcOk ⟨9, X1, Y1, X2, Y2, D, C, N, O⟩) := fun h => by
        have h1 : D ≤ 3 := h.d1; omega
      clear q q2
      go_wp2
      go_ret
      exact ⟨Ans.no HR.out, HB1.out⟩
    have te : decide (3 < D) = false := decide_eq_false q2
    have HD : Hid (0 ≤ D ∧ D ≤ 3) := ⟨by omega, by omega⟩
    clear q q2
    by_cases q : ¬ D = 0
    · have tf : (D != 0) = true := by rw [bne_iff_ne]; exact q
      have HR : Hid (¬ DcOk ⟨9, X1, Y1, X2, Y2, D, C, N, O⟩) := fun h => by
        exact q (h.dw rfl)
      clear q
      go_wp2
      go_ret
      exact ⟨Ans.no HR.out, HB1.out⟩
    have q := Classical.not_not.1 q
    have tf : (D != 0) = false := by rw [q]; rfl
    have HD0 := hide q
    clear q
    by_cases q : ¬ C = 0
    · have tg : (C != 0) = true := by rw [bne_iff_ne]; exact q
      have HR : Hid (¬ DcOk ⟨9, X1, Y1, X2, Y2, D, C, N, O⟩) := fun h => by
        exact q (h.cz (show (9 : Int) ≠ 13 by decide))
      clear q
      go_wp2
      go_ret
      exact ⟨Ans.no HR.out, HB1.out⟩
    have q := Classical.not_not.1 q
    have tg : (C != 0) = false := by rw [q]; rfl
    have HC0 := hide q
    clear q
    by_cases q : ¬ N.size = 0
    · have th : (((N.size : Nat) : Int) == 0) = false := by rw [beq_eq_false_iff_ne]; omega
      have HR : Hid (¬ DcOk ⟨9, X1, Y1, X2, Y2, D, C, N, O⟩) := fun h => by
        exact q (h.n2 rfl)
      clear q
      go_wp2
      go_ret
      exact ⟨Ans.no HR.out, HB1.out⟩
    have q := Classical.not_not.1 q
    have th : (((N.size : Nat) : Int) == 0) = true := by rw [beq_iff_eq]; omega
    have HR : Hid (DcOk ⟨9, X1, Y1, X2, Y2, D, C, N, O⟩) := ⟨by show (7 : Int) ≤ 9; omega, by show (9 : Int) ≤ 15; omega, H1.out, H2.out, H3.out, H4.out, H5.out, fun h => absurd (show arK 9 = false from h) (by decide), fun h => absurd (show arK 9 = false from h) (by decide), HD.out.1, HD.out.2, fun _ => HD0.out, fun _ => HC0.out, fun h => absurd (show nmK 9 = true from h) (by decide), fun h => absurd (show nmK 9 = true from h) (by decide), fun _ => q⟩
    clear q
    go_wp2
    go_ret
    exact ⟨Ans.yes HR.out, HB1.out⟩
  · skip
    by_cases q : D < 0
    · have td : decide (D < 0) = true := decide_eq_true q
      have HR : Hid (¬ DcOk ⟨10, X1, Y1, X2, Y2, D, C, N, O⟩) := fun h => by
        have h1 : 0 ≤ D := h.d0; omega
      clear q
      go_wp2
      go_ret
      exact ⟨Ans.no HR.out, HB1.out⟩
    have td : decide (D < 0) = false := decide_eq_false q
    by_cases q2 : 3 < D
    · have te : decide (3 < D) = true := decide_eq_true q2
      have HR : Hid (¬ DcOk ⟨10, X1, Y1, X2, Y2, D, C, N, O⟩) := fun h => by
        have h1 : D ≤ 3 := h.d1; omega
      clear q q2
      go_wp2
      go_ret
      exact ⟨Ans.no HR.out, HB1.out⟩
    have te : decide (3 < D) = false := decide_eq_false q2
    have HD : Hid (0 ≤ D ∧ D ≤ 3) := ⟨by omega, by omega⟩
    clear q q2
    by_cases q : ¬ C = 0
    · have tg : (C != 0) = true := by rw [bne_iff_ne]; exact q
      have HR : Hid (¬ DcOk ⟨10, X1, Y1, X2, Y2, D, C, N, O⟩) := fun h => by
        exact q (h.cz (show (10 : Int) ≠ 13 by decide))
      clear q
      go_wp2
      go_ret
      exact ⟨Ans.no HR.out, HB1.out⟩
    have q := Classical.not_not.1 q
    have tg : (C != 0) = false := by rw [q]; rfl
    have HC0 := hide q
    clear q
    by_cases q : ¬ N.size = 0
    · have th : (((N.size : Nat) : Int) == 0) = false := by rw [beq_eq_false_iff_ne]; omega
      have HR : Hid (¬ DcOk ⟨10, X1, Y1, X2, Y2, D, C, N, O⟩) := fun h => by
        exact q (h.n2 rfl)
      clear q
      go_wp2
      go_ret
      exact ⟨Ans.no HR.out, HB1.out⟩
    have q := Classical.not_not.1 q
    have th : (((N.size : Nat) : Int) == 0) = true := by rw [beq_iff_eq]; omega
    have HR : Hid (DcOk ⟨10, X1, Y1, X2, Y2, D, C, N, O⟩) := ⟨by show (7 : Int) ≤ 10; omega, by show (10 : Int) ≤ 15; omega, H1.out, H2.out, H3.out, H4.out, H5.out, fun h => absurd (show arK 10 = false from h) (by decide), fun h => absurd (show arK 10 = false from h) (by decide), HD.out.1, HD.out.2, fun h => absurd (show wyK 10 = false from h) (by decide), fun _ => HC0.out, fun h => absurd (show nmK 10 = true from h) (by decide), fun h => absurd (show nmK 10 = true from h) (by decide), fun _ => q⟩
    clear q
    go_wp2
    go_ret
    exact ⟨Ans.yes HR.out, HB1.out⟩
  · skip
    by_cases q : ¬ X1 = X2
    · have tX : (X1 != X2) = true := by rw [bne_iff_ne]; exact q
      have HR : Hid (¬ DcOk ⟨11, X1, Y1, X2, Y2, D, C, N, O⟩) := fun h => by
        exact q (h.ax rfl)
      clear q
      go_wp2
      go_ret
      exact ⟨Ans.no HR.out, HB1.out⟩
    have q := Classical.not_not.1 q
    have tX : (X1 != X2) = false := by rw [q]; exact bne_self_eq_false _
    have HEX := hide q
    clear q
    by_cases q : ¬ Y1 = Y2
    · have tY : (Y1 != Y2) = true := by rw [bne_iff_ne]; exact q
      have HR : Hid (¬ DcOk ⟨11, X1, Y1, X2, Y2, D, C, N, O⟩) := fun h => by
        exact q (h.ay rfl)
      clear q
      go_wp2
      go_ret
      exact ⟨Ans.no HR.out, HB1.out⟩
    have q := Classical.not_not.1 q
    have tY : (Y1 != Y2) = false := by rw [q]; exact bne_self_eq_false _
    have HEY := hide q
    clear q
    by_cases q : D < 0
    · have td : decide (D < 0) = true := decide_eq_true q
      have HR : Hid (¬ DcOk ⟨11, X1, Y1, X2, Y2, D, C, N, O⟩) := fun h => by
        have h1 : 0 ≤ D := h.d0; omega
      clear q
      go_wp2
      go_ret
      exact ⟨Ans.no HR.out, HB1.out⟩
    have td : decide (D < 0) = false := decide_eq_false q
    by_cases q2 : 3 < D
    · have te : decide (3 < D) = true := decide_eq_true q2
      have HR : Hid (¬ DcOk ⟨11, X1, Y1, X2, Y2, D, C, N, O⟩) := fun h => by
        have h1 : D ≤ 3 := h.d1; omega
      clear q q2
      go_wp2
      go_ret
      exact ⟨Ans.no HR.out, HB1.out⟩
    have te : decide (3 < D) = false := decide_eq_false q2
    have HD : Hid (0 ≤ D ∧ D ≤ 3) := ⟨by omega, by omega⟩
    clear q q2
    by_cases q : ¬ C = 0
    · have tg : (C != 0) = true := by rw [bne_iff_ne]; exact q
      have HR : Hid (¬ DcOk ⟨11, X1, Y1, X2, Y2, D, C, N, O⟩) := fun h => by
        exact q (h.cz (show (11 : Int) ≠ 13 by decide))
      clear q
      go_wp2
      go_ret
      exact ⟨Ans.no HR.out, HB1.out⟩
    have q := Classical.not_not.1 q
    have tg : (C != 0) = false := by rw [q]; rfl
    have HC0 := hide q
    clear q
    by_cases q : ¬ N.size = 0
    · have th : (((N.size : Nat) : Int) == 0) = false := by rw [beq_eq_false_iff_ne]; omega
      have HR : Hid (¬ DcOk ⟨11, X1, Y1, X2, Y2, D, C, N, O⟩) := fun h => by
        exact q (h.n2 rfl)
      clear q
      go_wp2
      go_ret
      exact ⟨Ans.no HR.out, HB1.out⟩
    have q := Classical.not_not.1 q
    have th : (((N.size : Nat) : Int) == 0) = true := by rw [beq_iff_eq]; omega
    have HR : Hid (DcOk ⟨11, X1, Y1, X2, Y2, D, C, N, O⟩) := ⟨by show (7 : Int) ≤ 11; omega, by show (11 : Int) ≤ 15; omega, H1.out, H2.out, H3.out, H4.out, H5.out, fun _ => HEX.out, fun _ => HEY.out, HD.out.1, HD.out.2, fun h => absurd (show wyK 11 = false from h) (by decide), fun _ => HC0.out, fun h => absurd (show nmK 11 = true from h) (by decide), fun h => absurd (show nmK 11 = true from h) (by decide), fun _ => q⟩
    clear q
    go_wp2
    go_ret
    exact ⟨Ans.yes HR.out, HB1.out⟩
  · skip
    by_cases q : ¬ X1 = X2
    · have tX : (X1 != X2) = true := by rw [bne_iff_ne]; exact q
      have HR : Hid (¬ DcOk ⟨12, X1, Y1, X2, Y2, D, C, N, O⟩) := fun h => by
        exact q (h.ax rfl)
      clear q
      go_wp2
      go_ret
      exact ⟨Ans.no HR.out, HB1.out⟩
    have q := Classical.not_not.1 q
    have tX : (X1 != X2) = false := by rw [q]; exact bne_self_eq_false _
    have HEX := hide q
    clear q
    by_cases q : ¬ Y1 = Y2
    · have tY : (Y1 != Y2) = true := by rw [bne_iff_ne]; exact q
      have HR : Hid (¬ DcOk ⟨12, X1, Y1, X2, Y2, D, C, N, O⟩) := fun h => by
        exact q (h.ay rfl)
      clear q
      go_wp2
      go_ret
      exact ⟨Ans.no HR.out, HB1.out⟩
    have q := Classical.not_not.1 q
    have tY : (Y1 != Y2) = false := by rw [q]; exact bne_self_eq_false _
    have HEY := hide q
    clear q
    by_cases q : D < 0
    · have td : decide (D < 0) = true := decide_eq_true q
      have HR : Hid (¬ DcOk ⟨12, X1, Y1, X2, Y2, D, C, N, O⟩) := fun h => by
        have h1 : 0 ≤ D := h.d0; omega
      clear q
      go_wp2
      go_ret
      exact ⟨Ans.no HR.out, HB1.out⟩
    have td : decide (D < 0) = false := decide_eq_false q
    by_cases q2 : 3 < D
    · have te : decide (3 < D) = true := decide_eq_true q2
      have HR : Hid (¬ DcOk ⟨12, X1, Y1, X2, Y2, D, C, N, O⟩) := fun h => by
        have h1 : D ≤ 3 := h.d1; omega
      clear q q2
      go_wp2
      go_ret
      exact ⟨Ans.no HR.out, HB1.out⟩
    have te : decide (3 < D) = false := decide_eq_false q2
    have HD : Hid (0 ≤ D ∧ D ≤ 3) := ⟨by omega, by omega⟩
    clear q q2
    by_cases q : ¬ C = 0
    · have tg : (C != 0) = true := by rw [bne_iff_ne]; exact q
      have HR : Hid (¬ DcOk ⟨12, X1, Y1, X2, Y2, D, C, N, O⟩) := fun h => by
        exact q (h.cz (show (12 : Int) ≠ 13 by decide))
      clear q
      go_wp2
      go_ret
      exact ⟨Ans.no HR.out, HB1.out⟩
    have q := Classical.not_not.1 q
    have tg : (C != 0) = false := by rw [q]; rfl
    have HC0 := hide q
    clear q
    by_cases q : ¬ N.size = 0
    · have th : (((N.size : Nat) : Int) == 0) = false := by rw [beq_eq_false_iff_ne]; omega
      have HR : Hid (¬ DcOk ⟨12, X1, Y1, X2, Y2, D, C, N, O⟩) := fun h => by
        exact q (h.n2 rfl)
      clear q
      go_wp2
      go_ret
      exact ⟨Ans.no HR.out, HB1.out⟩
    have q := Classical.not_not.1 q
    have th : (((N.size : Nat) : Int) == 0) = true := by rw [beq_iff_eq]; omega
    have HR : Hid (DcOk ⟨12, X1, Y1, X2, Y2, D, C, N, O⟩) := ⟨by show (7 : Int) ≤ 12; omega, by show (12 : Int) ≤ 15; omega, H1.out, H2.out, H3.out, H4.out, H5.out, fun _ => HEX.out, fun _ => HEY.out, HD.out.1, HD.out.2, fun h => absurd (show wyK 12 = false from h) (by decide), fun _ => HC0.out, fun h => absurd (show nmK 12 = true from h) (by decide), fun h => absurd (show nmK 12 = true from h) (by decide), fun _ => q⟩
    clear q
    go_wp2
    go_ret
    exact ⟨Ans.yes HR.out, HB1.out⟩
  · skip
    by_cases q : D < 0
    · have td : decide (D < 0) = true := decide_eq_true q
      have HR : Hid (¬ DcOk ⟨13, X1, Y1, X2, Y2, D, C, N, O⟩) := fun h => by
        have h1 : 0 ≤ D := h.d0; omega
      clear q
      go_wp2
      go_ret
      exact ⟨Ans.no HR.out, HB1.out⟩
    have td : decide (D < 0) = false := decide_eq_false q
    by_cases q2 : 3 < D
    · have te : decide (3 < D) = true := decide_eq_true q2
      have HR : Hid (¬ DcOk ⟨13, X1, Y1, X2, Y2, D, C, N, O⟩) := fun h => by
        have h1 : D ≤ 3 := h.d1; omega
      clear q q2
      go_wp2
      go_ret
      exact ⟨Ans.no HR.out, HB1.out⟩
    have te : decide (3 < D) = false := decide_eq_false q2
    have HD : Hid (0 ≤ D ∧ D ≤ 3) := ⟨by omega, by omega⟩
    clear q q2
    by_cases q : ¬ D = 0
    · have tf : (D != 0) = true := by rw [bne_iff_ne]; exact q
      have HR : Hid (¬ DcOk ⟨13, X1, Y1, X2, Y2, D, C, N, O⟩) := fun h => by
        exact q (h.dw rfl)
      clear q
      go_wp2
      go_ret
      exact ⟨Ans.no HR.out, HB1.out⟩
    have q := Classical.not_not.1 q
    have tf : (D != 0) = false := by rw [q]; rfl
    have HD0 := hide q
    clear q
    by_cases q : ¬ N.size = 0
    · have th : (((N.size : Nat) : Int) == 0) = false := by rw [beq_eq_false_iff_ne]; omega
      have HR : Hid (¬ DcOk ⟨13, X1, Y1, X2, Y2, D, C, N, O⟩) := fun h => by
        exact q (h.n2 rfl)
      clear q
      go_wp2
      go_ret
      exact ⟨Ans.no HR.out, HB1.out⟩
    have q := Classical.not_not.1 q
    have th : (((N.size : Nat) : Int) == 0) = true := by rw [beq_iff_eq]; omega
    have HR : Hid (DcOk ⟨13, X1, Y1, X2, Y2, D, C, N, O⟩) := ⟨by show (7 : Int) ≤ 13; omega, by show (13 : Int) ≤ 15; omega, H1.out, H2.out, H3.out, H4.out, H5.out, fun h => absurd (show arK 13 = false from h) (by decide), fun h => absurd (show arK 13 = false from h) (by decide), HD.out.1, HD.out.2, fun _ => HD0.out, fun h => absurd rfl h, fun h => absurd (show nmK 13 = true from h) (by decide), fun h => absurd (show nmK 13 = true from h) (by decide), fun _ => q⟩
    clear q
    go_wp2
    go_ret
    exact ⟨Ans.yes HR.out, HB1.out⟩
  · skip
    by_cases q : ¬ X1 = X2
    · have tX : (X1 != X2) = true := by rw [bne_iff_ne]; exact q
      have HR : Hid (¬ DcOk ⟨14, X1, Y1, X2, Y2, D, C, N, O⟩) := fun h => by
        exact q (h.ax rfl)
      clear q
      go_wp2
      go_ret
      exact ⟨Ans.no HR.out, HB1.out⟩
    have q := Classical.not_not.1 q
    have tX : (X1 != X2) = false := by rw [q]; exact bne_self_eq_false _
    have HEX := hide q
    clear q
    by_cases q : ¬ Y1 = Y2
    · have tY : (Y1 != Y2) = true := by rw [bne_iff_ne]; exact q
      have HR : Hid (¬ DcOk ⟨14, X1, Y1, X2, Y2, D, C, N, O⟩) := fun h => by
        exact q (h.ay rfl)
      clear q
      go_wp2
      go_ret
      exact ⟨Ans.no HR.out, HB1.out⟩
    have q := Classical.not_not.1 q
    have tY : (Y1 != Y2) = false := by rw [q]; exact bne_self_eq_false _
    have HEY := hide q
    clear q
    by_cases q : D < 0
    · have td : decide (D < 0) = true := decide_eq_true q
      have HR : Hid (¬ DcOk ⟨14, X1, Y1, X2, Y2, D, C, N, O⟩) := fun h => by
        have h1 : 0 ≤ D := h.d0; omega
      clear q
      go_wp2
      go_ret
      exact ⟨Ans.no HR.out, HB1.out⟩
    have td : decide (D < 0) = false := decide_eq_false q
    by_cases q2 : 3 < D
    · have te : decide (3 < D) = true := decide_eq_true q2
      have HR : Hid (¬ DcOk ⟨14, X1, Y1, X2, Y2, D, C, N, O⟩) := fun h => by
        have h1 : D ≤ 3 := h.d1; omega
      clear q q2
      go_wp2
      go_ret
      exact ⟨Ans.no HR.out, HB1.out⟩
    have te : decide (3 < D) = false := decide_eq_false q2
    have HD : Hid (0 ≤ D ∧ D ≤ 3) := ⟨by omega, by omega⟩
    clear q q2
    by_cases q : ¬ D = 0
    · have tf : (D != 0) = true := by rw [bne_iff_ne]; exact q
      have HR : Hid (¬ DcOk ⟨14, X1, Y1, X2, Y2, D, C, N, O⟩) := fun h => by
        exact q (h.dw rfl)
      clear q
      go_wp2
      go_ret
      exact ⟨Ans.no HR.out, HB1.out⟩
    have q := Classical.not_not.1 q
    have tf : (D != 0) = false := by rw [q]; rfl
    have HD0 := hide q
    clear q
    by_cases q : ¬ C = 0
    · have tg : (C != 0) = true := by rw [bne_iff_ne]; exact q
      have HR : Hid (¬ DcOk ⟨14, X1, Y1, X2, Y2, D, C, N, O⟩) := fun h => by
        exact q (h.cz (show (14 : Int) ≠ 13 by decide))
      clear q
      go_wp2
      go_ret
      exact ⟨Ans.no HR.out, HB1.out⟩
    have q := Classical.not_not.1 q
    have tg : (C != 0) = false := by rw [q]; rfl
    have HC0 := hide q
    clear q
    by_cases q : ¬ N.size ≤ 60
    · have th : decide (((N.size : Nat) : Int) ≤ 60) = false := decide_eq_false (by omega)
      have HR : Hid (¬ DcOk ⟨14, X1, Y1, X2, Y2, D, C, N, O⟩) := fun h => by
        exact q (h.n0 rfl)
      clear q
      go_wp2
      go_ret
      exact ⟨Ans.no HR.out, HB1.out⟩
    have q := Classical.not_not.1 q
    have th : decide (((N.size : Nat) : Int) ≤ 60) = true := decide_eq_true (by omega)
    have HS := hide q
    clear q
    obtain ⟨G, hG⟩ : ∃ G, (chk N).1 = G := ⟨_, rfl⟩
    rw [hG] at HGD
    by_cases q3 : G = 0
    · have e3 : ((G : Int) == 0) = true := by rw [beq_iff_eq]; omega
      rw [e3] at HGD
      have HR : Hid (DcOk ⟨14, X1, Y1, X2, Y2, D, C, N, O⟩) := ⟨by show (7 : Int) ≤ 14; omega, by show (14 : Int) ≤ 15; omega, H1.out, H2.out, H3.out, H4.out, H5.out, fun _ => HEX.out, fun _ => HEY.out, HD.out.1, HD.out.2, fun _ => HD0.out, fun _ => HC0.out, fun _ => HS.out, fun _ => hG.trans q3, fun h => absurd (show nmK 14 = false from h) (by decide)⟩
      clear hG q3 e3
      go_wp2_with fail
      refine HGD.out.mono ?_
      rintro e w5 ⟨rfl, hb5⟩
      have HB5 : Hid (Below w.heap.size w w5) := HB1.out.trans (hb5.mono HB1.out.size)
      clear hb5
      go_wp2
      go_ret
      exact ⟨Ans.yes HR.out, HB5.out⟩
    · have e3 : ((G : Int) == 0) = false := by rw [beq_eq_false_iff_ne]; omega
      rw [e3] at HGD
      have HR : Hid (¬ DcOk ⟨14, X1, Y1, X2, Y2, D, C, N, O⟩) := fun h => q3 (hG.symm.trans (h.n1 rfl))
      clear hG q3 e3
      go_wp2_with fail
      refine HGD.out.mono ?_
      rintro e w5 ⟨rfl, hb5⟩
      have HB5 : Hid (Below w.heap.size w w5) := HB1.out.trans (hb5.mono HB1.out.size)
      clear hb5
      go_wp2
      go_ret
      exact ⟨Ans.no HR.out, HB5.out⟩
  · skip
    by_cases q : ¬ X1 = X2
    · have tX : (X1 != X2) = true := by rw [bne_iff_ne]; exact q
      have HR : Hid (¬ DcOk ⟨15, X1, Y1, X2, Y2, D, C, N, O⟩) := fun h => by
        exact q (h.ax rfl)
      clear q
      go_wp2
      go_ret
      exact ⟨Ans.no HR.out, HB1.out⟩
    have q := Classical.not_not.1 q
    have tX : (X1 != X2) = false := by rw [q]; exact bne_self_eq_false _
    have HEX := hide q
    clear q
    by_cases q : ¬ Y1 = Y2
    · have tY : (Y1 != Y2) = true := by rw [bne_iff_ne]; exact q
      have HR : Hid (¬ DcOk ⟨15, X1, Y1, X2, Y2, D, C, N, O⟩) := fun h => by
        exact q (h.ay rfl)
      clear q
      go_wp2
      go_ret
      exact ⟨Ans.no HR.out, HB1.out⟩
    have q := Classical.not_not.1 q
    have tY : (Y1 != Y2) = false := by rw [q]; exact bne_self_eq_false _
    have HEY := hide q
    clear q
    by_cases q : D < 0
    · have td : decide (D < 0) = true := decide_eq_true q
      have HR : Hid (¬ DcOk ⟨15, X1, Y1, X2, Y2, D, C, N, O⟩) := fun h => by
        have h1 : 0 ≤ D := h.d0; omega
      clear q
      go_wp2
      go_ret
      exact ⟨Ans.no HR.out, HB1.out⟩
    have td : decide (D < 0) = false := decide_eq_false q
    by_cases q2 : 3 < D
    · have te : decide (3 < D) = true := decide_eq_true q2
      have HR : Hid (¬ DcOk ⟨15, X1, Y1, X2, Y2, D, C, N, O⟩) := fun h => by
        have h1 : D ≤ 3 := h.d1; omega
      clear q q2
      go_wp2
      go_ret
      exact ⟨Ans.no HR.out, HB1.out⟩
    have te : decide (3 < D) = false := decide_eq_false q2
    have HD : Hid (0 ≤ D ∧ D ≤ 3) := ⟨by omega, by omega⟩
    clear q q2
    by_cases q : ¬ D = 0
    · have tf : (D != 0) = true := by rw [bne_iff_ne]; exact q
      have HR : Hid (¬ DcOk ⟨15, X1, Y1, X2, Y2, D, C, N, O⟩) := fun h => by
        exact q (h.dw rfl)
      clear q
      go_wp2
      go_ret
      exact ⟨Ans.no HR.out, HB1.out⟩
    have q := Classical.not_not.1 q
    have tf : (D != 0) = false := by rw [q]; rfl
    have HD0 := hide q
    clear q
    by_cases q : ¬ C = 0
    · have tg : (C != 0) = true := by rw [bne_iff_ne]; exact q
      have HR : Hid (¬ DcOk ⟨15, X1, Y1, X2, Y2, D, C, N, O⟩) := fun h => by
        exact q (h.cz (show (15 : Int) ≠ 13 by decide))
      clear q
      go_wp2
      go_ret
      exact ⟨Ans.no HR.out, HB1.out⟩
    have q := Classical.not_not.1 q
    have tg : (C != 0) = false := by rw [q]; rfl
    have HC0 := hide q
    clear q
    by_cases q : ¬ N.size ≤ 60
    · have th : decide (((N.size : Nat) : Int) ≤ 60) = false := decide_eq_false (by omega)
      have HR : Hid (¬ DcOk ⟨15, X1, Y1, X2, Y2, D, C, N, O⟩) := fun h => by
        exact q (h.n0 rfl)
      clear q
      go_wp2
      go_ret
      exact ⟨Ans.no HR.out, HB1.out⟩
    have q := Classical.not_not.1 q
    have th : decide (((N.size : Nat) : Int) ≤ 60) = true := decide_eq_true (by omega)
    have HS := hide q
    clear q
    obtain ⟨G, hG⟩ : ∃ G, (chk N).1 = G := ⟨_, rfl⟩
    rw [hG] at HGD
    by_cases q3 : G = 0
    · have e3 : ((G : Int) == 0) = true := by rw [beq_iff_eq]; omega
      rw [e3] at HGD
      have HR : Hid (DcOk ⟨15, X1, Y1, X2, Y2, D, C, N, O⟩) := ⟨by show (7 : Int) ≤ 15; omega, by show (15 : Int) ≤ 15; omega, H1.out, H2.out, H3.out, H4.out, H5.out, fun _ => HEX.out, fun _ => HEY.out, HD.out.1, HD.out.2, fun _ => HD0.out, fun _ => HC0.out, fun _ => HS.out, fun _ => hG.trans q3, fun h => absurd (show nmK 15 = false from h) (by decide)⟩
      clear hG q3 e3
      go_wp2_with fail
      refine HGD.out.mono ?_
      rintro e w5 ⟨rfl, hb5⟩
      have HB5 : Hid (Below w.heap.size w w5) := HB1.out.trans (hb5.mono HB1.out.size)
      clear hb5
      go_wp2
      go_ret
      exact ⟨Ans.yes HR.out, HB5.out⟩
    · have e3 : ((G : Int) == 0) = false := by rw [beq_eq_false_iff_ne]; omega
      rw [e3] at HGD
      have HR : Hid (¬ DcOk ⟨15, X1, Y1, X2, Y2, D, C, N, O⟩) := fun h => q3 (hG.symm.trans (h.n1 rfl))
      clear hG q3 e3
      go_wp2_with fail
      refine HGD.out.mono ?_
      rintro e w5 ⟨rfl, hb5⟩
      have HB5 : Hid (Below w.heap.size w w5) := HB1.out.trans (hb5.mono HB1.out.size)
      clear hb5
      go_wp2
      go_ret
      exact ⟨Ans.no HR.out, HB5.out⟩
end Go.Proofs.YtijdlbanfdhfnaaGreatDoor
