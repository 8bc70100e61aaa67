/-
  The walks of isSide, isInside, neighbor.
-/
import Derived.Test.YteicpjbeihabnaaDoorJRunFleetSL4
import Derived.BigQuiet
import Derived.Deep.QuietTactic
namespace Go.Proofs.YteicpjbeihabnaaDoor
open Go.RowKit

/-- What wayMoves holds. -/
structure MvOk (w : World) : Prop where
  a0 : w.cell? ⟨0, 0, none⟩ = some (.int .i64 0)
  a1 : w.cell? ⟨0, 1, none⟩ = some (.int .i64 (-1))
  a2 : w.cell? ⟨0, 2, none⟩ = some (.int .i64 1)
  a3 : w.cell? ⟨0, 3, none⟩ = some (.int .i64 0)
  a4 : w.cell? ⟨0, 4, none⟩ = some (.int .i64 0)
  a5 : w.cell? ⟨0, 5, none⟩ = some (.int .i64 1)
  a6 : w.cell? ⟨0, 6, none⟩ = some (.int .i64 (-1))
  a7 : w.cell? ⟨0, 7, none⟩ = some (.int .i64 0)
theorem MvOk.below {w w' : World} (h : MvOk w) (hb : Below w.heap.size w w') : MvOk w' :=
  ⟨cell_kept h.a0 hb, cell_kept h.a1 hb, cell_kept h.a2 hb, cell_kept h.a3 hb, cell_kept h.a4 hb, cell_kept h.a5 hb, cell_kept h.a6 hb, cell_kept h.a7 hb⟩

set_option maxRecDepth 1000000 in
theorem isSide_any (n : Int) (w : World) :
    Calls Tryd.prog 68 #[.int .i64 n] w fun e w' => e = .returned (.bool (decide (1 ≤ n) && decide (n ≤ 40))) ∧ w' = w := by
  obtain ⟨b0, t0⟩ : ∃ b, decide (1 ≤ n) = b := ⟨_, rfl⟩
  obtain ⟨b1, t1⟩ : ∃ b, decide (n ≤ 40) = b := ⟨_, rfl⟩
  rw [t0, t1]
  cases b0 <;> cases b1
  all_goals
    go_enter Tryd.func68, Tryd.ntmps68
    go_wp2
    go_ret
    exact ⟨rfl, rfl⟩

/-- Whether a place is one of the grid. -/
def insd (W H x y : Int) : Bool := decide (0 ≤ x) && decide (x < W) && decide (0 ≤ y) && decide (y < H)
set_option maxRecDepth 1000000 in
theorem isInside_any (W H x y : Int) (w : World) :
    Calls Tryd.prog 86 #[.int .i64 W, .int .i64 H, .int .i64 x, .int .i64 y] w fun e w' => e = .returned (.bool (insd W H x y)) ∧ w' = w := by
  unfold insd
  obtain ⟨b0, t0⟩ : ∃ b, decide (0 ≤ x) = b := ⟨_, rfl⟩
  obtain ⟨b1, t1⟩ : ∃ b, decide (x < W) = b := ⟨_, rfl⟩
  obtain ⟨b2, t2⟩ : ∃ b, decide (0 ≤ y) = b := ⟨_, rfl⟩
  obtain ⟨b3, t3⟩ : ∃ b, decide (y < H) = b := ⟨_, rfl⟩
  rw [t0, t1, t2, t3]
  cases b0 <;> cases b1 <;> cases b2 <;> cases b3
  all_goals
    go_enter Tryd.func86, Tryd.ntmps86
    go_wp2
    go_ret
    exact ⟨rfl, rfl⟩

/-- By how much a way leads on. -/
def dxw (d : Nat) : Int := if d = 1 then 1 else if d = 3 then -1 else 0
def dyw (d : Nat) : Int := if d = 0 then -1 else if d = 2 then 1 else 0
/-- The cell's number that neighbor answers. -/
def nbv (W c : Int) (d : Nat) : Int := (c / W + dyw d) * W + (c % W + dxw d)
theorem insd_toC {W H c : Int} {d : Nat} (hw0 : 1 ≤ W) (hc0 : 0 ≤ c) (hc1 : c < W * H) (hd : d < 4) :
    insd W H (c % W + dxw d) (c / W + dyw d) = decide (0 ≤ toC W H c d) ∧ (0 ≤ toC W H c d → nbv W c d = toC W H c d) := by
  obtain ⟨hy0, hy1, hx0, hx1⟩ := toC_div hw0 hc0 hc1
  unfold nbv toC insd dxw dyw
  generalize c / W = y at *
  generalize c % W = x at *
  have e1 : (y - 1) * W = y * W - W := by rw [Int.sub_mul, Int.one_mul]
  have e2 : (y + 1) * W = y * W + W := by rw [Int.add_mul, Int.one_mul]
  have e3 : (y + -1) * W = y * W - W := by rw [Int.add_mul, Int.neg_mul, Int.one_mul]; omega
  have e4 : (y + 0) * W = y * W := by rw [Int.add_zero]
  have p1 : 0 ≤ y * W := Int.mul_nonneg hy0 (by omega)
  have p2 : 1 ≤ y → W ≤ y * W := fun h => by have := Int.mul_le_mul_of_nonneg_right h (show 0 ≤ W by omega); omega
  have hd4 : d = 0 ∨ d = 1 ∨ d = 2 ∨ d = 3 := by omega
  rcases hd4 with rfl | rfl | rfl | rfl
  all_goals simp (decide := true) only [↓reduceIte, e1, e2, e3, e4]
  all_goals
    refine ⟨?_, ?_⟩
    · rw [Bool.eq_iff_iff]
      simp only [Bool.and_eq_true, decide_eq_true_eq]
      split <;> constructor <;> intro h <;> omega
    · split <;> intro h <;> omega

set_option maxHeartbeats 1000000 in
set_option maxRecDepth 1000000 in
theorem neighbor_any (W H c : Int) (d : Nat) (w : World) (hm : MvOk w) (hw0 : 1 ≤ W) (hw1 : W ≤ 40) (hh1 : H ≤ 40) (hc0 : 0 ≤ c) (hc1 : c < W * H) (hd : d < 4) :
    Calls Tryd.prog 74 #[.int .i64 W, .int .i64 H, .int .i64 c, .int .i64 d] w fun e w' => e = .returned (.tuple #[.int .i64 (nbv W c d), .bool (decide (0 ≤ toC W H c d))]) ∧ Below w.heap.size w w' := by
  obtain ⟨hy0, hy1, hx0, hx1⟩ := toC_div hw0 hc0 hc1
  obtain ⟨hin, _⟩ := insd_toC hw0 hc0 hc1 hd
  rw [← hin]
  clear hin
  have hdm : c.tdiv W = c / W := Int.tdiv_eq_ediv_of_nonneg hc0
  have hmm : c.tmod W = c % W := Int.tmod_eq_emod_of_nonneg hc0
  have hWne : (W == 0) = false := by rw [beq_eq_false_iff_ne]; omega
  unfold nbv
  generalize c / W = y at *
  generalize c % W = x at *
  have p1 : 0 ≤ y * W ∧ y * W ≤ 1600 := ⟨Int.mul_nonneg hy0 (by omega), by have := Int.mul_le_mul (show y ≤ 40 by omega) hw1 (by omega) (by omega); omega⟩
  have HI := hide (fun x y w => isInside_any W H x y w)
  obtain ⟨m0, m1, m2, m3, m4, m5, m6, m7⟩ := hm
  have hd4 : d = 0 ∨ d = 1 ∨ d = 2 ∨ d = 3 := by omega
  clear hd hc0 hc1
  have p2 : (y + -1) * W = y * W - W := by rw [Int.add_mul, Int.neg_mul, Int.one_mul]; omega
  have p3 : (y + 1) * W = y * W + W := by rw [Int.add_mul, Int.one_mul]
  have p4 : -1000 ≤ (y + -1) * W ∧ (y + -1) * W ≤ 1700 := by omega
  have p5 : -1000 ≤ (y + 1) * W ∧ (y + 1) * W ≤ 1700 := by omega
  clear p2 p3
  rcases hd4 with rfl | rfl | rfl | rfl
  all_goals
    simp (decide := true) only [dxw, dyw, ↓reduceIte, Int.add_zero]
    go_enter Tryd.func74, Tryd.ntmps74
    go_wp2_with fail
    go_quiet (fail)
    go_wp2_with fail
    go_quiet (fail)
    go_wp2_with fail
    refine (HI.out _ _ _).mono ?_
    rintro e w1 ⟨rfl, rfl⟩
    go_wp2
    go_ret2
    exact ⟨rfl, below_drewN (Below.refl _ _) _⟩
end Go.Proofs.YteicpjbeihabnaaDoor
