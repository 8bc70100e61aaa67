/-
  The walks of isSide, isInside, neighbor.
  What a round of a range over a function keeps.
  The walks of waysIn and of the function that it answers.
-/
import Derived.Test.YtiiljckgoiaaoaaDoorJSL4
import Derived.BigQuiet
import Derived.Deep.QuietTactic
import Derived.Test.YtiiljckgoiaaoaaDoorJT
import Derived.RangeFuncNested
import Derived.RangeFuncBound
import Derived.RangeFuncCalls
import Derived.RangeFuncLeaves
import Derived.RangeFuncBox
import Derived.Shelf.Abstract
import Derived.Shelf.RegionOpen
import Derived.OwnWalkIn
import Derived.TacticsInMore
import Derived.LoopNIn
import Derived.LoopIn
import Derived.Maps.AppendAt
import Derived.Sort.QuietIn
namespace Go.Proofs.YtiiljckgoiaaoaaDoor
open Go.RowKit

/-- What wayMoves holds. -/
structure MvOk (w : World) : Prop where
  a0 : w.cell? ⟨1, 0, none⟩ = some (.int .i64 0)
  a1 : w.cell? ⟨1, 1, none⟩ = some (.int .i64 (-1))
  a2 : w.cell? ⟨1, 2, none⟩ = some (.int .i64 1)
  a3 : w.cell? ⟨1, 3, none⟩ = some (.int .i64 0)
  a4 : w.cell? ⟨1, 4, none⟩ = some (.int .i64 0)
  a5 : w.cell? ⟨1, 5, none⟩ = some (.int .i64 1)
  a6 : w.cell? ⟨1, 6, none⟩ = some (.int .i64 (-1))
  a7 : w.cell? ⟨1, 7, none⟩ = some (.int .i64 0)
theorem MvOk.below {w w' : World} (h : MvOk w) (hb : Below w.heap.size w w') : MvOk w' :=
  ⟨cell_kept h.a0 hb, cell_kept h.a1 hb, cell_kept h.a2 hb, cell_kept h.a3 hb, cell_kept h.a4 hb, cell_kept h.a5 hb, cell_kept h.a6 hb, cell_kept h.a7 hb⟩

set_option maxRecDepth 1000000 in
theorem isSide_any (n : Int) (w : World) :
    Calls Tryd.prog 46 #[.int .i64 n] w fun e w' => e = .returned (.bool (decide (1 ≤ n) && decide (n ≤ 40))) ∧ w' = w := by
  obtain ⟨b0, t0⟩ : ∃ b, decide (1 ≤ n) = b := ⟨_, rfl⟩
  obtain ⟨b1, t1⟩ : ∃ b, decide (n ≤ 40) = b := ⟨_, rfl⟩
  rw [t0, t1]
  cases b0 <;> cases b1
  all_goals
    go_enter Tryd.func46, Tryd.ntmps46
    go_wp2
    go_ret
    exact ⟨rfl, rfl⟩

/-- Whether a place is one of the grid. -/
def insd (W H x y : Int) : Bool := decide (0 ≤ x) && decide (x < W) && decide (0 ≤ y) && decide (y < H)
set_option maxRecDepth 1000000 in
theorem isInside_any (W H x y : Int) (w : World) :
    Calls Tryd.prog 67 #[.int .i64 W, .int .i64 H, .int .i64 x, .int .i64 y] w fun e w' => e = .returned (.bool (insd W H x y)) ∧ w' = w := by
  unfold insd
  obtain ⟨b0, t0⟩ : ∃ b, decide (0 ≤ x) = b := ⟨_, rfl⟩
  obtain ⟨b1, t1⟩ : ∃ b, decide (x < W) = b := ⟨_, rfl⟩
  obtain ⟨b2, t2⟩ : ∃ b, decide (0 ≤ y) = b := ⟨_, rfl⟩
  obtain ⟨b3, t3⟩ : ∃ b, decide (y < H) = b := ⟨_, rfl⟩
  rw [t0, t1, t2, t3]
  cases b0 <;> cases b1 <;> cases b2 <;> cases b3
  all_goals
    go_enter Tryd.func67, Tryd.ntmps67
    go_wp2
    go_ret
    exact ⟨rfl, rfl⟩

/-- By how much a way leads on. -/
def dxw (d : Nat) : Int := if d = 1 then 1 else if d = 3 then -1 else 0
def dyw (d : Nat) : Int := if d = 0 then -1 else if d = 2 then 1 else 0
/-- The cell's number that neighbor answers. -/
def nbv (W c : Int) (d : Nat) : Int := (c / W + dyw d) * W + (c % W + dxw d)
theorem insd_toC {W H c : Int} {d : Nat} (hw0 : 1 ≤ W) (hc0 : 0 ≤ c) (hc1 : c < W * H) (hd : d < 4) :
    insd W H (c % W + dxw d) (c / W + dyw d) = decide (0 ≤ toC W H c d) ∧ (0 ≤ toC W H c d → nbv W c d = toC W H c d) := by
  obtain ⟨hy0, hy1, hx0, hx1⟩ := toC_div hw0 hc0 hc1
  unfold nbv toC insd dxw dyw
  generalize c / W = y at *
  generalize c % W = x at *
  have e1 : (y - 1) * W = y * W - W := by rw [Int.sub_mul, Int.one_mul]
  have e2 : (y + 1) * W = y * W + W := by rw [Int.add_mul, Int.one_mul]
  have e3 : (y + -1) * W = y * W - W := by rw [Int.add_mul, Int.neg_mul, Int.one_mul]; omega
  have e4 : (y + 0) * W = y * W := by rw [Int.add_zero]
  have p1 : 0 ≤ y * W := Int.mul_nonneg hy0 (by omega)
  have p2 : 1 ≤ y → W ≤ y * W := fun h => by have := Int.mul_le_mul_of_nonneg_right h (show 0 ≤ W by omega); omega
  have hd4 : d = 0 ∨ d = 1 ∨ d = 2 ∨ d = 3 := by omega
  rcases hd4 with rfl | rfl | rfl | rfl
  all_goals simp (decide := true) only [↓reduceIte, e1, e2, e3, e4]
  all_goals
    refine ⟨?_, ?_⟩
    · rw [Bool.eq_iff_iff]
      simp only [Bool.and_eq_true, decide_eq_true_eq]
      split <;> constructor <;> intro h <;> omega
    · split <;> intro h <;> omega

set_option maxHeartbeats 1000000 in
set_option maxRecDepth 1000000 in
theorem neighbor_any (W H c : Int) (d : Nat) (w : World) (hm : MvOk w) (hw0 : 1 ≤ W) (hw1 : W ≤ 40) (hh1 : H ≤ 40) (hc0 : 0 ≤ c) (hc1 : c < W * H) (hd : d < 4) :
    Calls Tryd.prog 58 #[.int .i64 W, .int .i64 H, .int .i64 c, .int .i64 d] w fun e w' => e = .returned (.tuple #[.int .i64 (nbv W c d), .bool (decide (0 ≤ toC W H c d))]) ∧ Below w.heap.size w w' := by
  obtain ⟨hy0, hy1, hx0, hx1⟩ := toC_div hw0 hc0 hc1
  obtain ⟨hin, _⟩ := insd_toC hw0 hc0 hc1 hd
  rw [← hin]
  clear hin
  have hdm : c.tdiv W = c / W := Int.tdiv_eq_ediv_of_nonneg hc0
  have hmm : c.tmod W = c % W := Int.tmod_eq_emod_of_nonneg hc0
  have hWne : (W == 0) = false := by rw [beq_eq_false_iff_ne]; omega
  unfold nbv
  generalize c / W = y at *
  generalize c % W = x at *
  have p1 : 0 ≤ y * W ∧ y * W ≤ 1600 := ⟨Int.mul_nonneg hy0 (by omega), by have := Int.mul_le_mul (show y ≤ 40 by omega) hw1 (by omega) (by omega); omega⟩
  have HI := hide (fun x y w => isInside_any W H x y w)
  obtain ⟨m0, m1, m2, m3, m4, m5, m6, m7⟩ := hm
  have hd4 : d = 0 ∨ d = 1 ∨ d = 2 ∨ d = 3 := by omega
  clear hd hc0 hc1
  have p2 : (y + -1) * W = y * W - W := by rw [Int.add_mul, Int.neg_mul, Int.one_mul]; omega
  have p3 : (y + 1) * W = y * W + W := by rw [Int.add_mul, Int.one_mul]
  have p4 : -1000 ≤ (y + -1) * W ∧ (y + -1) * W ≤ 1700 := by omega
  have p5 : -1000 ≤ (y + 1) * W ∧ (y + 1) * W ≤ 1700 := by omega
  clear p2 p3
  rcases hd4 with rfl | rfl | rfl | rfl
  all_goals
    simp (decide := true) only [dxw, dyw, ↓reduceIte, Int.add_zero]
    go_enter Tryd.func58, Tryd.ntmps58
    go_wp2_with fail
    go_quiet (fail)
    go_wp2_with fail
    go_quiet (fail)
    go_wp2_with fail
    refine (HI.out _ _ _).mono ?_
    rintro e w1 ⟨rfl, rfl⟩
    go_wp2
    go_ret2
    exact ⟨rfl, below_drewN (Below.refl _ _) _⟩
end Go.Proofs.YtiiljckgoiaaoaaDoor

namespace Go.Proofs.YtiiljckgoiaaoaaDoor
open Go.RowKit Go.Shelf

/-- What is kept over a round: what lay below n₀, and the box of the source. -/
def KpB (n₀ Bn : Nat) (W W' : World) : Prop := Below n₀ W W' ∧ W'.cell? ⟨Bn, 0, none⟩ = W.cell? ⟨Bn, 0, none⟩

theorem below_grown {w w' : World} (hb : Below w.heap.size w w') : w.grownBy w' none := ⟨hb.os, hb.tape, hb.output, hb.size, fun k hk _ => hb.block k hk⟩
theorem kpB_t {n₀ Bn : Nat} {A B C : World} (h : KpB n₀ Bn A B) (k : KpB n₀ Bn B C) : KpB n₀ Bn A C := ⟨h.1.trans k.1, k.2.trans h.2⟩
theorem kpB_b {n₀ Bn : Nat} {w : World} (hn : n₀ ≤ w.heap.size) (hB : Bn < w.heap.size) (W : World) (l : Nat) (o o' : Obj) (hl : w.heap.size ≤ l) (h : W.heap[l]? = some o) (h1 : o.isCells = false) (h2 : o.isWalk = false) : KpB n₀ Bn W (W.putObj l o') :=
  ⟨belowK_b hn W l o o' hl h h1 h2, (belowK_b (n₀ := Bn + 1) (w := w) hB W l o o' hl h h1 h2).cell (p := ⟨Bn, 0, none⟩) (Nat.lt_succ_self _)⟩

theorem box_kept {W W' : World} {row : Option Nat} {B : Nat} {t : TypeId} {v : Value} (h : Boxed W B t v) (hg : W.grownBy W' row) (hr : ∀ r, row = some r → ∃ o : Obj, W.heap[r]? = some o ∧ o.isCells = false) : Boxed W' B t v :=
  h.kept hg (fun e' => by obtain ⟨o, ho, hc⟩ := hr B e'.symm; rw [show W.heap[B]? = _ from h] at ho; cases ho; cases hc)
end Go.Proofs.YtiiljckgoiaaoaaDoor

namespace Go.Proofs.YtiiljckgoiaaoaaDoor
open Go.RowKit Go.Shelf

attribute [local go_sem] Oper.semAt_some

def encW (x : Fin 4) : Array Value := #[.int .i64 (x.1 : Nat)]
def wy1 (P : Nat → Bool) (d : Fin 4) : List (Fin 4) := if P d.1 then [d] else []
/-- The ways of a sum, from k on. -/
def wyr (P : Nat → Bool) : Nat → List (Fin 4)
  | 0 => wy1 P 0 ++ (wy1 P 1 ++ (wy1 P 2 ++ (wy1 P 3 ++ [])))
  | 1 => wy1 P 1 ++ (wy1 P 2 ++ (wy1 P 3 ++ []))
  | 2 => wy1 P 2 ++ (wy1 P 3 ++ [])
  | 3 => wy1 P 3 ++ []
  | _ => []
theorem wyr_step (P : Nat → Bool) (k : Nat) (h : k < 4) : wyr P k = wy1 P ⟨k, h⟩ ++ wyr P (k + 1) := by
  match k, h with
  | 0, _ => rfl
  | 1, _ => rfl
  | 2, _ => rfl
  | 3, _ => rfl

set_option maxRecDepth 1000000 in
set_option maxHeartbeats 1000000 in
theorem waysIn_in (n : Nat) (s : Int) (w : World) :
    CallsIn Fence.wide n Tryd.prog 54 #[.int .i64 s] w fun e w' => e = .returned (.func (.func 65) #[] #[.pointer (some ⟨w.heap.size, 0, none⟩)]) ∧ w' = w.alloc (.cells #[.int .i64 s] 3) := by
  refine callsIn_of_wp Tryd.func54 rfl trivial ?_ rfl
  simp only [Tryd.ntmps54, List.size_toArray, List.length_cons, List.length_nil, Nat.reduceAdd, Nat.reduceSub, Array.replicate_succ, Array.replicate_zero, List.push_toArray, List.append_toArray, List.nil_append, List.cons_append]
  gi_wp2
  go_ret
  exact ⟨rfl, rfl⟩

/-- What a round's body answers, as one bool. -/
theorem yb_of {e : Ending} {A B : Prop} (h : (e = .returned (.bool true) ∧ A) ∨ (e = .returned (.bool false) ∧ B)) : ∃ b : Bool, e = .returned (.bool b) ∧ ((b = true ∧ A) ∨ (b = false ∧ B)) := by
  rcases h with ⟨h1, h2⟩ | ⟨h1, h2⟩
  · exact ⟨true, h1, .inl ⟨rfl, h2⟩⟩
  · exact ⟨false, h1, .inr ⟨rfl, h2⟩⟩

set_option maxRecDepth 1000000 in
set_option maxHeartbeats 4000000 in
theorem ways1_in (n : Nat) (hn : 1 ≤ n) (l Bn : Nat) (s : Int) (P : Nat → Bool) (hP0 : (bits .and .i64 s 1 != 0) = P 0) (hP1 : (bits .and .i64 s 2 != 0) = P 1) (hP2 : (bits .and .i64 s 4 != 0) = P 2) (hP3 : (bits .and .i64 s 8 != 0) = P 3) (J Jx : List (Fin 4) → World → Prop) (W w0 : World) (hJ : AbidesFrom W.heap.size J)
    (hY : ∀ pre x W1, J pre W1 → pre.length < (wyr P 0).length → YieldAt Fence.wide (n - 1) Tryd.prog l (encW x) W1 fun e W' =>
      (e = .returned (.bool true) ∧ J (pre ++ [x]) W' ∧ KpB w0.heap.size Bn W1 W') ∨ (e = .returned (.bool false) ∧ Jx (pre ++ [x]) W'))
    (hBn : W.cell? ⟨Bn, 0, none⟩ = some (.int .i64 s)) (hW : Below w0.heap.size w0 W) (h0 : J [] W) :
    CallsIn Fence.wide n Tryd.prog 65 #[.func (.yield l) #[] #[], .pointer (some ⟨Bn, 0, none⟩)] W fun e W' => (∃ v, e = .returned v) ∧
      ((∃ ys, ys = wyr P 0 ∧ J ys W') ∨ (∃ pre, pre <+: wyr P 0 ∧ Jx pre W')) := by
  obtain ⟨A, hA⟩ : ∃ A, wyr P 0 = A := ⟨_, rfl⟩
  rw [hA] at hY ⊢
  have HA := hide hA
  have HJ := hide hJ
  have HY := hide hY
  have HW := hide hW
  have H0 := hide h0
  have HP : Hid (((bits .and .i64 s 1 != 0) = P 0) ∧ ((bits .and .i64 s 2 != 0) = P 1) ∧ ((bits .and .i64 s 4 != 0) = P 2) ∧ ((bits .and .i64 s 8 != 0) = P 3)) := ⟨hP0, hP1, hP2, hP3⟩
  clear hA hJ hY hW h0 hP0 hP1 hP2 hP3
  refine callsIn_of_wp Tryd.func65 rfl trivial ?_ rfl
  simp only [Tryd.ntmps65, List.size_toArray, List.length_cons, List.length_nil, Nat.reduceAdd, Nat.reduceSub, Array.replicate_succ, Array.replicate_zero, List.push_toArray, List.append_toArray, List.nil_append, List.cons_append]
  gi_wp2
  gi_loopw [4] (fun ix wr => ∃ (k : Nat) (pre : List (Fin 4)), ix = .int .i64 k ∧ k ≤ 4 ∧ A = pre ++ wyr P k ∧ J pre wr ∧ Below w0.heap.size w0 wr ∧ W.heap.size ≤ wr.heap.size ∧ wr.cell? ⟨Bn, 0, none⟩ = some (.int .i64 s)) (fun ix _ => 4 - (intOf ix).toNat)
  case atStart => exact ⟨0, [], rfl, Nat.zero_le _, by rw [HA.out]; rfl, H0.out, HW.out, Nat.le_refl _, hBn⟩
  case round =>
    obtain ⟨k, pre, rfl, hk, hA, hJs, hbl, hWs, hcs⟩ := hrel
    have HAA := hide hA
    have HJS := hide hJs
    have HBL := hide hbl
    clear hA hJs hbl
    by_cases hlt : k < 4
    · have d1 : decide ((k : Int) < 4) = true := decide_eq_true (by omega)
      have hst := hide (wyr_step P k hlt)
      obtain ⟨m, hm, hz⟩ : ∃ m : Int, (bits .and .i64 s m != 0) = P k ∧ ((k = 0 ∧ m = 1) ∨ (k = 1 ∧ m = 2) ∨ (k = 2 ∧ m = 4) ∨ (k = 3 ∧ m = 8)) := by
        obtain ⟨e0, e1, e2, e3⟩ := HP.out
        match k, hlt with
        | 0, _ => exact ⟨1, e0, by simp⟩
        | 1, _ => exact ⟨2, e1, by simp⟩
        | 2, _ => exact ⟨4, e2, by simp⟩
        | 3, _ => exact ⟨8, e3, by simp⟩
      obtain ⟨b, hb⟩ : ∃ b, P k = b := ⟨_, rfl⟩
      rw [hb] at hm
      have e1 : IntKind.i64.wrap 1 = 1 := by decide
      have e2 : IntKind.i64.wrap 2 = 2 := by decide
      have e4 : IntKind.i64.wrap 4 = 4 := by decide
      have e8 : IntKind.i64.wrap 8 = 8 := by decide
      cases b with
      | false =>
        have HE : Hid (A = pre ++ wyr P (k + 1)) := by
          show _ = _
          rw [HAA.out, hst.out]
          unfold wy1
          simp [hb]
        rcases hz with ⟨rfl, rfl⟩ | ⟨rfl, rfl⟩ | ⟨rfl, rfl⟩ | ⟨rfl, rfl⟩
        · gi_wp2
          refine wpIn_region_quiet_lit rfl (by kernel_rfl) (by kernel_rfl) ?_
          repeat (gi_big_quiet_step (fail))
          refine BigFrame.wpQuietIn_skip (fun _ _ _ _ => trivial) rfl ?_
          change wpQuietIn _ _ _ _ _ _ _ { tmps := #[_, _, _, _, _, _, _, _, _, _, _, _, _, _, _, undef, _, _, _], defers := [] }
          repeat (gi_big_quiet_step (fail))
          refine wpQuietIn_nil ?_
          rintro _ ⟨nq, rfl⟩
          gi_wp2
          go_roundw
          case rel => exact ⟨1, pre, rfl, by omega, HE.out, HJ.out pre wr _ none HJS.out (below_grown (below_drewN (Below.refl _ _) nq)) (fun r e => by cases e), below_drewN HBL.out nq, hWs, hcs⟩
          case measure => simp [intOf]
        · gi_wp2
          refine wpIn_region_quiet_lit rfl (by kernel_rfl) (by kernel_rfl) ?_
          repeat (gi_big_quiet_step (fail))
          refine BigFrame.wpQuietIn_skip (fun _ _ _ _ => trivial) rfl ?_
          change wpQuietIn _ _ _ _ _ _ _ { tmps := #[_, _, _, _, _, _, _, _, _, _, _, _, _, _, _, undef, _, _, _], defers := [] }
          repeat (gi_big_quiet_step (fail))
          refine wpQuietIn_nil ?_
          rintro _ ⟨nq, rfl⟩
          gi_wp2
          go_roundw
          case rel => exact ⟨2, pre, rfl, by omega, HE.out, HJ.out pre wr _ none HJS.out (below_grown (below_drewN (Below.refl _ _) nq)) (fun r e => by cases e), below_drewN HBL.out nq, hWs, hcs⟩
          case measure => simp [intOf]
        · gi_wp2
          refine wpIn_region_quiet_lit rfl (by kernel_rfl) (by kernel_rfl) ?_
          repeat (gi_big_quiet_step (fail))
          refine BigFrame.wpQuietIn_skip (fun _ _ _ _ => trivial) rfl ?_
          change wpQuietIn _ _ _ _ _ _ _ { tmps := #[_, _, _, _, _, _, _, _, _, _, _, _, _, _, _, undef, _, _, _], defers := [] }
          repeat (gi_big_quiet_step (fail))
          refine wpQuietIn_nil ?_
          rintro _ ⟨nq, rfl⟩
          gi_wp2
          go_roundw
          case rel => exact ⟨3, pre, rfl, by omega, HE.out, HJ.out pre wr _ none HJS.out (below_grown (below_drewN (Below.refl _ _) nq)) (fun r e => by cases e), below_drewN HBL.out nq, hWs, hcs⟩
          case measure => simp [intOf]
        · gi_wp2
          refine wpIn_region_quiet_lit rfl (by kernel_rfl) (by kernel_rfl) ?_
          repeat (gi_big_quiet_step (fail))
          refine BigFrame.wpQuietIn_skip (fun _ _ _ _ => trivial) rfl ?_
          change wpQuietIn _ _ _ _ _ _ _ { tmps := #[_, _, _, _, _, _, _, _, _, _, _, _, _, _, _, undef, _, _, _], defers := [] }
          repeat (gi_big_quiet_step (fail))
          refine wpQuietIn_nil ?_
          rintro _ ⟨nq, rfl⟩
          gi_wp2
          go_roundw
          case rel => exact ⟨4, pre, rfl, by omega, HE.out, HJ.out pre wr _ none HJS.out (below_grown (below_drewN (Below.refl _ _) nq)) (fun r e => by cases e), below_drewN HBL.out nq, hWs, hcs⟩
          case measure => simp [intOf]
      | true =>
        have HE : Hid (A = (pre ++ [⟨k, hlt⟩]) ++ wyr P (k + 1)) := by
          show _ = _
          rw [HAA.out, hst.out]
          unfold wy1
          simp [hb]
        have hlen : pre.length < A.length := by rw [HE.out]; simp
        obtain ⟨fn, tmps, assign, body, hy, hR⟩ := HY.out pre ⟨k, hlt⟩ wr.drew (HJ.out pre wr wr.drew none HJS.out (below_grown (Below.refl _ _).drew) (fun r e => by cases e)) hlen
        dsimp only [encW] at hy
        obtain ⟨kk, hkk⟩ : ∃ kk : Int, (k : Int) = kk := ⟨_, rfl⟩
        rw [hkk] at hy
        have hZ : Hid (∀ A B, KpB w0.heap.size Bn A B → A.heap.size ≤ B.heap.size) := fun A B h => h.1.size
        rcases hz with ⟨rfl, rfl⟩ | ⟨rfl, rfl⟩ | ⟨rfl, rfl⟩ | ⟨rfl, rfl⟩
        · obtain rfl : kk = 0 := by omega
          gi_wp2
          gi_region_with_o (refine hR.mono ?_; rintro e W3 hc; obtain ⟨b, rfl, hc2⟩ := yb_of hc; have HC := hide hc2; clear hc hc2)
          all_goals
            rcases HC.out with ⟨rfl, hJ3, hk3⟩ | ⟨rfl, hJx3⟩
            · have hc3 : W3.cell? ⟨Bn, 0, none⟩ = some (.int .i64 s) := hk3.2.trans hcs
              have HB3 : Hid (Below w0.heap.size w0 W3) := HBL.out.drew.trans hk3.1
              have hWs3 : W.heap.size ≤ W3.heap.size := Nat.le_trans hWs (hZ.out wr.drew W3 hk3)
              have HJ3 := hide hJ3
              clear hk3 hJ3 HC
              gi_wp2
              go_roundw
              case rel => exact ⟨1, _, rfl, by omega, HE.out, HJ3.out, HB3.out, hWs3, hc3⟩
              case measure => simp [intOf]
            · clear HC
              gi_wp2
              refine bodyPost_ret (results_none rfl _ _ _) rfl ?_
              exact ⟨⟨_, rfl⟩, .inr ⟨_, ⟨_, HE.out.symm⟩, hJx3⟩⟩
        · obtain rfl : kk = 1 := by omega
          gi_wp2
          gi_region_with_o (refine hR.mono ?_; rintro e W3 hc; obtain ⟨b, rfl, hc2⟩ := yb_of hc; have HC := hide hc2; clear hc hc2)
          all_goals
            rcases HC.out with ⟨rfl, hJ3, hk3⟩ | ⟨rfl, hJx3⟩
            · have hc3 : W3.cell? ⟨Bn, 0, none⟩ = some (.int .i64 s) := hk3.2.trans hcs
              have HB3 : Hid (Below w0.heap.size w0 W3) := HBL.out.drew.trans hk3.1
              have hWs3 : W.heap.size ≤ W3.heap.size := Nat.le_trans hWs (hZ.out wr.drew W3 hk3)
              have HJ3 := hide hJ3
              clear hk3 hJ3 HC
              gi_wp2
              go_roundw
              case rel => exact ⟨2, _, rfl, by omega, HE.out, HJ3.out, HB3.out, hWs3, hc3⟩
              case measure => simp [intOf]
            · clear HC
              gi_wp2
              refine bodyPost_ret (results_none rfl _ _ _) rfl ?_
              exact ⟨⟨_, rfl⟩, .inr ⟨_, ⟨_, HE.out.symm⟩, hJx3⟩⟩
        · obtain rfl : kk = 2 := by omega
          gi_wp2
          gi_region_with_o (refine hR.mono ?_; rintro e W3 hc; obtain ⟨b, rfl, hc2⟩ := yb_of hc; have HC := hide hc2; clear hc hc2)
          all_goals
            rcases HC.out with ⟨rfl, hJ3, hk3⟩ | ⟨rfl, hJx3⟩
            · have hc3 : W3.cell? ⟨Bn, 0, none⟩ = some (.int .i64 s) := hk3.2.trans hcs
              have HB3 : Hid (Below w0.heap.size w0 W3) := HBL.out.drew.trans hk3.1
              have hWs3 : W.heap.size ≤ W3.heap.size := Nat.le_trans hWs (hZ.out wr.drew W3 hk3)
              have HJ3 := hide hJ3
              clear hk3 hJ3 HC
              gi_wp2
              go_roundw
              case rel => exact ⟨3, _, rfl, by omega, HE.out, HJ3.out, HB3.out, hWs3, hc3⟩
              case measure => simp [intOf]
            · clear HC
              gi_wp2
              refine bodyPost_ret (results_none rfl _ _ _) rfl ?_
              exact ⟨⟨_, rfl⟩, .inr ⟨_, ⟨_, HE.out.symm⟩, hJx3⟩⟩
        · obtain rfl : kk = 3 := by omega
          gi_wp2
          gi_region_with_o (refine hR.mono ?_; rintro e W3 hc; obtain ⟨b, rfl, hc2⟩ := yb_of hc; have HC := hide hc2; clear hc hc2)
          all_goals
            rcases HC.out with ⟨rfl, hJ3, hk3⟩ | ⟨rfl, hJx3⟩
            · have hc3 : W3.cell? ⟨Bn, 0, none⟩ = some (.int .i64 s) := hk3.2.trans hcs
              have HB3 : Hid (Below w0.heap.size w0 W3) := HBL.out.drew.trans hk3.1
              have hWs3 : W.heap.size ≤ W3.heap.size := Nat.le_trans hWs (hZ.out wr.drew W3 hk3)
              have HJ3 := hide hJ3
              clear hk3 hJ3 HC
              gi_wp2
              go_roundw
              case rel => exact ⟨4, _, rfl, by omega, HE.out, HJ3.out, HB3.out, hWs3, hc3⟩
              case measure => simp [intOf]
            · clear HC
              gi_wp2
              refine bodyPost_ret (results_none rfl _ _ _) rfl ?_
              exact ⟨⟨_, rfl⟩, .inr ⟨_, ⟨_, HE.out.symm⟩, hJx3⟩⟩
    · have d1 : decide ((k : Int) < 4) = false := decide_eq_false (by omega)
      have HE : Hid (A = pre) := by
        obtain rfl : k = 4 := by omega
        show _ = _; rw [HAA.out]; exact List.append_nil _
      gi_wp2
      go_end0
      exact ⟨⟨_, rfl⟩, .inl ⟨_, HE.out.symm, HJS.out⟩⟩
end Go.Proofs.YtiiljckgoiaaoaaDoor
