/-
  Plainly: a valid layout; the walk of spec.ValidLayout.
-/
import Derived.Test.YtaapababeecmeaaDoorJShowLayoutLy0
import Derived.Test.YtaapababeecmeaaDoorJShowLayoutSL4
import Derived.Test.YtaapababeecmeaaDoorJShowLayoutSL4
import Derived.Test.YtaapababeecmeaaDoorJShowLayoutSL5
import Derived.Test.YtaapababeecmeaaDoorJShowLayoutSLT
namespace Go.Proofs.YtaapababeecmeaaDoor
open Go.RowKit

/-- A cell may stand. -/
structure ClOk (d : Ly) (c : Nat) : Prop where
  c0 : 0 ≤ d.cost.getD c 0
  c1 : d.cost.getD c 0 ≤ 9
  e0 : 0 ≤ d.exits.getD c 0
  e1 : d.exits.getD c 0 ≤ 15
  wall : d.cost.getD c 0 = 0 → d.exits.getD c 0 = 0
  way : ∀ k, k < 4 → bitAt (d.exits.getD c 0) k = true → 0 ≤ toC d.w d.h c k ∧ d.cost.getD (toC d.w d.h c k).toNat 0 ≠ 0
/-- A layout is valid. -/
structure LyOk (d : Ly) : Prop where
  w0 : 1 ≤ d.w
  w1 : d.w ≤ 40
  h0 : 1 ≤ d.h
  h1 : d.h ≤ 40
  cl : (d.cost.length : Int) = d.w * d.h
  el : (d.exits.length : Int) = d.w * d.h
  tg : TgsOk (d.w * d.h) d.targets
  cells : ∀ c, c < d.cost.length → ClOk d c
  tc : ∀ i, i < d.targets.length → d.cost.getD (d.targets.getD i .zero).cell.toNat 0 ≠ 0

set_option maxHeartbeats 4000000 in
set_option maxRecDepth 1000000 in
theorem specLayout_any (d : Ly) (v2 v3 v4 : Value) (w : World) (hb : LyB d) (h : LyV w d v2 v3 v4) :
    Calls Tryd.prog 7 #[lyagg d v2 v3 v4] w fun e w' => Ans (LyOk d) e ∧ Below w.heap.size w w' := by
  have hs2 := hb.cost
  have hs3 := hb.exits
  have HTB := hide hb.targets
  have HTV := hide h.targets
  obtain ⟨a2, b2, o2, c2, rfl, ha2, hc2⟩ := h.cost
  obtain ⟨a3, b3, o3, c3, rfl, ha3, hc3⟩ := h.exits
  obtain ⟨a4, b4, o4, c4, rfl, ha4, hc4⟩ := h.targets
  have HC2 : Hid (∀ w2, Below w.heap.size w w2 → ∀ j, j < d.cost.length → w2.cell? ⟨b2, o2 + j, none⟩ = some (.int .i64 (d.cost.getD j 0))) := fun w2 hb2 j hj => cell_kept (hc2 j hj) hb2
  have HC3 : Hid (∀ w2, Below w.heap.size w w2 → ∀ j, j < d.exits.length → w2.cell? ⟨b3, o3 + j, none⟩ = some (.int .i64 (d.exits.getD j 0))) := fun w2 hb2 j hj => cell_kept (hc3 j hj) hb2
  have HC4 : Hid (∀ w2, Below w.heap.size w w2 → ∀ j, j < d.targets.length → w2.cell? ⟨b4, o4 + j * 3 + 2, none⟩ = some (.int .i64 (d.targets.getD j .zero).cell)) := fun w2 hb2 j hj => by
    obtain ⟨_, h1, _⟩ := hc4 j hj
    exact cell_kept h1.cell hb2
  have hl4 := hb.targets.len
  unfold lyagg
  clear hc2 hc3 hc4 h hb
  obtain ⟨X, Y, C, E, T⟩ := d
  simp only at hs2 hs3 HTB HTV ha2 ha3 ha4 HC2 HC3 HC4 hl4 ⊢
  obtain ⟨W0, hW0⟩ : ∃ W, w.alloc (.cells #[.int .i64 X, .int .i64 Y, .slice a2 C.length c2, .slice a3 E.length c3, .slice a4 T.length c4] 30) = W := ⟨_, rfl⟩
  have hB0 : Below w.heap.size w W0 := by rw [← hW0]; exact (Below.refl _ _).alloc (Nat.le_refl _) _
  have hA0 : Blk W0 w.heap.size 30 #[.int .i64 X, .int .i64 Y, .slice a2 C.length c2, .slice a3 E.length c3, .slice a4 T.length c4] := by rw [← hW0]; exact Blk.new _ _ _
  have z0 := hA0.cell 0
  have z1 := hA0.cell 1
  have z2 := hA0.cell 2
  have z3 := hA0.cell 3
  have z4 := hA0.cell 4
  simp only [List.getElem?_toArray, List.getElem?_cons_succ, List.getElem?_cons_zero] at z0 z1 z2 z3 z4
  have HW := hide hW0
  have HB := hide hB0
  clear hW0 hB0 hA0
  by_cases q1 : X < 1
  · have t1 : decide (X < 1) = true := decide_eq_true q1
    have HR : Hid (¬ LyOk ⟨X, Y, C, E, T⟩) := fun h => by have h1 : 1 ≤ X := h.w0; omega
    have hW := HW.out
    go_enter Tryd.func7, Tryd.ntmps7
    go_wp2
    go_ret
    exact ⟨Ans.no HR.out, HB.out⟩
  have t1 : decide (X < 1) = false := decide_eq_false q1
  by_cases q2 : 40 < X
  · have t2 : decide (40 < X) = true := decide_eq_true q2
    have HR : Hid (¬ LyOk ⟨X, Y, C, E, T⟩) := fun h => by have h1 : X ≤ 40 := h.w1; omega
    have hW := HW.out
    go_enter Tryd.func7, Tryd.ntmps7
    go_wp2
    go_ret
    exact ⟨Ans.no HR.out, HB.out⟩
  have t2 : decide (40 < X) = false := decide_eq_false q2
  by_cases q3 : Y < 1
  · have t3 : decide (Y < 1) = true := decide_eq_true q3
    have HR : Hid (¬ LyOk ⟨X, Y, C, E, T⟩) := fun h => by have h1 : 1 ≤ Y := h.h0; omega
    have hW := HW.out
    go_enter Tryd.func7, Tryd.ntmps7
    go_wp2
    go_ret
    exact ⟨Ans.no HR.out, HB.out⟩
  have t3 : decide (Y < 1) = false := decide_eq_false q3
  by_cases q4 : 40 < Y
  · have t4 : decide (40 < Y) = true := decide_eq_true q4
    have HR : Hid (¬ LyOk ⟨X, Y, C, E, T⟩) := fun h => by have h1 : Y ≤ 40 := h.h1; omega
    have hW := HW.out
    go_enter Tryd.func7, Tryd.ntmps7
    go_wp2
    go_ret
    exact ⟨Ans.no HR.out, HB.out⟩
  have t4 : decide (40 < Y) = false := decide_eq_false q4
  have hn0 : 0 < X * Y := Int.mul_pos (by omega) (by omega)
  have hn1 : X * Y ≤ 1600 := by
    have : X * Y ≤ 40 * 40 := Int.mul_le_mul (by omega) (by omega) (by omega) (by omega)
    omega
  have HTO := hide (fun (c k : Nat) (hc : (c : Int) < X * Y) (hk : k < 4) w => l4to_any X Y c k w (by omega) (by omega) (by omega) (by omega) (by omega) hc hk)
  have HTL := hide (fun (c k : Nat) (hc : (c : Int) < X * Y) => toC_lt (h := Y) (show (1 : Int) ≤ X by omega) (by omega) hc k)
  have HXY : Hid (1 ≤ X ∧ X ≤ 40 ∧ 1 ≤ Y ∧ Y ≤ 40) := by show _ ∧ _; omega
  obtain ⟨n, hn⟩ : ∃ n : Nat, X * Y = n := ⟨(X * Y).toNat, by omega⟩
  have HN := hide hn
  have hnb : (n : Int) ≤ 1600 := by omega
  have hnp : 0 < n := by omega
  clear q1 q2 q3 q4 hn0 hn1
  by_cases q5 : ¬ (C.length : Int) = (n : Int)
  · have t5 : ((C.length : Int) != (n : Int)) = true := by rw [bne_iff_ne]; exact q5
    have HR : Hid (¬ LyOk ⟨X, Y, C, E, T⟩) := fun h => q5 (by have h1 : (C.length : Int) = X * Y := h.cl; rw [← HN.out]; exact h1)
    have hW := HW.out
    clear q5
    go_enter Tryd.func7, Tryd.ntmps7
    go_wp2
    go_ret
    exact ⟨Ans.no HR.out, HB.out⟩
  have t5 : ((C.length : Int) != (n : Int)) = false := by rw [bne_eq_false_iff_eq]; omega
  have HQ5 : Hid (C.length = n) := by show _ = _; omega
  clear q5
  by_cases q6 : ¬ (E.length : Int) = (n : Int)
  · have t6 : ((E.length : Int) != (n : Int)) = true := by rw [bne_iff_ne]; exact q6
    have HR : Hid (¬ LyOk ⟨X, Y, C, E, T⟩) := fun h => q6 (by have h1 : (E.length : Int) = X * Y := h.el; rw [← HN.out]; exact h1)
    have hW := HW.out
    clear q6
    go_enter Tryd.func7, Tryd.ntmps7
    go_wp2
    go_ret
    exact ⟨Ans.no HR.out, HB.out⟩
  have t6 : ((E.length : Int) != (n : Int)) = false := by rw [bne_eq_false_iff_eq]; omega
  have HQ6 : Hid (E.length = n) := by show _ = _; omega
  have HTG := hide (l4targets_any _ T (n : Int) W0 HTB.out (HTV.out.below HB.out))
  have hW := HW.out
  clear q6
  go_enter Tryd.func7, Tryd.ntmps7
  go_wp2_with fail
  refine HTG.out.mono ?_
  rintro e w1 ⟨⟨tb, rfl, hti⟩, hb1⟩
  have HTI := hide hti
  have HB1 : Hid (Below w.heap.size w w1) := HB.out.trans (hb1.mono HB.out.size)
  have y0 := cell_kept z0 hb1
  have y1 := cell_kept z1 hb1
  have y2 := cell_kept z2 hb1
  have y3 := cell_kept z3 hb1
  have y4 := cell_kept z4 hb1
  have HSZ : Hid (w.heap.size < w1.heap.size) := World.block_lt_of_cell? _ _ y0
  clear hti hb1 z0 z1 z2 z3 z4 hW
  cases tb with
  | false =>
    have HR : Hid (¬ LyOk ⟨X, Y, C, E, T⟩) := fun h => by
      have h1 : TgsOk (X * Y) T := h.tg
      rw [HN.out] at h1
      have := HTI.out.2 h1; cases this
    go_wp2
    go_ret
    exact ⟨Ans.no HR.out, HB1.out⟩
  | true =>
    have HTK := hide (HTI.out.1 rfl)
    go_wp2
    clear t1 t2 t3 t4 t5 t6 hn
    go_loopw [4] (fun ix wr => ∃ k : Nat, k ≤ n ∧ ix = .int .i64 k ∧ (∀ c, c < k → ClOk ⟨X, Y, C, E, T⟩ c) ∧ Below w.heap.size w wr ∧ Below w1.heap.size w1 wr) (fun ix _ => n - (intOf ix).toNat)
    case atStart => exact ⟨0, Nat.zero_le _, rfl, fun _ h => absurd h (Nat.not_lt_zero _), HB1.out, Below.refl _ _⟩
    case round =>
      obtain ⟨k, hk, rfl, hcl, hb, hbw⟩ := hrel
      rename World => wo
      have HCL := hide hcl
      have HBR := hide hb
      have HBW := hide hbw
      have x0 := cell_kept y0 hbw
      have x1 := cell_kept y1 hbw
      have x2 := cell_kept y2 hbw
      have x3 := cell_kept y3 hbw
      have x4 := cell_kept y4 hbw
      clear hcl
      by_cases hlt : k < n
      · have hlti : (k : Int) < (n : Int) := by omega
        have hkC : (k : Int) < (C.length : Int) := by have := HQ5.out; omega
        have hkE : (k : Int) < (E.length : Int) := by have := HQ6.out; omega
        obtain rfl := ha2 (by omega)
        obtain rfl := ha3 (by omega)
        have f2 := HC2.out wo hb k (by omega)
        have f3 := HC3.out wo hb k (by omega)
        obtain ⟨x, hx⟩ : ∃ x, C.getD k 0 = x := ⟨_, rfl⟩
        obtain ⟨y, hy⟩ : ∃ y, E.getD k 0 = y := ⟨_, rfl⟩
        rw [hx] at f2
        rw [hy] at f3
        have HX := hide hx
        have HY := hide hy
        have HKC : Hid (k < C.length) := by show _ < _; omega
        clear hx hy hb hbw y0 y1 y2 y3 y4
        by_cases r0 : x < 0
        · have s0 : decide (x < 0) = true := decide_eq_true r0
          have HR : Hid (¬ LyOk ⟨X, Y, C, E, T⟩) := fun h => by have h1 : 0 ≤ C.getD k 0 := (h.cells k HKC.out).c0; rw [HX.out] at h1; omega
          go_wp2
          go_ret
          exact ⟨Ans.no HR.out, HBR.out⟩
        have s0 : decide (x < 0) = false := decide_eq_false r0
        by_cases r1 : 9 < x
        · have s1 : decide (9 < x) = true := decide_eq_true r1
          have HR : Hid (¬ LyOk ⟨X, Y, C, E, T⟩) := fun h => by have h1 : C.getD k 0 ≤ 9 := (h.cells k HKC.out).c1; rw [HX.out] at h1; omega
          go_wp2
          go_ret
          exact ⟨Ans.no HR.out, HBR.out⟩
        have s1 : decide (9 < x) = false := decide_eq_false r1
        by_cases r2 : y < 0
        · have s2 : decide (y < 0) = true := decide_eq_true r2
          have HR : Hid (¬ LyOk ⟨X, Y, C, E, T⟩) := fun h => by have h1 : 0 ≤ E.getD k 0 := (h.cells k HKC.out).e0; rw [HY.out] at h1; omega
          go_wp2
          go_ret
          exact ⟨Ans.no HR.out, HBR.out⟩
        have s2 : decide (y < 0) = false := decide_eq_false r2
        by_cases r3 : 15 < y
        · have s3 : decide (15 < y) = true := decide_eq_true r3
          have HR : Hid (¬ LyOk ⟨X, Y, C, E, T⟩) := fun h => by have h1 : E.getD k 0 ≤ 15 := (h.cells k HKC.out).e1; rw [HY.out] at h1; omega
          go_wp2
          go_ret
          exact ⟨Ans.no HR.out, HBR.out⟩
        have s3 : decide (15 < y) = false := decide_eq_false r3
        by_cases r4 : x = 0 ∧ y ≠ 0
        · have s4 : (x == 0) = true := by rw [beq_iff_eq]; exact r4.1
          have s5 : (y != 0) = true := by rw [bne_iff_ne]; exact r4.2
          have HR : Hid (¬ LyOk ⟨X, Y, C, E, T⟩) := fun h => by
            have h1 : C.getD k 0 = 0 → E.getD k 0 = 0 := (h.cells k HKC.out).wall
            rw [HX.out, HY.out] at h1; exact r4.2 (h1 r4.1)
          clear r4
          go_wp2
          go_ret
          exact ⟨Ans.no HR.out, HBR.out⟩
        have HWL : Hid (x = 0 → y = 0) := fun h => by
          rcases Classical.em (y = 0) with g | g
          · exact g
          · exact absurd ⟨h, g⟩ r4
        have s4 : (x == 0 && y != 0) = false := by
          rw [Bool.and_eq_false_iff, beq_eq_false_iff_ne, bne_eq_false_iff_eq]
          rcases Classical.em (x = 0) with g | g
          · exact .inr (HWL.out g)
          · exact .inl g
        have HBT := hide (l4bits_any y wo (by omega) (by omega))
        clear r4
        have HXB : Hid (0 ≤ x ∧ x ≤ 9 ∧ 0 ≤ y ∧ y ≤ 15) := by show _ ∧ _; omega
        clear s4
        by_cases r5 : x = 0
        case' pos =>
          have s5 : (x == 0) = true := by rw [beq_iff_eq]; exact r5
          have s6 : (y != 0) = false := by rw [bne_eq_false_iff_eq]; exact HWL.out r5
          clear r5
          go_wp2_with fail
        case' neg =>
          have s5 : (x == 0) = false := by rw [beq_eq_false_iff_ne]; exact r5
          clear r5
          go_wp2_with fail
        all_goals
          refine HBT.out.mono ?_
          rintro e w5 ⟨u, rfl, hu, hb5⟩
          have HB5 : Hid (Below w.heap.size w w5) := HBR.out.trans (hb5.mono HBR.out.size)
          have HBW5 : Hid (Below w1.heap.size w1 w5) := HBW.out.trans (hb5.mono HBW.out.size)
          have v0 := cell_kept x0 hb5
          have v1 := cell_kept x1 hb5
          have v2 := cell_kept x2 hb5
          obtain ⟨au, bu, ou, cu, rfl, hau, hcu⟩ := hu
          obtain rfl := hau (by simp)
          have HCU : Hid (∀ j, j < 4 → w5.cell? ⟨bu, ou + j, none⟩ = some (.bool (bitAt y j))) := fun j hj => by
            rw [hcu j (by simpa using hj)]
            have : j = 0 ∨ j = 1 ∨ j = 2 ∨ j = 3 := by omega
            rcases this with rfl | rfl | rfl | rfl <;> rfl
          have hu4 : [bitAt y 0, bitAt y 1, bitAt y 2, bitAt y 3].length = 4 := rfl
          rw [hu4]
          clear hb5 hau hcu hu4 x0 x1 x2 x3 x4 f2 f3 HBT s0 s1 s2 s3 s5
          go_wp2
          go_loopw [6] (fun jx wq => ∃ j : Nat, j ≤ 4 ∧ jx = .int .i64 j ∧ (∀ i, i < j → bitAt y i = true → 0 ≤ toC X Y k i ∧ C.getD (toC X Y k i).toNat 0 ≠ 0) ∧ wq = w5) (fun jx _ => 4 - (intOf jx).toNat)
          case atStart => exact ⟨0, Nat.zero_le _, rfl, fun _ h => absurd h (Nat.not_lt_zero _), rfl⟩
          case round =>
            obtain ⟨j, hj, rfl, hwy, hwq⟩ := hrel
            obtain rfl : w5 = wr := hwq.symm
            have HWY := hide hwy
            clear hwy
            by_cases hj4 : j < 4
            · have hji : (j : Int) < 4 := by omega
              have HT4 := hide (HTO.out k j (by rw [HN.out]; omega) hj4)
              have htl := HTL.out k j (by rw [HN.out]; omega)
              rw [HN.out] at htl
              have g := HCU.out j hj4
              obtain ⟨z, hz⟩ : ∃ z, toC X Y k j = z := ⟨_, rfl⟩
              rw [hz] at htl
              simp only [hz] at HT4
              have HZ := hide hz
              obtain ⟨B, hB⟩ : ∃ B, bitAt y j = B := ⟨_, rfl⟩
              rw [hB] at g
              have HBT := hide hB
              clear hz hB
              cases B with
              | false =>
                have HW1 : Hid (∀ i, i < j + 1 → bitAt y i = true → 0 ≤ toC X Y k i ∧ C.getD (toC X Y k i).toNat 0 ≠ 0) := fun i hi hbi => by
                  by_cases e : i = j
                  · rw [e, HBT.out] at hbi; cases hbi
                  · exact HWY.out i (by omega) hbi
                go_wp2_with fail
                refine (HT4.out _).mono ?_
                rintro e w6 ⟨rfl, rfl⟩
                go_wp2
                go_roundw
                case rel => exact ⟨j + 1, by omega, by go_num, HW1.out, by trivial⟩
                case measure => simp [intOf]; omega
              | true =>
                by_cases r6 : z < 0
                · have s6 : decide (z < 0) = true := decide_eq_true r6
                  have HR : Hid (¬ LyOk ⟨X, Y, C, E, T⟩) := fun h => by
                    have h1 := (h.cells k HKC.out).way j hj4
                    simp only [HY.out, HZ.out] at h1
                    have := (h1 HBT.out).1; omega
                  go_wp2_with fail
                  refine (HT4.out _).mono ?_
                  rintro e w6 ⟨rfl, rfl⟩
                  go_wp2
                  go_ret
                  exact ⟨Ans.no HR.out, HB5.out⟩
                have s6 : decide (z < 0) = false := decide_eq_false r6
                have hz0 : 0 ≤ z := by omega
                have hzC : z < (C.length : Int) := by have := HQ5.out; omega
                have f5 := HC2.out w5 HB5.out z.toNat (by omega)
                obtain ⟨q, hq⟩ : ∃ q, C.getD z.toNat 0 = q := ⟨_, rfl⟩
                rw [hq] at f5
                have HQ := hide hq
                clear hq
                by_cases r7 : q = 0
                · have s7 : (q == 0) = true := by rw [beq_iff_eq]; exact r7
                  have HR : Hid (¬ LyOk ⟨X, Y, C, E, T⟩) := fun h => by
                    have h1 := (h.cells k HKC.out).way j hj4
                    simp only [HY.out, HZ.out, HQ.out] at h1
                    exact (h1 HBT.out).2 r7
                  clear r7
                  go_wp2_with fail
                  refine (HT4.out _).mono ?_
                  rintro e w6 ⟨rfl, rfl⟩
                  go_wp2
                  go_ret
                  exact ⟨Ans.no HR.out, HB5.out⟩
                have s7 : (q == 0) = false := by rw [beq_eq_false_iff_ne]; exact r7
                have HW1 : Hid (∀ i, i < j + 1 → bitAt y i = true → 0 ≤ toC X Y k i ∧ C.getD (toC X Y k i).toNat 0 ≠ 0) := fun i hi hbi => by
                  by_cases e : i = j
                  · rw [e, HZ.out, HQ.out]; exact ⟨hz0, r7⟩
                  · exact HWY.out i (by omega) hbi
                clear r7
                go_wp2_with fail
                refine (HT4.out _).mono ?_
                rintro e w6 ⟨rfl, rfl⟩
                go_wp2
                go_roundw
                case rel => exact ⟨j + 1, by omega, by go_num, HW1.out, by trivial⟩
                case measure => simp [intOf]; omega
            · have hji : ¬ (j : Int) < 4 := by omega
              have HCL1 : Hid (∀ c, c < k + 1 → ClOk ⟨X, Y, C, E, T⟩ c) := fun c hc => by
                by_cases e : c = k
                · subst e
                  obtain ⟨p0, p1, p2, p3⟩ := HXB.out
                  exact ⟨by show 0 ≤ C.getD c 0; rw [HX.out]; exact p0, by show C.getD c 0 ≤ 9; rw [HX.out]; exact p1, by show 0 ≤ E.getD c 0; rw [HY.out]; exact p2, by show E.getD c 0 ≤ 15; rw [HY.out]; exact p3, by show C.getD c 0 = 0 → E.getD c 0 = 0; rw [HX.out, HY.out]; exact HWL.out, fun i hi hbi => by
                    have hbi' : bitAt (E.getD c 0) i = true := hbi
                    rw [HY.out] at hbi'
                    exact HWY.out i (by omega) hbi'⟩
                · exact HCL.out c (by omega)
              go_wp2
              go_roundw
              case rel => exact ⟨k + 1, by omega, by go_num, HCL1.out, HB5.out, HBW5.out⟩
              case measure => simp [intOf]; omega
      · have hge : ¬ (k : Int) < (n : Int) := by omega
        have HCA : Hid (∀ c, c < C.length → ClOk ⟨X, Y, C, E, T⟩ c) := fun c hc => HCL.out c (by have := HQ5.out; omega)
        clear hb hbw y0 y1 y2 y3 y4
        go_wp2
        clear hge
        go_loopw [8] (fun ix wq => ∃ i p : Nat, i ≤ T.length ∧ ix = .int .i64 i ∧ (∀ c, c < i → C.getD (T.getD c .zero).cell.toNat 0 ≠ 0) ∧ wq = wo.drewN p) (fun ix _ => T.length - (intOf ix).toNat)
        case atStart => exact ⟨0, 0, Nat.zero_le _, rfl, fun _ h => absurd h (Nat.not_lt_zero _), rfl⟩
        case round =>
          obtain ⟨i, p, hi, rfl, htc, rfl⟩ := hrel
          have HTC := hide htc
          have HBD := hide (below_drewN HBR.out p)
          clear htc
          by_cases hiT : i < T.length
          · have hii : (i : Int) < (T.length : Int) := by omega
            obtain rfl := ha4 (by omega)
            obtain rfl := ha2 (by have := HQ5.out; omega)
            have f4 := HC4.out wo HBR.out i hiT
            obtain ⟨z, hz⟩ : ∃ z, (T.getD i .zero).cell = z := ⟨_, rfl⟩
            rw [hz] at f4
            have hc0 := (HTK.out.each i hiT).c0
            have hc1 := (HTK.out.each i hiT).c1
            rw [hz] at hc0 hc1
            have HZ := hide hz
            have hzC : z < (C.length : Int) := by have := HQ5.out; omega
            have f5 := HC2.out wo HBR.out z.toNat (by omega)
            obtain ⟨q, hq⟩ : ∃ q, C.getD z.toNat 0 = q := ⟨_, rfl⟩
            rw [hq] at f5
            have HQ := hide hq
            clear hz hq
            by_cases r7 : q = 0
            · have s7 : (q == 0) = true := by rw [beq_iff_eq]; exact r7
              have HR : Hid (¬ LyOk ⟨X, Y, C, E, T⟩) := fun h => h.tc i hiT (by
                show C.getD (T.getD i .zero).cell.toNat 0 = 0
                rw [HZ.out, HQ.out]; exact r7)
              clear r7
              go_wp2_with fail
              go_quiet (fail)
              go_wp2
              go_ret
              exact ⟨Ans.no HR.out, below_drewN HBD.out _⟩
            · have s7 : (q == 0) = false := by rw [beq_eq_false_iff_ne]; exact r7
              have HTC1 : Hid (∀ c, c < i + 1 → C.getD (T.getD c .zero).cell.toNat 0 ≠ 0) := fun c hc => by
                by_cases e : c = i
                · rw [e, HZ.out, HQ.out]; exact r7
                · exact HTC.out c (by omega)
              clear r7
              go_wp2_with fail
              go_quiet (fail)
              go_wp2
              go_roundw
              case rel => exact ⟨i + 1, _, by omega, by go_num, HTC1.out, rfl⟩
              case measure => simp [intOf]; omega
          · have hii : ¬ (i : Int) < (T.length : Int) := by omega
            have HOK : Hid (LyOk ⟨X, Y, C, E, T⟩) := by
              obtain ⟨p0, p1, p2, p3⟩ := HXY.out
              refine ⟨p0, p1, p2, p3, ?_, ?_, ?_, HCA.out, fun c hc => HTC.out c (by have : c < T.length := hc; omega)⟩
              · show (C.length : Int) = X * Y; rw [HN.out, HQ5.out]
              · show (E.length : Int) = X * Y; rw [HN.out, HQ6.out]
              · show TgsOk (X * Y) T; rw [HN.out]; exact HTK.out
            go_wp2
            go_ret
            exact ⟨Ans.yes HOK.out, HBD.out⟩
end Go.Proofs.YtaapababeecmeaaDoor
