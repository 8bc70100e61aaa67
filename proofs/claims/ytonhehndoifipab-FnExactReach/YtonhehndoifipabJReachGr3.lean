/-
  The walk of szGraph.
-/
import Derived.Test.YtonhehndoifipabJReachGr0
import Derived.Test.YtonhehndoifipabJReachKI
namespace Go.Proofs.Ytonhehndoifipab
open Go.RowKit

set_option maxHeartbeats 2000000 in
set_option maxRecDepth 1000000 in
theorem szGr_r {w : World} {d : Gr} {v1 v2 v3 v4 : Value} {left : Int} (h0 : 0 ≤ left) (hl : left ≤ 1048576) (hd : GrL d) (h : GrV w d v1 v2 v3 v4) :
    Calls Try.prog 4 #[gragg d v1 v2 v3 v4, .int .i64 left] w fun e w' => ∃ r, e = .returned (.int .i64 r) ∧ -1 ≤ r ∧ r ≤ left ∧ (0 ≤ r → GrB d) ∧ Below w.heap.size w w' := by
  obtain ⟨x0, x1, x2, x3, x4⟩ := d
  have HH := hide h
  have HD := hide hd
  clear h hd
  unfold gragg
  simp only
  obtain ⟨W0, hW0⟩ : ∃ W, w.alloc (.cells #[.int .i64 x0, v1, v2, v3, v4] 24) = W := ⟨_, rfl⟩
  have HB0 : Hid (Below w.heap.size w W0) := by rw [← hW0]; exact (Below.refl _ _).alloc (Nat.le_refl _) _
  have HA0 : Hid (Blk W0 w.heap.size 24 #[.int .i64 x0, v1, v2, v3, v4]) := by rw [← hW0]; exact Blk.new _ _ _
  have HW := hide hW0
  clear hW0
  go_enter Try.func4, Try.ntmps4
  go_wp2_with fail
  rw [HW.out]
  clear HW
  refine (szI_l h0 hl HD.out.start (HH.out.start.below HB0.out)).mono ?_
  rintro e w2 ⟨r0, rfl, hm0, hn0, ho0, hb2⟩
  have HS0 := hide ho0
  have HA2 := hide (HA0.out.below hb2)
  have HB2 : Hid (Below w.heap.size w w2) := HB0.out.trans (hb2.mono HB0.out.size)
  clear hb2 ho0 HA0 HB0
  by_cases g0 : r0 < 0
  · have t0 : decide (r0 < 0) = true := decide_eq_true g0
    go_wp2
    go_ret
    exact ⟨-1, rfl, by omega, by omega, fun h => by omega, HB2.out⟩
  have t0 : decide (r0 < 0) = false := decide_eq_false g0
  have hl0 : 0 ≤ r0 := by omega
  have hu0 : r0 ≤ 1048576 := by omega
  have c1 := HA2.out.cell 2
  simp only [List.getElem?_toArray, List.getElem?_cons_succ, List.getElem?_cons_zero] at c1
  go_wp2_with fail
  clear c1 t0
  refine (szI_l hl0 hu0 HD.out.to (HH.out.to.below HB2.out)).mono ?_
  rintro e w3 ⟨r1, rfl, hm1, hn1, ho1, hb3⟩
  have HS1 := hide ho1
  have HA3 := hide (HA2.out.below hb3)
  have HB3 : Hid (Below w.heap.size w w3) := HB2.out.trans (hb3.mono HB2.out.size)
  clear hb3 ho1 HA2 HB2
  by_cases g1 : r1 < 0
  · have t1 : decide (r1 < 0) = true := decide_eq_true g1
    go_wp2
    go_ret
    exact ⟨-1, rfl, by omega, by omega, fun h => by omega, HB3.out⟩
  have t1 : decide (r1 < 0) = false := decide_eq_false g1
  have hl1 : 0 ≤ r1 := by omega
  have hu1 : r1 ≤ 1048576 := by omega
  have c1 := HA3.out.cell 3
  simp only [List.getElem?_toArray, List.getElem?_cons_succ, List.getElem?_cons_zero] at c1
  go_wp2_with fail
  clear c1 t1
  refine (szI_l hl1 hu1 HD.out.dir (HH.out.dir.below HB3.out)).mono ?_
  rintro e w4 ⟨r2, rfl, hm2, hn2, ho2, hb4⟩
  have HS2 := hide ho2
  have HA4 := hide (HA3.out.below hb4)
  have HB4 : Hid (Below w.heap.size w w4) := HB3.out.trans (hb4.mono HB3.out.size)
  clear hb4 ho2 HA3 HB3
  by_cases g2 : r2 < 0
  · have t2 : decide (r2 < 0) = true := decide_eq_true g2
    go_wp2
    go_ret
    exact ⟨-1, rfl, by omega, by omega, fun h => by omega, HB4.out⟩
  have t2 : decide (r2 < 0) = false := decide_eq_false g2
  have hl2 : 0 ≤ r2 := by omega
  have hu2 : r2 ≤ 1048576 := by omega
  have c1 := HA4.out.cell 4
  simp only [List.getElem?_toArray, List.getElem?_cons_succ, List.getElem?_cons_zero] at c1
  go_wp2_with fail
  clear c1 t2
  refine (szI_l hl2 hu2 HD.out.cost (HH.out.cost.below HB4.out)).mono ?_
  rintro e w5 ⟨r3, rfl, hm3, hn3, ho3, hb5⟩
  have HS3 := hide ho3
  have HA5 := hide (HA4.out.below hb5)
  have HB5 : Hid (Below w.heap.size w w5) := HB4.out.trans (hb5.mono HB4.out.size)
  clear hb5 ho3 HA4 HB4
  by_cases g3 : r3 < 0
  · have t3 : decide (r3 < 0) = true := decide_eq_true g3
    go_wp2
    go_ret
    exact ⟨-1, rfl, by omega, by omega, fun h => by omega, HB5.out⟩
  have t3 : decide (r3 < 0) = false := decide_eq_false g3
  have hl3 : 0 ≤ r3 := by omega
  have hu3 : r3 ≤ 1048576 := by omega
  go_wp2
  go_ret
  exact ⟨r3, rfl, by omega, by omega, fun _ => ⟨HS0.out (by omega), HS1.out (by omega), HS2.out (by omega), HS3.out (by omega)⟩, HB5.out⟩
end Go.Proofs.Ytonhehndoifipab
