/-
  The walk of eqTables, where both read as the same.
-/
import Derived.Test.YtpnocklldlacjaaDoorJNearestTb0
import Derived.Test.YtpnocklldlacjaaDoorJNearestIIS3
import Derived.Test.YtpnocklldlacjaaDoorJNearestTgS3
namespace Go.Proofs.YtpnocklldlacjaaDoor
open Go.RowKit

set_option maxHeartbeats 2000000 in
set_option maxRecDepth 1000000 in
theorem eqTb_same {w : World} {d : Tb} {p2 p3 p4 q2 q3 q4 : Value} (hb : TbB d) (h1 : TbV w d p2 p3 p4) (h2 : TbV w d q2 q3 q4) :
    Calls Tryd.prog 11 #[tbagg d p2 p3 p4, tbagg d q2 q3 q4] w fun e w' => e = .returned (.bool true) ∧ Below w.heap.size w w' := by
  obtain ⟨x0, x1, x2, x3, x4⟩ := d
  have e0 : (x0 != x0) = false := by simp
  have e1 : (x1 != x1) = false := by simp
  have HB := hide hb
  have H1 := hide h1
  have H2 := hide h2
  clear hb h1 h2
  unfold tbagg
  simp only
  obtain ⟨W0, hW0⟩ : ∃ W, (w.alloc (.cells #[.int .i64 x0, .int .i64 x1, p2, p3, p4] 30)).alloc (.cells #[.int .i64 x0, .int .i64 x1, q2, q3, q4] 30) = W := ⟨_, rfl⟩
  have hb0 : Below w.heap.size w W0 := by rw [← hW0]; exact ((Below.refl _ _).alloc (Nat.le_refl _) _).alloc (by simp) _
  have hA : Blk W0 w.heap.size 30 #[.int .i64 x0, .int .i64 x1, p2, p3, p4] := by rw [← hW0]; exact (Blk.new _ _ _).alloc _
  have hC : Blk W0 (w.heap.size + 1) 30 #[.int .i64 x0, .int .i64 x1, q2, q3, q4] := by
    rw [← hW0]
    have := Blk.new (w.alloc (.cells #[.int .i64 x0, .int .i64 x1, p2, p3, p4] 30)) 30 #[.int .i64 x0, .int .i64 x1, q2, q3, q4]
    simpa using this
  have HA0 := hide hA
  have HC0 := hide hC
  have HB0 := hide hb0
  have HW := hide hW0
  clear hA hC hb0 hW0
  go_enter Tryd.func11, Tryd.ntmps11
  go_wp2_with fail
  rw [HW.out]
  clear HW
  refine (eqTgS_same HB.out.targets (H1.out.targets.below HB0.out) (H2.out.targets.below HB0.out)).mono ?_
  rintro e w2 ⟨rfl, hb2⟩
  have HA2 := hide (HA0.out.below hb2)
  have HC2 := hide (HC0.out.below hb2)
  have HB2 : Hid (Below w.heap.size w w2) := HB0.out.trans (hb2.mono HB0.out.size)
  have a3 := HA2.out.cell 3
  have c3 := HC2.out.cell 3
  have a4 := HA2.out.cell 4
  have c4 := HC2.out.cell 4
  simp only [List.getElem?_toArray, List.getElem?_cons_succ, List.getElem?_cons_zero] at a3 c3 a4 c4
  clear hb2 HA0 HC0 HB0
  go_wp2_with fail
  clear a3 c3 a4 c4
  refine (eqIIS_same HB.out.dist (H1.out.dist.below HB2.out) (H2.out.dist.below HB2.out)).mono ?_
  rintro e w3 ⟨rfl, hb3⟩
  have HA3 := hide (HA2.out.below hb3)
  have HC3 := hide (HC2.out.below hb3)
  have HB3 : Hid (Below w.heap.size w w3) := HB2.out.trans (hb3.mono HB2.out.size)
  have a4 := HA3.out.cell 4
  have c4 := HC3.out.cell 4
  simp only [List.getElem?_toArray, List.getElem?_cons_succ, List.getElem?_cons_zero] at a4 c4
  clear hb3 HA2 HC2 HB2
  go_wp2_with fail
  clear a4 c4
  refine (eqIIS_same HB.out.hop (H1.out.hop.below HB3.out) (H2.out.hop.below HB3.out)).mono ?_
  rintro e w4 ⟨rfl, hb4⟩
  have HA4 := hide (HA3.out.below hb4)
  have HC4 := hide (HC3.out.below hb4)
  have HB4 : Hid (Below w.heap.size w w4) := HB3.out.trans (hb4.mono HB3.out.size)
  clear hb4 HA3 HC3 HB3
  go_wp2
  go_ret
  exact ⟨rfl, HB4.out⟩
end Go.Proofs.YtpnocklldlacjaaDoor
