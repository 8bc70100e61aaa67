/-
  The walk of eqTarget, where both read as the same.
-/
import Derived.Test.YteicpjbeihabnaaDoorJNextIIS0
import Derived.Test.YteicpjbeihabnaaDoorJNextIB
namespace Go.Proofs.YteicpjbeihabnaaDoor
open Go.RowKit

set_option maxHeartbeats 2000000 in
set_option maxRecDepth 1000000 in
theorem eqTg_same {w : World} {d : Tg} {p0 q0 : Value} (hb : TgB d) (h1 : TgV w d p0) (h2 : TgV w d q0) :
    Calls Tryd.prog 71 #[tgagg d p0, tgagg d q0] w fun e w' => e = .returned (.bool true) ∧ Below w.heap.size w w' := by
  obtain ⟨x0, x1, x2⟩ := d
  have e1 : (x1 != x1) = false := by simp
  have e2 : (x2 != x2) = false := by simp
  have HB := hide hb
  have H1 := hide h1
  have H2 := hide h2
  clear hb h1 h2
  unfold tgagg
  simp only
  obtain ⟨W0, hW0⟩ : ∃ W, (w.alloc (.cells #[p0, .int .i64 x1, .int .i64 x2] 66)).alloc (.cells #[q0, .int .i64 x1, .int .i64 x2] 66) = W := ⟨_, rfl⟩
  have hb0 : Below w.heap.size w W0 := by rw [← hW0]; exact ((Below.refl _ _).alloc (Nat.le_refl _) _).alloc (by simp) _
  have hA : Blk W0 w.heap.size 66 #[p0, .int .i64 x1, .int .i64 x2] := by rw [← hW0]; exact (Blk.new _ _ _).alloc _
  have hC : Blk W0 (w.heap.size + 1) 66 #[q0, .int .i64 x1, .int .i64 x2] := by
    rw [← hW0]
    have := Blk.new (w.alloc (.cells #[p0, .int .i64 x1, .int .i64 x2] 66)) 66 #[q0, .int .i64 x1, .int .i64 x2]
    simpa using this
  have HA0 := hide hA
  have HC0 := hide hC
  have HB0 := hide hb0
  have HW := hide hW0
  clear hA hC hb0 hW0
  go_enter Tryd.func71, Tryd.ntmps71
  go_wp2_with fail
  rw [HW.out]
  clear HW
  refine (eqB_self HB.out.name (H1.out.name.below HB0.out) (H2.out.name.below HB0.out)).mono ?_
  rintro e w2 ⟨rfl, hb2⟩
  have HA2 := hide (HA0.out.below hb2)
  have HC2 := hide (HC0.out.below hb2)
  have HB2 : Hid (Below w.heap.size w w2) := HB0.out.trans (hb2.mono HB0.out.size)
  have a1 := HA2.out.cell 1
  have c1 := HC2.out.cell 1
  have a2 := HA2.out.cell 2
  have c2 := HC2.out.cell 2
  simp only [List.getElem?_toArray, List.getElem?_cons_succ, List.getElem?_cons_zero] at a1 c1 a2 c2
  clear hb2 HA0 HC0 HB0
  go_wp2
  go_ret
  exact ⟨rfl, HB2.out⟩
end Go.Proofs.YteicpjbeihabnaaDoor
