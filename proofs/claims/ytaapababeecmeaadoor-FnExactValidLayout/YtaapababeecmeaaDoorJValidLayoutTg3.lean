/-
  The walk of szTarget.
-/
import Derived.Test.YtaapababeecmeaaDoorJValidLayoutTg0
import Derived.Test.YtaapababeecmeaaDoorJValidLayoutSB0
namespace Go.Proofs.YtaapababeecmeaaDoor
open Go.RowKit

set_option maxHeartbeats 2000000 in
set_option maxRecDepth 1000000 in
theorem szTg_r {w : World} {d : Tg} {v0 : Value} {left : Int} (h0 : 0 ≤ left) (hl : left ≤ 1048576) (hd : TgL d) (h : TgV w d v0) :
    Calls Tryd.prog 48 #[tgagg d v0, .int .i64 left] w fun e w' => ∃ r, e = .returned (.int .i64 r) ∧ -1 ≤ r ∧ r ≤ left ∧ (0 ≤ r → TgB d) ∧ Below w.heap.size w w' := by
  obtain ⟨x0, x1, x2⟩ := d
  have HH := hide h
  have HD := hide hd
  clear h hd
  unfold tgagg
  simp only
  obtain ⟨W0, hW0⟩ : ∃ W, w.alloc (.cells #[v0, .int .i64 x1, .int .i64 x2] 71) = W := ⟨_, rfl⟩
  have HB0 : Hid (Below w.heap.size w W0) := by rw [← hW0]; exact (Below.refl _ _).alloc (Nat.le_refl _) _
  have HA0 : Hid (Blk W0 w.heap.size 71 #[v0, .int .i64 x1, .int .i64 x2]) := by rw [← hW0]; exact Blk.new _ _ _
  have HW := hide hW0
  clear hW0
  go_enter Tryd.func48, Tryd.ntmps48
  go_wp2_with fail
  rw [HW.out]
  clear HW
  refine (szB_r h0 hl HD.out.name (HH.out.name.below HB0.out)).mono ?_
  rintro e w2 ⟨r0, rfl, hm0, hn0, ho0, hb2⟩
  have HS0 := hide ho0
  have HA2 := hide (HA0.out.below hb2)
  have HB2 : Hid (Below w.heap.size w w2) := HB0.out.trans (hb2.mono HB0.out.size)
  clear hb2 ho0 HA0 HB0
  by_cases g0 : r0 < 0
  · have t0 : decide (r0 < 0) = true := decide_eq_true g0
    go_wp2
    go_ret
    exact ⟨-1, rfl, by omega, by omega, fun h => by omega, HB2.out⟩
  have t0 : decide (r0 < 0) = false := decide_eq_false g0
  have hl0 : 0 ≤ r0 := by omega
  have hu0 : r0 ≤ 1048576 := by omega
  go_wp2
  go_ret
  exact ⟨r0, rfl, by omega, by omega, fun _ => ⟨HS0.out (by omega)⟩, HB2.out⟩
end Go.Proofs.YtaapababeecmeaaDoor
