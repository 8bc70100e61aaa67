/-
  The walk of toTarget.
-/
import Derived.Test.YtpnocklldlacjaaDoorJNearestIIS0
import Derived.Test.YtpnocklldlacjaaDoorJNearestIB
import Derived.Laws.MakeOwn
namespace Go.Proofs.YtpnocklldlacjaaDoor
open Go.RowKit

set_option maxHeartbeats 2000000 in
set_option maxRecDepth 1000000 in
theorem toTg_any (d : Tg) (v0 : Value) (w : World) (hb : TgB d) (h : TgV w d v0) :
    Calls Tryd.prog 54 #[tgagg d v0] w fun e w' => ∃ v0', e = .returned (tgagg d v0') ∧ (∀ G, G < w.heap.size → TgO w' G d v0') ∧ Below w.heap.size w w' := by
  obtain ⟨x0, x1, x2⟩ := d
  have HH := hide h
  have hk0 := hb.name
  simp only at hk0
  unfold tgagg
  simp only
  obtain ⟨W0, hW0⟩ : ∃ W, ((w.alloc (.cells #[v0, .int .i64 x1, .int .i64 x2] 81)).alloc (.cells #[.slice none 0 0, .int .i64 0, .int .i64 0] 56)).alloc (.cells #[.slice none 0 0, .int .i64 0, .int .i64 0] 56) = W := ⟨_, rfl⟩
  have hb0 : Below w.heap.size w W0 := by
    rw [← hW0]; exact (((Below.refl _ _).alloc (Nat.le_refl _) _).alloc (by simp) _).alloc (by simp; omega) _
  have hA : Blk W0 w.heap.size 81 #[v0, .int .i64 x1, .int .i64 x2] := by
    rw [← hW0]; exact ((Blk.new _ _ _).alloc _).alloc _
  have hO : Blk W0 (w.heap.size + 1 + 1) 56 #[.slice none 0 0, .int .i64 0, .int .i64 0] := by
    rw [← hW0]
    have := Blk.new ((w.alloc (.cells #[v0, .int .i64 x1, .int .i64 x2] 81)).alloc (.cells #[.slice none 0 0, .int .i64 0, .int .i64 0] 56)) 56 #[.slice none 0 0, .int .i64 0, .int .i64 0]
    simpa using this
  have hR : Blk W0 (w.heap.size + 1) 56 #[.slice none 0 0, .int .i64 0, .int .i64 0] := by
    rw [← hW0]
    have := (Blk.new (w.alloc (.cells #[v0, .int .i64 x1, .int .i64 x2] 81)) 56 #[.slice none 0 0, .int .i64 0, .int .i64 0]).alloc (.cells #[.slice none 0 0, .int .i64 0, .int .i64 0] 56)
    simpa using this
  have HR0 := hide hR
  have HB0 := hide hb0
  have HA0 := hide hA
  have HO0 := hide hO
  have HW := hide hW0
  clear h hb hb0 hA hO hR hW0
  go_enter Tryd.func54, Tryd.ntmps54
  go_wp2_with fail
  rw [HW.out]
  clear HW
  refine (toB_cp (w := W0) (v := v0) hk0 (HH.out.name.below HB0.out)).mono ?_
  rintro e w2 ⟨u2, rfl, hs2, hb2⟩
  have hs2' := hs2 (w.heap.size + 1 + 1) HO0.out.lt
  obtain ⟨g0, k0, rfl⟩ := hs2'.slice
  have HS0_2 := hide hs2'
  have HA2 := hide (HA0.out.below hb2)
  have HO2 := hide (HO0.out.below hb2)
  have HR2 := hide (HR0.out.below hb2)
  have HB2 : Hid (Below w.heap.size w w2) := HB0.out.trans (hb2.mono HB0.out.size)
  have a1 := HA2.out.cell 1
  have a2 := HA2.out.cell 2
  have c0 := HO2.out.cell 0
  have d0 := HO2.out.frozen 0
  have r0 := HR2.out.cell 0
  have s0 := HR2.out.frozen 0
  have c1 := HO2.out.cell 1
  have d1 := HO2.out.frozen 1
  have r1 := HR2.out.cell 1
  have s1 := HR2.out.frozen 1
  have c2 := HO2.out.cell 2
  have d2 := HO2.out.frozen 2
  have r2 := HR2.out.cell 2
  have s2 := HR2.out.frozen 2
  simp only [List.getElem?_toArray, List.getElem?_cons_succ, List.getElem?_cons_zero] at a1 a2 c0 c1 c2 r0 r1 r2
  clear hs2 hs2' hb2 HA0 HO0 HB0 HR0
  have HN : Hid (TgO w2 (w.heap.size + 1 + 1) ⟨x0, x1, x2⟩ (.slice (some ⟨g0, 0, none⟩) x0.size k0)) := ⟨HS0_2.out⟩
  go_wp2
  (try simp only [Exit.inBlock, Exit.then])
  refine bodyPost_ret (results_cell_row rfl _ _ (w.heap.size + 1) 56 #[.slice (some ⟨g0, 0, none⟩) x0.size k0, .int .i64 x1, .int .i64 x2] (0, 0) _ rfl ?hg Tryd.underlying56 rfl (by kernel_rfl)) rfl ?_
  case hg => exact ((((((HR2.out.other 0 _ (by omega)).other 1 _ (by omega)).other 2 _ (by omega)).set 0 _).set 1 _).set 2 _)
  refine ⟨_, rfl, fun G hG => TgO.lower (G := w.heap.size + 1 + 1) ?_ (by omega), ?_⟩
  · exact ((((((HN.out.setAt (by omega)).setAt (by omega)).setAt (by omega)).setAt (by omega)).setAt (by omega)).setAt (by omega))
  · exact ((((((HB2.out.setCell (by show w.heap.size ≤ w.heap.size + 1 + 1; omega) _).setCell (by show w.heap.size ≤ w.heap.size + 1 + 1; omega) _).setCell (by show w.heap.size ≤ w.heap.size + 1 + 1; omega) _).setCell (by show w.heap.size ≤ w.heap.size + 1; omega) _).setCell (by show w.heap.size ≤ w.heap.size + 1; omega) _).setCell (by show w.heap.size ≤ w.heap.size + 1; omega) _)
end Go.Proofs.YtpnocklldlacjaaDoor
