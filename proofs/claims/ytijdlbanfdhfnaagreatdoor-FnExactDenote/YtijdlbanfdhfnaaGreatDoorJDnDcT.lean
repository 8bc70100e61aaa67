/-
  toDecl with its blocks.
  The walk of toDecl.
-/
import Derived.Test.YtijdlbanfdhfnaaGreatDoorJDnFL
import Derived.Laws.MakeOwn
import Derived.Test.YtijdlbanfdhfnaaGreatDoorJDnDc0
namespace Go.Proofs.YtijdlbanfdhfnaaGreatDoor
open Go.RowKit

set_option maxHeartbeats 4000000 in
set_option maxRecDepth 1000000 in
theorem toDc_f (d : Dc) (v7 : Value) (w : World) (hb : DcB d) (h : DcV w d v7) :
    Calls Tryz.prog 17 #[dcagg d v7] w fun e w' => ∃ v7' bl, e = .returned (dcagg d v7') ∧ DcF w' d v7' bl ∧ Fr w w' bl ∧ Below w.heap.size w w' := by
  obtain ⟨x0, x1, x2, x3, x4, x5, x6, x7, x8⟩ := d
  have HH := hide h
  have hk7 := hb.name
  simp only at hk7
  unfold dcagg
  simp only
  obtain ⟨W0, hW0⟩ : ∃ W, ((w.alloc (.cells #[.int .i64 x0, .int .i64 x1, .int .i64 x2, .int .i64 x3, .int .i64 x4, .int .i64 x5, .int .i64 x6, v7, .int .i64 x8] 40)).alloc (.cells #[.int .i64 0, .int .i64 0, .int .i64 0, .int .i64 0, .int .i64 0, .int .i64 0, .int .i64 0, .slice none 0 0, .int .i64 0] 42)).alloc (.cells #[.int .i64 x0, .int .i64 x1, .int .i64 x2, .int .i64 x3, .int .i64 x4, .int .i64 x5, .int .i64 x6, .slice none 0 0, .int .i64 0] 42) = W := ⟨_, rfl⟩
  have hb0 : Below w.heap.size w W0 := by
    rw [← hW0]; exact (((Below.refl _ _).alloc (Nat.le_refl _) _).alloc (by simp) _).alloc (by simp; omega) _
  have hA : Blk W0 w.heap.size 40 #[.int .i64 x0, .int .i64 x1, .int .i64 x2, .int .i64 x3, .int .i64 x4, .int .i64 x5, .int .i64 x6, v7, .int .i64 x8] := by
    rw [← hW0]; exact ((Blk.new _ _ _).alloc _).alloc _
  have hO : Blk W0 (w.heap.size + 1 + 1) 42 #[.int .i64 x0, .int .i64 x1, .int .i64 x2, .int .i64 x3, .int .i64 x4, .int .i64 x5, .int .i64 x6, .slice none 0 0, .int .i64 0] := by
    rw [← hW0]
    have := Blk.new ((w.alloc (.cells #[.int .i64 x0, .int .i64 x1, .int .i64 x2, .int .i64 x3, .int .i64 x4, .int .i64 x5, .int .i64 x6, v7, .int .i64 x8] 40)).alloc (.cells #[.int .i64 0, .int .i64 0, .int .i64 0, .int .i64 0, .int .i64 0, .int .i64 0, .int .i64 0, .slice none 0 0, .int .i64 0] 42)) 42 #[.int .i64 x0, .int .i64 x1, .int .i64 x2, .int .i64 x3, .int .i64 x4, .int .i64 x5, .int .i64 x6, .slice none 0 0, .int .i64 0]
    simpa using this
  have hR : Blk W0 (w.heap.size + 1) 42 #[.int .i64 0, .int .i64 0, .int .i64 0, .int .i64 0, .int .i64 0, .int .i64 0, .int .i64 0, .slice none 0 0, .int .i64 0] := by
    rw [← hW0]
    have := (Blk.new (w.alloc (.cells #[.int .i64 x0, .int .i64 x1, .int .i64 x2, .int .i64 x3, .int .i64 x4, .int .i64 x5, .int .i64 x6, v7, .int .i64 x8] 40)) 42 #[.int .i64 0, .int .i64 0, .int .i64 0, .int .i64 0, .int .i64 0, .int .i64 0, .int .i64 0, .slice none 0 0, .int .i64 0]).alloc (.cells #[.int .i64 x0, .int .i64 x1, .int .i64 x2, .int .i64 x3, .int .i64 x4, .int .i64 x5, .int .i64 x6, .slice none 0 0, .int .i64 0] 42)
    simpa using this
  have HR0 := hide hR
  have HB0 := hide hb0
  have HBZ : Hid (w.heap.size ≤ W0.heap.size) := hb0.size
  have HA0 := hide hA
  have HO0 := hide hO
  have HW := hide hW0
  clear h hb hb0 hA hO hR hW0
  go_enter Tryz.func17, Tryz.ntmps17
  go_wp2_with fail
  rw [HW.out]
  clear HW
  refine (toB_f (w := W0) (v := v7) hk7 (HH.out.name.below HB0.out)).mono ?_
  rintro e w2 ⟨u2, bl7, rfl, hs2, hr2, hb2⟩
  obtain ⟨g7, k7, rfl⟩ := hs2.slice
  have HS7_2 := hide hs2
  have HR_7 : Hid (Fr W0 w2 bl7) := hr2
  have HL_7 : Hid (∀ g ∈ bl7, w.heap.size + 1 + 1 < g) := fun g hg => Nat.lt_of_lt_of_le HO0.out.lt (hr2.lo g hg)
  have HZ_7 : Hid (W0.heap.size ≤ w2.heap.size) := hb2.size
  have HA2 := hide (HA0.out.below hb2)
  have HO2 := hide (HO0.out.below hb2)
  have HR2 := hide (HR0.out.below hb2)
  have HB2 : Hid (Below w.heap.size w w2) := HB0.out.trans (hb2.mono HB0.out.size)
  have a8 := HA2.out.cell 8
  have c0 := HO2.out.cell 0
  have d0 := HO2.out.frozen 0
  have r0 := HR2.out.cell 0
  have s0 := HR2.out.frozen 0
  have c1 := HO2.out.cell 1
  have d1 := HO2.out.frozen 1
  have r1 := HR2.out.cell 1
  have s1 := HR2.out.frozen 1
  have c2 := HO2.out.cell 2
  have d2 := HO2.out.frozen 2
  have r2 := HR2.out.cell 2
  have s2 := HR2.out.frozen 2
  have c3 := HO2.out.cell 3
  have d3 := HO2.out.frozen 3
  have r3 := HR2.out.cell 3
  have s3 := HR2.out.frozen 3
  have c4 := HO2.out.cell 4
  have d4 := HO2.out.frozen 4
  have r4 := HR2.out.cell 4
  have s4 := HR2.out.frozen 4
  have c5 := HO2.out.cell 5
  have d5 := HO2.out.frozen 5
  have r5 := HR2.out.cell 5
  have s5 := HR2.out.frozen 5
  have c6 := HO2.out.cell 6
  have d6 := HO2.out.frozen 6
  have r6 := HR2.out.cell 6
  have s6 := HR2.out.frozen 6
  have c7 := HO2.out.cell 7
  have d7 := HO2.out.frozen 7
  have r7 := HR2.out.cell 7
  have s7 := HR2.out.frozen 7
  have c8 := HO2.out.cell 8
  have d8 := HO2.out.frozen 8
  have r8 := HR2.out.cell 8
  have s8 := HR2.out.frozen 8
  simp only [List.getElem?_toArray, List.getElem?_cons_succ, List.getElem?_cons_zero] at a8 c0 c1 c2 c3 c4 c5 c6 c7 c8 r0 r1 r2 r3 r4 r5 r6 r7 r8
  clear hs2 hr2 hb2 HA0 HO0 HB0 HR0
  go_wp2
  (try simp only [Exit.inBlock, Exit.then])
  refine bodyPost_ret (results_cell_row rfl _ _ (w.heap.size + 1) 42 #[.int .i64 x0, .int .i64 x1, .int .i64 x2, .int .i64 x3, .int .i64 x4, .int .i64 x5, .int .i64 x6, .slice g7 (x7.size) k7, .int .i64 x8] (0, 0) _ rfl ?hg Tryz.underlying42 rfl (by kernel_rfl)) rfl ?_
  case hg =>
    have ech : (#[.int .i64 x0, .int .i64 x1, .int .i64 x2, .int .i64 x3, .int .i64 x4, .int .i64 x5, .int .i64 x6, .slice g7 (x7.size) k7, .int .i64 x8] : Array Value) = ((((((((((#[.int .i64 0, .int .i64 0, .int .i64 0, .int .i64 0, .int .i64 0, .int .i64 0, .int .i64 0, .slice none 0 0, .int .i64 0] : Array Value).setIfInBounds 0 (.int .i64 x0)).setIfInBounds 1 (.int .i64 x1)).setIfInBounds 2 (.int .i64 x2)).setIfInBounds 3 (.int .i64 x3)).setIfInBounds 4 (.int .i64 x4)).setIfInBounds 5 (.int .i64 x5)).setIfInBounds 6 (.int .i64 x6)).setIfInBounds 7 (.slice g7 (x7.size) k7)).setIfInBounds 8 (.int .i64 x8)) := by simp only [List.setIfInBounds_toArray, List.set_cons_zero, List.set_cons_succ]
    rw [ech]
    exact (((((((((((HR2.out.other 7 _ (by omega)).other 8 _ (by omega)).set 0 _).set 1 _).set 2 _).set 3 _).set 4 _).set 5 _).set 6 _).set 7 _).set 8 _)
  refine ⟨_, bl7, rfl, ?_, ?_, ?_⟩
  · exact HS7_2.out.keep (fun g hg => by
      have hn : ∀ g ∈ bl7, g ≠ w.heap.size + 1 + 1 ∧ g ≠ w.heap.size + 1 := fun g hg => by have := HL_7.out g hg; omega
      exact ((Below.heap_setCell _ _ _ _ (hn g hg).2).trans ((Below.heap_setCell _ _ _ _ (hn g hg).2).trans ((Below.heap_setCell _ _ _ _ (hn g hg).2).trans ((Below.heap_setCell _ _ _ _ (hn g hg).2).trans ((Below.heap_setCell _ _ _ _ (hn g hg).2).trans ((Below.heap_setCell _ _ _ _ (hn g hg).2).trans ((Below.heap_setCell _ _ _ _ (hn g hg).2).trans ((Below.heap_setCell _ _ _ _ (hn g hg).2).trans ((Below.heap_setCell _ _ _ _ (hn g hg).2).trans ((Below.heap_setCell _ _ _ _ (hn g hg).1).trans (Below.heap_setCell _ _ _ _ (hn g hg).1))))))))))))
  · exact HR_7.out.mono HBZ.out (by simp [World.size_setCell])
  · exact (((((((((((HB2.out.setCell (by show w.heap.size ≤ w.heap.size + 1 + 1; omega) _).setCell (by show w.heap.size ≤ w.heap.size + 1 + 1; omega) _).setCell (by show w.heap.size ≤ w.heap.size + 1; omega) _).setCell (by show w.heap.size ≤ w.heap.size + 1; omega) _).setCell (by show w.heap.size ≤ w.heap.size + 1; omega) _).setCell (by show w.heap.size ≤ w.heap.size + 1; omega) _).setCell (by show w.heap.size ≤ w.heap.size + 1; omega) _).setCell (by show w.heap.size ≤ w.heap.size + 1; omega) _).setCell (by show w.heap.size ≤ w.heap.size + 1; omega) _).setCell (by show w.heap.size ≤ w.heap.size + 1; omega) _).setCell (by show w.heap.size ≤ w.heap.size + 1; omega) _)
end Go.Proofs.YtijdlbanfdhfnaaGreatDoor

namespace Go.Proofs.YtijdlbanfdhfnaaGreatDoor
open Go.RowKit

set_option maxHeartbeats 2000000 in
set_option maxRecDepth 1000000 in
theorem toDc_any (d : Dc) (v7 : Value) (w : World) (hb : DcB d) (h : DcV w d v7) :
    Calls Tryz.prog 17 #[dcagg d v7] w fun e w' => ∃ v7', e = .returned (dcagg d v7') ∧ (∀ G, G < w.heap.size → DcO w' G d v7') ∧ Below w.heap.size w w' := by
  obtain ⟨x0, x1, x2, x3, x4, x5, x6, x7, x8⟩ := d
  have HH := hide h
  have hk7 := hb.name
  simp only at hk7
  unfold dcagg
  simp only
  obtain ⟨W0, hW0⟩ : ∃ W, ((w.alloc (.cells #[.int .i64 x0, .int .i64 x1, .int .i64 x2, .int .i64 x3, .int .i64 x4, .int .i64 x5, .int .i64 x6, v7, .int .i64 x8] 40)).alloc (.cells #[.int .i64 0, .int .i64 0, .int .i64 0, .int .i64 0, .int .i64 0, .int .i64 0, .int .i64 0, .slice none 0 0, .int .i64 0] 42)).alloc (.cells #[.int .i64 x0, .int .i64 x1, .int .i64 x2, .int .i64 x3, .int .i64 x4, .int .i64 x5, .int .i64 x6, .slice none 0 0, .int .i64 0] 42) = W := ⟨_, rfl⟩
  have hb0 : Below w.heap.size w W0 := by
    rw [← hW0]; exact (((Below.refl _ _).alloc (Nat.le_refl _) _).alloc (by simp) _).alloc (by simp; omega) _
  have hA : Blk W0 w.heap.size 40 #[.int .i64 x0, .int .i64 x1, .int .i64 x2, .int .i64 x3, .int .i64 x4, .int .i64 x5, .int .i64 x6, v7, .int .i64 x8] := by
    rw [← hW0]; exact ((Blk.new _ _ _).alloc _).alloc _
  have hO : Blk W0 (w.heap.size + 1 + 1) 42 #[.int .i64 x0, .int .i64 x1, .int .i64 x2, .int .i64 x3, .int .i64 x4, .int .i64 x5, .int .i64 x6, .slice none 0 0, .int .i64 0] := by
    rw [← hW0]
    have := Blk.new ((w.alloc (.cells #[.int .i64 x0, .int .i64 x1, .int .i64 x2, .int .i64 x3, .int .i64 x4, .int .i64 x5, .int .i64 x6, v7, .int .i64 x8] 40)).alloc (.cells #[.int .i64 0, .int .i64 0, .int .i64 0, .int .i64 0, .int .i64 0, .int .i64 0, .int .i64 0, .slice none 0 0, .int .i64 0] 42)) 42 #[.int .i64 x0, .int .i64 x1, .int .i64 x2, .int .i64 x3, .int .i64 x4, .int .i64 x5, .int .i64 x6, .slice none 0 0, .int .i64 0]
    simpa using this
  have hR : Blk W0 (w.heap.size + 1) 42 #[.int .i64 0, .int .i64 0, .int .i64 0, .int .i64 0, .int .i64 0, .int .i64 0, .int .i64 0, .slice none 0 0, .int .i64 0] := by
    rw [← hW0]
    have := (Blk.new (w.alloc (.cells #[.int .i64 x0, .int .i64 x1, .int .i64 x2, .int .i64 x3, .int .i64 x4, .int .i64 x5, .int .i64 x6, v7, .int .i64 x8] 40)) 42 #[.int .i64 0, .int .i64 0, .int .i64 0, .int .i64 0, .int .i64 0, .int .i64 0, .int .i64 0, .slice none 0 0, .int .i64 0]).alloc (.cells #[.int .i64 x0, .int .i64 x1, .int .i64 x2, .int .i64 x3, .int .i64 x4, .int .i64 x5, .int .i64 x6, .slice none 0 0, .int .i64 0] 42)
    simpa using this
  have HR0 := hide hR
  have HB0 := hide hb0
  have HA0 := hide hA
  have HO0 := hide hO
  have HW := hide hW0
  clear h hb hb0 hA hO hR hW0
  go_enter Tryz.func17, Tryz.ntmps17
  go_wp2_with fail
  rw [HW.out]
  clear HW
  refine (toB_cp (w := W0) (v := v7) hk7 (HH.out.name.below HB0.out)).mono ?_
  rintro e w2 ⟨u2, rfl, hs2, hb2⟩
  have hs2' := hs2 (w.heap.size + 1 + 1) HO0.out.lt
  obtain ⟨g7, k7, rfl⟩ := hs2'.slice
  have HS7_2 := hide hs2'
  have HA2 := hide (HA0.out.below hb2)
  have HO2 := hide (HO0.out.below hb2)
  have HR2 := hide (HR0.out.below hb2)
  have HB2 : Hid (Below w.heap.size w w2) := HB0.out.trans (hb2.mono HB0.out.size)
  have a8 := HA2.out.cell 8
  have c0 := HO2.out.cell 0
  have d0 := HO2.out.frozen 0
  have r0 := HR2.out.cell 0
  have s0 := HR2.out.frozen 0
  have c1 := HO2.out.cell 1
  have d1 := HO2.out.frozen 1
  have r1 := HR2.out.cell 1
  have s1 := HR2.out.frozen 1
  have c2 := HO2.out.cell 2
  have d2 := HO2.out.frozen 2
  have r2 := HR2.out.cell 2
  have s2 := HR2.out.frozen 2
  have c3 := HO2.out.cell 3
  have d3 := HO2.out.frozen 3
  have r3 := HR2.out.cell 3
  have s3 := HR2.out.frozen 3
  have c4 := HO2.out.cell 4
  have d4 := HO2.out.frozen 4
  have r4 := HR2.out.cell 4
  have s4 := HR2.out.frozen 4
  have c5 := HO2.out.cell 5
  have d5 := HO2.out.frozen 5
  have r5 := HR2.out.cell 5
  have s5 := HR2.out.frozen 5
  have c6 := HO2.out.cell 6
  have d6 := HO2.out.frozen 6
  have r6 := HR2.out.cell 6
  have s6 := HR2.out.frozen 6
  have c7 := HO2.out.cell 7
  have d7 := HO2.out.frozen 7
  have r7 := HR2.out.cell 7
  have s7 := HR2.out.frozen 7
  have c8 := HO2.out.cell 8
  have d8 := HO2.out.frozen 8
  have r8 := HR2.out.cell 8
  have s8 := HR2.out.frozen 8
  simp only [List.getElem?_toArray, List.getElem?_cons_succ, List.getElem?_cons_zero] at a8 c0 c1 c2 c3 c4 c5 c6 c7 c8 r0 r1 r2 r3 r4 r5 r6 r7 r8
  clear hs2 hs2' hb2 HA0 HO0 HB0 HR0
  have HN : Hid (DcO w2 (w.heap.size + 1 + 1) ⟨x0, x1, x2, x3, x4, x5, x6, x7, x8⟩ (.slice (some ⟨g7, 0, none⟩) x7.size k7)) := ⟨HS7_2.out⟩
  go_wp2
  (try simp only [Exit.inBlock, Exit.then])
  refine bodyPost_ret (results_cell_row rfl _ _ (w.heap.size + 1) 42 #[.int .i64 x0, .int .i64 x1, .int .i64 x2, .int .i64 x3, .int .i64 x4, .int .i64 x5, .int .i64 x6, .slice (some ⟨g7, 0, none⟩) x7.size k7, .int .i64 x8] (0, 0) _ rfl ?hg Tryz.underlying42 rfl (by kernel_rfl)) rfl ?_
  case hg =>
    have ech : (#[.int .i64 x0, .int .i64 x1, .int .i64 x2, .int .i64 x3, .int .i64 x4, .int .i64 x5, .int .i64 x6, .slice (some ⟨g7, 0, none⟩) x7.size k7, .int .i64 x8] : Array Value) = ((((((((((#[.int .i64 0, .int .i64 0, .int .i64 0, .int .i64 0, .int .i64 0, .int .i64 0, .int .i64 0, .slice none 0 0, .int .i64 0] : Array Value).setIfInBounds 0 (.int .i64 x0)).setIfInBounds 1 (.int .i64 x1)).setIfInBounds 2 (.int .i64 x2)).setIfInBounds 3 (.int .i64 x3)).setIfInBounds 4 (.int .i64 x4)).setIfInBounds 5 (.int .i64 x5)).setIfInBounds 6 (.int .i64 x6)).setIfInBounds 7 (.slice (some ⟨g7, 0, none⟩) x7.size k7)).setIfInBounds 8 (.int .i64 x8)) := by simp only [List.setIfInBounds_toArray, List.set_cons_zero, List.set_cons_succ]
    rw [ech]
    exact (((((((((((HR2.out.other 7 _ (by omega)).other 8 _ (by omega)).set 0 _).set 1 _).set 2 _).set 3 _).set 4 _).set 5 _).set 6 _).set 7 _).set 8 _)
  refine ⟨_, rfl, fun G hG => DcO.lower (G := w.heap.size + 1 + 1) ?_ (by omega), ?_⟩
  · exact (((((((((((HN.out.setAt (by omega)).setAt (by omega)).setAt (by omega)).setAt (by omega)).setAt (by omega)).setAt (by omega)).setAt (by omega)).setAt (by omega)).setAt (by omega)).setAt (by omega)).setAt (by omega))
  · exact (((((((((((HB2.out.setCell (by show w.heap.size ≤ w.heap.size + 1 + 1; omega) _).setCell (by show w.heap.size ≤ w.heap.size + 1 + 1; omega) _).setCell (by show w.heap.size ≤ w.heap.size + 1; omega) _).setCell (by show w.heap.size ≤ w.heap.size + 1; omega) _).setCell (by show w.heap.size ≤ w.heap.size + 1; omega) _).setCell (by show w.heap.size ≤ w.heap.size + 1; omega) _).setCell (by show w.heap.size ≤ w.heap.size + 1; omega) _).setCell (by show w.heap.size ≤ w.heap.size + 1; omega) _).setCell (by show w.heap.size ≤ w.heap.size + 1; omega) _).setCell (by show w.heap.size ≤ w.heap.size + 1; omega) _).setCell (by show w.heap.size ≤ w.heap.size + 1; omega) _)
end Go.Proofs.YtijdlbanfdhfnaaGreatDoor
