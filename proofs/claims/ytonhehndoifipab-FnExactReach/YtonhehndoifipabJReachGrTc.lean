/-
  toGraph with its blocks.
-/
import Derived.Test.YtonhehndoifipabJReachGrF
import Derived.Test.YtonhehndoifipabJReachTIc
import Derived.Laws.MakeOwn
namespace Go.Proofs.Ytonhehndoifipab
open Go.RowKit

set_option maxHeartbeats 4000000 in
set_option maxRecDepth 1000000 in
theorem toGr_fc (d : Gr) (v1 v2 v3 v4 : Value) (w : World) (hb : GrB d) (h : GrV w d v1 v2 v3 v4) :
    Calls Try.prog 6 #[gragg d v1 v2 v3 v4] w fun e w' => ∃ v1' v2' v3' v4' bl, e = .returned (gragg d v1' v2' v3' v4') ∧ GrF w' d v1' v2' v3' v4' bl ∧ Fr w w' bl ∧ Below w.heap.size w w' ∧ Cp v1' ∧ Cp v2' ∧ Cp v3' ∧ Cp v4' := by
  obtain ⟨x0, x1, x2, x3, x4⟩ := d
  have HH := hide h
  have hk1 := hb.start
  have hk2 := hb.to
  have hk3 := hb.dir
  have hk4 := hb.cost
  simp only at hk1 hk2 hk3 hk4
  unfold gragg
  simp only
  obtain ⟨W0, hW0⟩ : ∃ W, ((w.alloc (.cells #[.int .i64 x0, v1, v2, v3, v4] 24)).alloc (.cells #[.int .i64 0, .slice none 0 0, .slice none 0 0, .slice none 0 0, .slice none 0 0] 29)).alloc (.cells #[.int .i64 x0, .slice none 0 0, .slice none 0 0, .slice none 0 0, .slice none 0 0] 29) = W := ⟨_, rfl⟩
  have hb0 : Below w.heap.size w W0 := by
    rw [← hW0]; exact (((Below.refl _ _).alloc (Nat.le_refl _) _).alloc (by simp) _).alloc (by simp; omega) _
  have hA : Blk W0 w.heap.size 24 #[.int .i64 x0, v1, v2, v3, v4] := by
    rw [← hW0]; exact ((Blk.new _ _ _).alloc _).alloc _
  have hO : Blk W0 (w.heap.size + 1 + 1) 29 #[.int .i64 x0, .slice none 0 0, .slice none 0 0, .slice none 0 0, .slice none 0 0] := by
    rw [← hW0]
    have := Blk.new ((w.alloc (.cells #[.int .i64 x0, v1, v2, v3, v4] 24)).alloc (.cells #[.int .i64 0, .slice none 0 0, .slice none 0 0, .slice none 0 0, .slice none 0 0] 29)) 29 #[.int .i64 x0, .slice none 0 0, .slice none 0 0, .slice none 0 0, .slice none 0 0]
    simpa using this
  have hR : Blk W0 (w.heap.size + 1) 29 #[.int .i64 0, .slice none 0 0, .slice none 0 0, .slice none 0 0, .slice none 0 0] := by
    rw [← hW0]
    have := (Blk.new (w.alloc (.cells #[.int .i64 x0, v1, v2, v3, v4] 24)) 29 #[.int .i64 0, .slice none 0 0, .slice none 0 0, .slice none 0 0, .slice none 0 0]).alloc (.cells #[.int .i64 x0, .slice none 0 0, .slice none 0 0, .slice none 0 0, .slice none 0 0] 29)
    simpa using this
  have HR0 := hide hR
  have HB0 := hide hb0
  have HBZ : Hid (w.heap.size ≤ W0.heap.size) := hb0.size
  have HA0 := hide hA
  have HO0 := hide hO
  have HW := hide hW0
  clear h hb hb0 hA hO hR hW0
  go_enter Try.func6, Try.ntmps6
  go_wp2_with fail
  rw [HW.out]
  clear HW
  refine (toI_fc (w := W0) (v := v1) hk1 (HH.out.start.below HB0.out)).mono ?_
  rintro e w2 ⟨u2, bl1, rfl, hs2, hr2, hb2, hcp2⟩
  have HP1 := hide hcp2
  clear hcp2
  obtain ⟨g1, k1, rfl⟩ := hs2.slice
  have HS1_2 := hide hs2
  have HR_1 : Hid (Fr W0 w2 bl1) := hr2
  have HL_1 : Hid (∀ g ∈ bl1, w.heap.size + 1 + 1 < g) := fun g hg => Nat.lt_of_lt_of_le HO0.out.lt (hr2.lo g hg)
  have HZ_1 : Hid (W0.heap.size ≤ w2.heap.size) := hb2.size
  have HA2 := hide (HA0.out.below hb2)
  have HO2 := hide (HO0.out.below hb2)
  have HR2 := hide (HR0.out.below hb2)
  have HB2 : Hid (Below w.heap.size w w2) := HB0.out.trans (hb2.mono HB0.out.size)
  have c1 := HA2.out.cell 2
  have c2 := HO2.out.cell 1
  have c3 := HO2.out.frozen 1
  simp only [List.getElem?_toArray, List.getElem?_cons_succ, List.getElem?_cons_zero] at c1 c2
  clear hs2 hr2 hb2 HA0 HO0 HB0 HR0
  go_wp2_with fail
  obtain ⟨W3, hW3⟩ : ∃ W, w2.setCell ⟨w.heap.size + 1 + 1, 1, none⟩ (.slice g1 (x1.length) k1) = W := ⟨_, rfl⟩
  have HA3 : Hid (Blk W3 w.heap.size 24 #[.int .i64 x0, v1, v2, v3, v4]) := by rw [← hW3]; exact HA2.out.other _ _ (by omega)
  have HO3 : Hid (Blk W3 (w.heap.size + 1 + 1) 29 #[.int .i64 x0, .slice g1 (x1.length) k1, .slice none 0 0, .slice none 0 0, .slice none 0 0]) := by rw [← hW3]; exact HO2.out.set 1 _
  have HR3 : Hid (Blk W3 (w.heap.size + 1) 29 #[.int .i64 0, .slice none 0 0, .slice none 0 0, .slice none 0 0, .slice none 0 0]) := by rw [← hW3]; exact HR2.out.other _ _ (by omega)
  have HY3 : Hid (w2.heap.size ≤ W3.heap.size) := by show _ ≤ _; rw [← hW3, World.size_setCell]; exact Nat.le_refl _
  have HS1_3 : Hid (IF W3 (.slice g1 (x1.length) k1) x1 bl1) := by rw [← hW3]; exact HS1_2.out.keep (fun g hg => Below.heap_setCell _ _ _ _ (Nat.ne_of_gt (HL_1.out g hg)))
  have HB3 : Hid (Below w.heap.size w W3) := by rw [← hW3]; exact HB2.out.setCell (by show w.heap.size ≤ w.heap.size + 1 + 1; omega) _
  rw [hW3]
  clear hW3 HA2 HO2 HB2 HR2 c1 c2 c3 HS1_2
  refine (toI_fc (w := W3) (v := v2) hk2 (HH.out.to.below HB3.out)).mono ?_
  rintro e w4 ⟨u4, bl2, rfl, hs4, hr4, hb4, hcp4⟩
  have HP2 := hide hcp4
  clear hcp4
  obtain ⟨g2, k2, rfl⟩ := hs4.slice
  have HS2_4 := hide hs4
  have HR_2 : Hid (Fr W3 w4 bl2) := hr4
  have HL_2 : Hid (∀ g ∈ bl2, w.heap.size + 1 + 1 < g) := fun g hg => Nat.lt_of_lt_of_le HO3.out.lt (hr4.lo g hg)
  have HZ_2 : Hid (W3.heap.size ≤ w4.heap.size) := hb4.size
  have HA4 := hide (HA3.out.below hb4)
  have HO4 := hide (HO3.out.below hb4)
  have HR4 := hide (HR3.out.below hb4)
  have HS1_4 := hide (HS1_3.out.below hb4)
  have HB4 : Hid (Below w.heap.size w w4) := HB3.out.trans (hb4.mono HB3.out.size)
  have c1 := HA4.out.cell 3
  have c2 := HO4.out.cell 2
  have c3 := HO4.out.frozen 2
  simp only [List.getElem?_toArray, List.getElem?_cons_succ, List.getElem?_cons_zero] at c1 c2
  clear hs4 hr4 hb4 HA3 HO3 HB3 HR3 HS1_3
  go_wp2_with fail
  obtain ⟨W5, hW5⟩ : ∃ W, w4.setCell ⟨w.heap.size + 1 + 1, 2, none⟩ (.slice g2 (x2.length) k2) = W := ⟨_, rfl⟩
  have HA5 : Hid (Blk W5 w.heap.size 24 #[.int .i64 x0, v1, v2, v3, v4]) := by rw [← hW5]; exact HA4.out.other _ _ (by omega)
  have HO5 : Hid (Blk W5 (w.heap.size + 1 + 1) 29 #[.int .i64 x0, .slice g1 (x1.length) k1, .slice g2 (x2.length) k2, .slice none 0 0, .slice none 0 0]) := by rw [← hW5]; exact HO4.out.set 2 _
  have HR5 : Hid (Blk W5 (w.heap.size + 1) 29 #[.int .i64 0, .slice none 0 0, .slice none 0 0, .slice none 0 0, .slice none 0 0]) := by rw [← hW5]; exact HR4.out.other _ _ (by omega)
  have HY5 : Hid (w4.heap.size ≤ W5.heap.size) := by show _ ≤ _; rw [← hW5, World.size_setCell]; exact Nat.le_refl _
  have HS1_5 : Hid (IF W5 (.slice g1 (x1.length) k1) x1 bl1) := by rw [← hW5]; exact HS1_4.out.keep (fun g hg => Below.heap_setCell _ _ _ _ (Nat.ne_of_gt (HL_1.out g hg)))
  have HS2_5 : Hid (IF W5 (.slice g2 (x2.length) k2) x2 bl2) := by rw [← hW5]; exact HS2_4.out.keep (fun g hg => Below.heap_setCell _ _ _ _ (Nat.ne_of_gt (HL_2.out g hg)))
  have HB5 : Hid (Below w.heap.size w W5) := by rw [← hW5]; exact HB4.out.setCell (by show w.heap.size ≤ w.heap.size + 1 + 1; omega) _
  rw [hW5]
  clear hW5 HA4 HO4 HB4 HR4 c1 c2 c3 HS1_4 HS2_4
  refine (toI_fc (w := W5) (v := v3) hk3 (HH.out.dir.below HB5.out)).mono ?_
  rintro e w6 ⟨u6, bl3, rfl, hs6, hr6, hb6, hcp6⟩
  have HP3 := hide hcp6
  clear hcp6
  obtain ⟨g3, k3, rfl⟩ := hs6.slice
  have HS3_6 := hide hs6
  have HR_3 : Hid (Fr W5 w6 bl3) := hr6
  have HL_3 : Hid (∀ g ∈ bl3, w.heap.size + 1 + 1 < g) := fun g hg => Nat.lt_of_lt_of_le HO5.out.lt (hr6.lo g hg)
  have HZ_3 : Hid (W5.heap.size ≤ w6.heap.size) := hb6.size
  have HA6 := hide (HA5.out.below hb6)
  have HO6 := hide (HO5.out.below hb6)
  have HR6 := hide (HR5.out.below hb6)
  have HS1_6 := hide (HS1_5.out.below hb6)
  have HS2_6 := hide (HS2_5.out.below hb6)
  have HB6 : Hid (Below w.heap.size w w6) := HB5.out.trans (hb6.mono HB5.out.size)
  have c1 := HA6.out.cell 4
  have c2 := HO6.out.cell 3
  have c3 := HO6.out.frozen 3
  simp only [List.getElem?_toArray, List.getElem?_cons_succ, List.getElem?_cons_zero] at c1 c2
  clear hs6 hr6 hb6 HA5 HO5 HB5 HR5 HS1_5 HS2_5
  go_wp2_with fail
  obtain ⟨W7, hW7⟩ : ∃ W, w6.setCell ⟨w.heap.size + 1 + 1, 3, none⟩ (.slice g3 (x3.length) k3) = W := ⟨_, rfl⟩
  have HA7 : Hid (Blk W7 w.heap.size 24 #[.int .i64 x0, v1, v2, v3, v4]) := by rw [← hW7]; exact HA6.out.other _ _ (by omega)
  have HO7 : Hid (Blk W7 (w.heap.size + 1 + 1) 29 #[.int .i64 x0, .slice g1 (x1.length) k1, .slice g2 (x2.length) k2, .slice g3 (x3.length) k3, .slice none 0 0]) := by rw [← hW7]; exact HO6.out.set 3 _
  have HR7 : Hid (Blk W7 (w.heap.size + 1) 29 #[.int .i64 0, .slice none 0 0, .slice none 0 0, .slice none 0 0, .slice none 0 0]) := by rw [← hW7]; exact HR6.out.other _ _ (by omega)
  have HY7 : Hid (w6.heap.size ≤ W7.heap.size) := by show _ ≤ _; rw [← hW7, World.size_setCell]; exact Nat.le_refl _
  have HS1_7 : Hid (IF W7 (.slice g1 (x1.length) k1) x1 bl1) := by rw [← hW7]; exact HS1_6.out.keep (fun g hg => Below.heap_setCell _ _ _ _ (Nat.ne_of_gt (HL_1.out g hg)))
  have HS2_7 : Hid (IF W7 (.slice g2 (x2.length) k2) x2 bl2) := by rw [← hW7]; exact HS2_6.out.keep (fun g hg => Below.heap_setCell _ _ _ _ (Nat.ne_of_gt (HL_2.out g hg)))
  have HS3_7 : Hid (IF W7 (.slice g3 (x3.length) k3) x3 bl3) := by rw [← hW7]; exact HS3_6.out.keep (fun g hg => Below.heap_setCell _ _ _ _ (Nat.ne_of_gt (HL_3.out g hg)))
  have HB7 : Hid (Below w.heap.size w W7) := by rw [← hW7]; exact HB6.out.setCell (by show w.heap.size ≤ w.heap.size + 1 + 1; omega) _
  rw [hW7]
  clear hW7 HA6 HO6 HB6 HR6 c1 c2 c3 HS1_6 HS2_6 HS3_6
  refine (toI_fc (w := W7) (v := v4) hk4 (HH.out.cost.below HB7.out)).mono ?_
  rintro e w8 ⟨u8, bl4, rfl, hs8, hr8, hb8, hcp8⟩
  have HP4 := hide hcp8
  clear hcp8
  obtain ⟨g4, k4, rfl⟩ := hs8.slice
  have HS4_8 := hide hs8
  have HR_4 : Hid (Fr W7 w8 bl4) := hr8
  have HL_4 : Hid (∀ g ∈ bl4, w.heap.size + 1 + 1 < g) := fun g hg => Nat.lt_of_lt_of_le HO7.out.lt (hr8.lo g hg)
  have HZ_4 : Hid (W7.heap.size ≤ w8.heap.size) := hb8.size
  have HA8 := hide (HA7.out.below hb8)
  have HO8 := hide (HO7.out.below hb8)
  have HR8 := hide (HR7.out.below hb8)
  have HS1_8 := hide (HS1_7.out.below hb8)
  have HS2_8 := hide (HS2_7.out.below hb8)
  have HS3_8 := hide (HS3_7.out.below hb8)
  have HB8 : Hid (Below w.heap.size w w8) := HB7.out.trans (hb8.mono HB7.out.size)
  have c0 := HO8.out.cell 0
  have d0 := HO8.out.frozen 0
  have r0 := HR8.out.cell 0
  have s0 := HR8.out.frozen 0
  have c1 := HO8.out.cell 1
  have d1 := HO8.out.frozen 1
  have r1 := HR8.out.cell 1
  have s1 := HR8.out.frozen 1
  have c2 := HO8.out.cell 2
  have d2 := HO8.out.frozen 2
  have r2 := HR8.out.cell 2
  have s2 := HR8.out.frozen 2
  have c3 := HO8.out.cell 3
  have d3 := HO8.out.frozen 3
  have r3 := HR8.out.cell 3
  have s3 := HR8.out.frozen 3
  have c4 := HO8.out.cell 4
  have d4 := HO8.out.frozen 4
  have r4 := HR8.out.cell 4
  have s4 := HR8.out.frozen 4
  simp only [List.getElem?_toArray, List.getElem?_cons_succ, List.getElem?_cons_zero] at c0 c1 c2 c3 c4 r0 r1 r2 r3 r4
  clear hs8 hr8 hb8 HA7 HO7 HB7 HR7 HS1_7 HS2_7 HS3_7
  go_wp2
  (try simp only [Exit.inBlock, Exit.then])
  refine bodyPost_ret (results_cell_row rfl _ _ (w.heap.size + 1) 29 #[.int .i64 x0, .slice g1 (x1.length) k1, .slice g2 (x2.length) k2, .slice g3 (x3.length) k3, .slice g4 (x4.length) k4] (0, 0) _ rfl ?hg Try.underlying29 rfl (by kernel_rfl)) rfl ?_
  case hg => exact ((((((HR8.out.other 4 _ (by omega)).set 0 _).set 1 _).set 2 _).set 3 _).set 4 _)
  refine ⟨_, _, _, _, bl1 ++ (bl2 ++ (bl3 ++ (bl4))), rfl, ?_, ?_, ?_, HP1.out, HP2.out, HP3.out, HP4.out⟩
  · refine ⟨_, _, _, _, rfl, ?_, ?_, ?_, ?_⟩
    · exact HS1_8.out.keep (fun g hg => by
      have hn : ∀ g ∈ bl1, g ≠ w.heap.size + 1 + 1 ∧ g ≠ w.heap.size + 1 := fun g hg => by have := HL_1.out g hg; omega
      exact ((Below.heap_setCell _ _ _ _ (hn g hg).2).trans ((Below.heap_setCell _ _ _ _ (hn g hg).2).trans ((Below.heap_setCell _ _ _ _ (hn g hg).2).trans ((Below.heap_setCell _ _ _ _ (hn g hg).2).trans ((Below.heap_setCell _ _ _ _ (hn g hg).2).trans (Below.heap_setCell _ _ _ _ (hn g hg).1)))))))
    · exact HS2_8.out.keep (fun g hg => by
      have hn : ∀ g ∈ bl2, g ≠ w.heap.size + 1 + 1 ∧ g ≠ w.heap.size + 1 := fun g hg => by have := HL_2.out g hg; omega
      exact ((Below.heap_setCell _ _ _ _ (hn g hg).2).trans ((Below.heap_setCell _ _ _ _ (hn g hg).2).trans ((Below.heap_setCell _ _ _ _ (hn g hg).2).trans ((Below.heap_setCell _ _ _ _ (hn g hg).2).trans ((Below.heap_setCell _ _ _ _ (hn g hg).2).trans (Below.heap_setCell _ _ _ _ (hn g hg).1)))))))
    · exact HS3_8.out.keep (fun g hg => by
      have hn : ∀ g ∈ bl3, g ≠ w.heap.size + 1 + 1 ∧ g ≠ w.heap.size + 1 := fun g hg => by have := HL_3.out g hg; omega
      exact ((Below.heap_setCell _ _ _ _ (hn g hg).2).trans ((Below.heap_setCell _ _ _ _ (hn g hg).2).trans ((Below.heap_setCell _ _ _ _ (hn g hg).2).trans ((Below.heap_setCell _ _ _ _ (hn g hg).2).trans ((Below.heap_setCell _ _ _ _ (hn g hg).2).trans (Below.heap_setCell _ _ _ _ (hn g hg).1)))))))
    · exact HS4_8.out.keep (fun g hg => by
      have hn : ∀ g ∈ bl4, g ≠ w.heap.size + 1 + 1 ∧ g ≠ w.heap.size + 1 := fun g hg => by have := HL_4.out g hg; omega
      exact ((Below.heap_setCell _ _ _ _ (hn g hg).2).trans ((Below.heap_setCell _ _ _ _ (hn g hg).2).trans ((Below.heap_setCell _ _ _ _ (hn g hg).2).trans ((Below.heap_setCell _ _ _ _ (hn g hg).2).trans ((Below.heap_setCell _ _ _ _ (hn g hg).2).trans (Below.heap_setCell _ _ _ _ (hn g hg).1)))))))
  · exact (Fr.append HR_1.out (Fr.append HR_2.out (Fr.append HR_3.out HR_4.out HY7.out HZ_3.out (by have := HZ_4.out; omega)) HY5.out HZ_2.out (by have := HZ_3.out; have := HZ_4.out; have := HY7.out; omega)) HY3.out HZ_1.out (by have := HZ_2.out; have := HZ_3.out; have := HZ_4.out; have := HY5.out; have := HY7.out; omega)).mono HBZ.out (by simp [World.size_setCell])
  · exact ((((((HB8.out.setCell (by show w.heap.size ≤ w.heap.size + 1 + 1; omega) _).setCell (by show w.heap.size ≤ w.heap.size + 1; omega) _).setCell (by show w.heap.size ≤ w.heap.size + 1; omega) _).setCell (by show w.heap.size ≤ w.heap.size + 1; omega) _).setCell (by show w.heap.size ≤ w.heap.size + 1; omega) _).setCell (by show w.heap.size ≤ w.heap.size + 1; omega) _)
end Go.Proofs.Ytonhehndoifipab
