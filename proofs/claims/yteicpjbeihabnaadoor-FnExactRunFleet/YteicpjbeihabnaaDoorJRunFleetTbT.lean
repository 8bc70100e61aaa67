/-
  toTables with its blocks.
-/
import Derived.Test.YteicpjbeihabnaaDoorJRunFleetTgSF
import Derived.Test.YteicpjbeihabnaaDoorJRunFleetIIST
import Derived.Test.YteicpjbeihabnaaDoorJRunFleetTgST
import Derived.Laws.MakeOwn
namespace Go.Proofs.YteicpjbeihabnaaDoor
open Go.RowKit

set_option maxHeartbeats 4000000 in
set_option maxRecDepth 1000000 in
theorem toTb_f (d : Tb) (v2 v3 v4 : Value) (w : World) (hb : TbB d) (h : TbV w d v2 v3 v4) :
    Calls Tryd.prog 11 #[tbagg d v2 v3 v4] w fun e w' => ∃ v2' v3' v4' bl, e = .returned (tbagg d v2' v3' v4') ∧ TbF w' d v2' v3' v4' bl ∧ Fr w w' bl ∧ Below w.heap.size w w' := by
  obtain ⟨x0, x1, x2, x3, x4⟩ := d
  have HH := hide h
  have hk2 := hb.targets
  have hk3 := hb.dist
  have hk4 := hb.hop
  simp only at hk2 hk3 hk4
  unfold tbagg
  simp only
  obtain ⟨W0, hW0⟩ : ∃ W, ((w.alloc (.cells #[.int .i64 x0, .int .i64 x1, v2, v3, v4] 25)).alloc (.cells #[.int .i64 0, .int .i64 0, .slice none 0 0, .slice none 0 0, .slice none 0 0] 31)).alloc (.cells #[.int .i64 x0, .int .i64 x1, .slice none 0 0, .slice none 0 0, .slice none 0 0] 31) = W := ⟨_, rfl⟩
  have hb0 : Below w.heap.size w W0 := by
    rw [← hW0]; exact (((Below.refl _ _).alloc (Nat.le_refl _) _).alloc (by simp) _).alloc (by simp; omega) _
  have hA : Blk W0 w.heap.size 25 #[.int .i64 x0, .int .i64 x1, v2, v3, v4] := by
    rw [← hW0]; exact ((Blk.new _ _ _).alloc _).alloc _
  have hO : Blk W0 (w.heap.size + 1 + 1) 31 #[.int .i64 x0, .int .i64 x1, .slice none 0 0, .slice none 0 0, .slice none 0 0] := by
    rw [← hW0]
    have := Blk.new ((w.alloc (.cells #[.int .i64 x0, .int .i64 x1, v2, v3, v4] 25)).alloc (.cells #[.int .i64 0, .int .i64 0, .slice none 0 0, .slice none 0 0, .slice none 0 0] 31)) 31 #[.int .i64 x0, .int .i64 x1, .slice none 0 0, .slice none 0 0, .slice none 0 0]
    simpa using this
  have hR : Blk W0 (w.heap.size + 1) 31 #[.int .i64 0, .int .i64 0, .slice none 0 0, .slice none 0 0, .slice none 0 0] := by
    rw [← hW0]
    have := (Blk.new (w.alloc (.cells #[.int .i64 x0, .int .i64 x1, v2, v3, v4] 25)) 31 #[.int .i64 0, .int .i64 0, .slice none 0 0, .slice none 0 0, .slice none 0 0]).alloc (.cells #[.int .i64 x0, .int .i64 x1, .slice none 0 0, .slice none 0 0, .slice none 0 0] 31)
    simpa using this
  have HR0 := hide hR
  have HB0 := hide hb0
  have HBZ : Hid (w.heap.size ≤ W0.heap.size) := hb0.size
  have HA0 := hide hA
  have HO0 := hide hO
  have HW := hide hW0
  clear h hb hb0 hA hO hR hW0
  go_enter Tryd.func11, Tryd.ntmps11
  go_wp2_with fail
  rw [HW.out]
  clear HW
  refine (toTgS_f (w := W0) (v := v2) hk2 (HH.out.targets.below HB0.out)).mono ?_
  rintro e w2 ⟨u2, bl2, rfl, hs2, hr2, hb2⟩
  obtain ⟨g2, k2, rfl⟩ := hs2.slice
  have HS2_2 := hide hs2
  have HR_2 : Hid (Fr W0 w2 bl2) := hr2
  have HL_2 : Hid (∀ g ∈ bl2, w.heap.size + 1 + 1 < g) := fun g hg => Nat.lt_of_lt_of_le HO0.out.lt (hr2.lo g hg)
  have HZ_2 : Hid (W0.heap.size ≤ w2.heap.size) := hb2.size
  have HA2 := hide (HA0.out.below hb2)
  have HO2 := hide (HO0.out.below hb2)
  have HR2 := hide (HR0.out.below hb2)
  have HB2 : Hid (Below w.heap.size w w2) := HB0.out.trans (hb2.mono HB0.out.size)
  have c1 := HA2.out.cell 3
  have c2 := HO2.out.cell 2
  have c3 := HO2.out.frozen 2
  simp only [List.getElem?_toArray, List.getElem?_cons_succ, List.getElem?_cons_zero] at c1 c2
  clear hs2 hr2 hb2 HA0 HO0 HB0 HR0
  go_wp2_with fail
  obtain ⟨W3, hW3⟩ : ∃ W, w2.setCell ⟨w.heap.size + 1 + 1, 2, none⟩ (.slice g2 (x2.length) k2) = W := ⟨_, rfl⟩
  have HA3 : Hid (Blk W3 w.heap.size 25 #[.int .i64 x0, .int .i64 x1, v2, v3, v4]) := by rw [← hW3]; exact HA2.out.other _ _ (by omega)
  have HO3 : Hid (Blk W3 (w.heap.size + 1 + 1) 31 #[.int .i64 x0, .int .i64 x1, .slice g2 (x2.length) k2, .slice none 0 0, .slice none 0 0]) := by rw [← hW3]; exact HO2.out.set 2 _
  have HR3 : Hid (Blk W3 (w.heap.size + 1) 31 #[.int .i64 0, .int .i64 0, .slice none 0 0, .slice none 0 0, .slice none 0 0]) := by rw [← hW3]; exact HR2.out.other _ _ (by omega)
  have HY3 : Hid (w2.heap.size ≤ W3.heap.size) := by show _ ≤ _; rw [← hW3, World.size_setCell]; exact Nat.le_refl _
  have HS2_3 : Hid (TgSF W3 (.slice g2 (x2.length) k2) x2 bl2) := by rw [← hW3]; exact HS2_2.out.keep (fun g hg => Below.heap_setCell _ _ _ _ (Nat.ne_of_gt (HL_2.out g hg)))
  have HB3 : Hid (Below w.heap.size w W3) := by rw [← hW3]; exact HB2.out.setCell (by show w.heap.size ≤ w.heap.size + 1 + 1; omega) _
  rw [hW3]
  clear hW3 HA2 HO2 HB2 HR2 c1 c2 c3 HS2_2
  refine (toIIS_f (w := W3) (v := v3) hk3 (HH.out.dist.below HB3.out)).mono ?_
  rintro e w4 ⟨u4, bl3, rfl, hs4, hr4, hb4⟩
  obtain ⟨g3, k3, rfl⟩ := hs4.slice
  have HS3_4 := hide hs4
  have HR_3 : Hid (Fr W3 w4 bl3) := hr4
  have HL_3 : Hid (∀ g ∈ bl3, w.heap.size + 1 + 1 < g) := fun g hg => Nat.lt_of_lt_of_le HO3.out.lt (hr4.lo g hg)
  have HZ_3 : Hid (W3.heap.size ≤ w4.heap.size) := hb4.size
  have HA4 := hide (HA3.out.below hb4)
  have HO4 := hide (HO3.out.below hb4)
  have HR4 := hide (HR3.out.below hb4)
  have HS2_4 := hide (HS2_3.out.below hb4)
  have HB4 : Hid (Below w.heap.size w w4) := HB3.out.trans (hb4.mono HB3.out.size)
  have c1 := HA4.out.cell 4
  have c2 := HO4.out.cell 3
  have c3 := HO4.out.frozen 3
  simp only [List.getElem?_toArray, List.getElem?_cons_succ, List.getElem?_cons_zero] at c1 c2
  clear hs4 hr4 hb4 HA3 HO3 HB3 HR3 HS2_3
  go_wp2_with fail
  obtain ⟨W5, hW5⟩ : ∃ W, w4.setCell ⟨w.heap.size + 1 + 1, 3, none⟩ (.slice g3 (x3.length) k3) = W := ⟨_, rfl⟩
  have HA5 : Hid (Blk W5 w.heap.size 25 #[.int .i64 x0, .int .i64 x1, v2, v3, v4]) := by rw [← hW5]; exact HA4.out.other _ _ (by omega)
  have HO5 : Hid (Blk W5 (w.heap.size + 1 + 1) 31 #[.int .i64 x0, .int .i64 x1, .slice g2 (x2.length) k2, .slice g3 (x3.length) k3, .slice none 0 0]) := by rw [← hW5]; exact HO4.out.set 3 _
  have HR5 : Hid (Blk W5 (w.heap.size + 1) 31 #[.int .i64 0, .int .i64 0, .slice none 0 0, .slice none 0 0, .slice none 0 0]) := by rw [← hW5]; exact HR4.out.other _ _ (by omega)
  have HY5 : Hid (w4.heap.size ≤ W5.heap.size) := by show _ ≤ _; rw [← hW5, World.size_setCell]; exact Nat.le_refl _
  have HS2_5 : Hid (TgSF W5 (.slice g2 (x2.length) k2) x2 bl2) := by rw [← hW5]; exact HS2_4.out.keep (fun g hg => Below.heap_setCell _ _ _ _ (Nat.ne_of_gt (HL_2.out g hg)))
  have HS3_5 : Hid (IISF W5 (.slice g3 (x3.length) k3) x3 bl3) := by rw [← hW5]; exact HS3_4.out.keep (fun g hg => Below.heap_setCell _ _ _ _ (Nat.ne_of_gt (HL_3.out g hg)))
  have HB5 : Hid (Below w.heap.size w W5) := by rw [← hW5]; exact HB4.out.setCell (by show w.heap.size ≤ w.heap.size + 1 + 1; omega) _
  rw [hW5]
  clear hW5 HA4 HO4 HB4 HR4 c1 c2 c3 HS2_4 HS3_4
  refine (toIIS_f (w := W5) (v := v4) hk4 (HH.out.hop.below HB5.out)).mono ?_
  rintro e w6 ⟨u6, bl4, rfl, hs6, hr6, hb6⟩
  obtain ⟨g4, k4, rfl⟩ := hs6.slice
  have HS4_6 := hide hs6
  have HR_4 : Hid (Fr W5 w6 bl4) := hr6
  have HL_4 : Hid (∀ g ∈ bl4, w.heap.size + 1 + 1 < g) := fun g hg => Nat.lt_of_lt_of_le HO5.out.lt (hr6.lo g hg)
  have HZ_4 : Hid (W5.heap.size ≤ w6.heap.size) := hb6.size
  have HA6 := hide (HA5.out.below hb6)
  have HO6 := hide (HO5.out.below hb6)
  have HR6 := hide (HR5.out.below hb6)
  have HS2_6 := hide (HS2_5.out.below hb6)
  have HS3_6 := hide (HS3_5.out.below hb6)
  have HB6 : Hid (Below w.heap.size w w6) := HB5.out.trans (hb6.mono HB5.out.size)
  have c0 := HO6.out.cell 0
  have d0 := HO6.out.frozen 0
  have r0 := HR6.out.cell 0
  have s0 := HR6.out.frozen 0
  have c1 := HO6.out.cell 1
  have d1 := HO6.out.frozen 1
  have r1 := HR6.out.cell 1
  have s1 := HR6.out.frozen 1
  have c2 := HO6.out.cell 2
  have d2 := HO6.out.frozen 2
  have r2 := HR6.out.cell 2
  have s2 := HR6.out.frozen 2
  have c3 := HO6.out.cell 3
  have d3 := HO6.out.frozen 3
  have r3 := HR6.out.cell 3
  have s3 := HR6.out.frozen 3
  have c4 := HO6.out.cell 4
  have d4 := HO6.out.frozen 4
  have r4 := HR6.out.cell 4
  have s4 := HR6.out.frozen 4
  simp only [List.getElem?_toArray, List.getElem?_cons_succ, List.getElem?_cons_zero] at c0 c1 c2 c3 c4 r0 r1 r2 r3 r4
  clear hs6 hr6 hb6 HA5 HO5 HB5 HR5 HS2_5 HS3_5
  go_wp2
  (try simp only [Exit.inBlock, Exit.then])
  refine bodyPost_ret (results_cell_row rfl _ _ (w.heap.size + 1) 31 #[.int .i64 x0, .int .i64 x1, .slice g2 (x2.length) k2, .slice g3 (x3.length) k3, .slice g4 (x4.length) k4] (0, 0) _ rfl ?hg Tryd.underlying31 rfl (by kernel_rfl)) rfl ?_
  case hg => exact ((((((HR6.out.other 4 _ (by omega)).set 0 _).set 1 _).set 2 _).set 3 _).set 4 _)
  refine ⟨_, _, _, bl2 ++ (bl3 ++ (bl4)), rfl, ?_, ?_, ?_⟩
  · refine ⟨_, _, _, rfl, ?_, ?_, ?_⟩
    · exact HS2_6.out.keep (fun g hg => by
      have hn : ∀ g ∈ bl2, g ≠ w.heap.size + 1 + 1 ∧ g ≠ w.heap.size + 1 := fun g hg => by have := HL_2.out g hg; omega
      exact ((Below.heap_setCell _ _ _ _ (hn g hg).2).trans ((Below.heap_setCell _ _ _ _ (hn g hg).2).trans ((Below.heap_setCell _ _ _ _ (hn g hg).2).trans ((Below.heap_setCell _ _ _ _ (hn g hg).2).trans ((Below.heap_setCell _ _ _ _ (hn g hg).2).trans (Below.heap_setCell _ _ _ _ (hn g hg).1)))))))
    · exact HS3_6.out.keep (fun g hg => by
      have hn : ∀ g ∈ bl3, g ≠ w.heap.size + 1 + 1 ∧ g ≠ w.heap.size + 1 := fun g hg => by have := HL_3.out g hg; omega
      exact ((Below.heap_setCell _ _ _ _ (hn g hg).2).trans ((Below.heap_setCell _ _ _ _ (hn g hg).2).trans ((Below.heap_setCell _ _ _ _ (hn g hg).2).trans ((Below.heap_setCell _ _ _ _ (hn g hg).2).trans ((Below.heap_setCell _ _ _ _ (hn g hg).2).trans (Below.heap_setCell _ _ _ _ (hn g hg).1)))))))
    · exact HS4_6.out.keep (fun g hg => by
      have hn : ∀ g ∈ bl4, g ≠ w.heap.size + 1 + 1 ∧ g ≠ w.heap.size + 1 := fun g hg => by have := HL_4.out g hg; omega
      exact ((Below.heap_setCell _ _ _ _ (hn g hg).2).trans ((Below.heap_setCell _ _ _ _ (hn g hg).2).trans ((Below.heap_setCell _ _ _ _ (hn g hg).2).trans ((Below.heap_setCell _ _ _ _ (hn g hg).2).trans ((Below.heap_setCell _ _ _ _ (hn g hg).2).trans (Below.heap_setCell _ _ _ _ (hn g hg).1)))))))
  · exact (Fr.append HR_2.out (Fr.append HR_3.out HR_4.out HY5.out HZ_3.out (by have := HZ_4.out; omega)) HY3.out HZ_2.out (by have := HZ_3.out; have := HZ_4.out; have := HY5.out; omega)).mono HBZ.out (by simp [World.size_setCell])
  · exact ((((((HB6.out.setCell (by show w.heap.size ≤ w.heap.size + 1 + 1; omega) _).setCell (by show w.heap.size ≤ w.heap.size + 1; omega) _).setCell (by show w.heap.size ≤ w.heap.size + 1; omega) _).setCell (by show w.heap.size ≤ w.heap.size + 1; omega) _).setCell (by show w.heap.size ≤ w.heap.size + 1; omega) _).setCell (by show w.heap.size ≤ w.heap.size + 1; omega) _)
end Go.Proofs.YteicpjbeihabnaaDoor
