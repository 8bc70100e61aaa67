/-
  toByteS with its block.
  toTarget with its blocks.
-/
import Derived.Test.YteicpjbeihabnaaDoorJWalkIB
import Derived.Test.YteicpjbeihabnaaDoorJWalkFL
import Derived.Test.YteicpjbeihabnaaDoorJWalkIISF
import Derived.Laws.MakeOwn
namespace Go.Proofs.YteicpjbeihabnaaDoor
open Go.RowKit

theorem toB_f {w : World} {v : Value} {s : ByteArray} (hs : s.size ≤ 1048576) (h : BS w v s) :
    Calls Tryd.prog 12 #[v] w fun e w' => ∃ v' bl, e = .returned v' ∧ BF w' v' s bl ∧ Fr w w' bl ∧ Below w.heap.size w w' :=
  (toB_bs hs h).mono fun _ _ ⟨h1, h2, h3⟩ => ⟨_, _, h1, ⟨_, w.heap.size, 0, _, rfl, fun _ => rfl, rfl, fun j hj => by rw [Nat.zero_add]; exact ⟨h2.cell j hj, h2.frozen j⟩⟩, Fr.one (Nat.le_refl _) h2.lt _, h3⟩
end Go.Proofs.YteicpjbeihabnaaDoor

namespace Go.Proofs.YteicpjbeihabnaaDoor
open Go.RowKit

set_option maxHeartbeats 4000000 in
set_option maxRecDepth 1000000 in
theorem toTg_f (d : Tg) (v0 : Value) (w : World) (hb : TgB d) (h : TgV w d v0) :
    Calls Tryd.prog 66 #[tgagg d v0] w fun e w' => ∃ v0' bl, e = .returned (tgagg d v0') ∧ TgF w' d v0' bl ∧ Fr w w' bl ∧ Below w.heap.size w w' := by
  obtain ⟨x0, x1, x2⟩ := d
  have HH := hide h
  have hk0 := hb.name
  simp only at hk0
  unfold tgagg
  simp only
  obtain ⟨W0, hW0⟩ : ∃ W, ((w.alloc (.cells #[v0, .int .i64 x1, .int .i64 x2] 92)).alloc (.cells #[.slice none 0 0, .int .i64 0, .int .i64 0] 66)).alloc (.cells #[.slice none 0 0, .int .i64 0, .int .i64 0] 66) = W := ⟨_, rfl⟩
  have hb0 : Below w.heap.size w W0 := by
    rw [← hW0]; exact (((Below.refl _ _).alloc (Nat.le_refl _) _).alloc (by simp) _).alloc (by simp; omega) _
  have hA : Blk W0 w.heap.size 92 #[v0, .int .i64 x1, .int .i64 x2] := by
    rw [← hW0]; exact ((Blk.new _ _ _).alloc _).alloc _
  have hO : Blk W0 (w.heap.size + 1 + 1) 66 #[.slice none 0 0, .int .i64 0, .int .i64 0] := by
    rw [← hW0]
    have := Blk.new ((w.alloc (.cells #[v0, .int .i64 x1, .int .i64 x2] 92)).alloc (.cells #[.slice none 0 0, .int .i64 0, .int .i64 0] 66)) 66 #[.slice none 0 0, .int .i64 0, .int .i64 0]
    simpa using this
  have hR : Blk W0 (w.heap.size + 1) 66 #[.slice none 0 0, .int .i64 0, .int .i64 0] := by
    rw [← hW0]
    have := (Blk.new (w.alloc (.cells #[v0, .int .i64 x1, .int .i64 x2] 92)) 66 #[.slice none 0 0, .int .i64 0, .int .i64 0]).alloc (.cells #[.slice none 0 0, .int .i64 0, .int .i64 0] 66)
    simpa using this
  have HR0 := hide hR
  have HB0 := hide hb0
  have HBZ : Hid (w.heap.size ≤ W0.heap.size) := hb0.size
  have HA0 := hide hA
  have HO0 := hide hO
  have HW := hide hW0
  clear h hb hb0 hA hO hR hW0
  go_enter Tryd.func66, Tryd.ntmps66
  go_wp2_with fail
  rw [HW.out]
  clear HW
  refine (toB_f (w := W0) (v := v0) hk0 (HH.out.name.below HB0.out)).mono ?_
  rintro e w2 ⟨u2, bl0, rfl, hs2, hr2, hb2⟩
  obtain ⟨g0, k0, rfl⟩ := hs2.slice
  have HS0_2 := hide hs2
  have HR_0 : Hid (Fr W0 w2 bl0) := hr2
  have HL_0 : Hid (∀ g ∈ bl0, w.heap.size + 1 + 1 < g) := fun g hg => Nat.lt_of_lt_of_le HO0.out.lt (hr2.lo g hg)
  have HZ_0 : Hid (W0.heap.size ≤ w2.heap.size) := hb2.size
  have HA2 := hide (HA0.out.below hb2)
  have HO2 := hide (HO0.out.below hb2)
  have HR2 := hide (HR0.out.below hb2)
  have HB2 : Hid (Below w.heap.size w w2) := HB0.out.trans (hb2.mono HB0.out.size)
  have a1 := HA2.out.cell 1
  have a2 := HA2.out.cell 2
  have c0 := HO2.out.cell 0
  have d0 := HO2.out.frozen 0
  have r0 := HR2.out.cell 0
  have s0 := HR2.out.frozen 0
  have c1 := HO2.out.cell 1
  have d1 := HO2.out.frozen 1
  have r1 := HR2.out.cell 1
  have s1 := HR2.out.frozen 1
  have c2 := HO2.out.cell 2
  have d2 := HO2.out.frozen 2
  have r2 := HR2.out.cell 2
  have s2 := HR2.out.frozen 2
  simp only [List.getElem?_toArray, List.getElem?_cons_succ, List.getElem?_cons_zero] at a1 a2 c0 c1 c2 r0 r1 r2
  clear hs2 hr2 hb2 HA0 HO0 HB0 HR0
  go_wp2
  (try simp only [Exit.inBlock, Exit.then])
  refine bodyPost_ret (results_cell_row rfl _ _ (w.heap.size + 1) 66 #[.slice g0 (x0.size) k0, .int .i64 x1, .int .i64 x2] (0, 0) _ rfl ?hg Tryd.underlying66 rfl (by kernel_rfl)) rfl ?_
  case hg => exact ((((((HR2.out.other 0 _ (by omega)).other 1 _ (by omega)).other 2 _ (by omega)).set 0 _).set 1 _).set 2 _)
  refine ⟨_, bl0, rfl, ?_, ?_, ?_⟩
  · exact HS0_2.out.keep (fun g hg => by
      have hn : ∀ g ∈ bl0, g ≠ w.heap.size + 1 + 1 ∧ g ≠ w.heap.size + 1 := fun g hg => by have := HL_0.out g hg; omega
      exact ((Below.heap_setCell _ _ _ _ (hn g hg).2).trans ((Below.heap_setCell _ _ _ _ (hn g hg).2).trans ((Below.heap_setCell _ _ _ _ (hn g hg).2).trans ((Below.heap_setCell _ _ _ _ (hn g hg).1).trans ((Below.heap_setCell _ _ _ _ (hn g hg).1).trans (Below.heap_setCell _ _ _ _ (hn g hg).1)))))))
  · exact HR_0.out.mono HBZ.out (by simp [World.size_setCell])
  · exact ((((((HB2.out.setCell (by show w.heap.size ≤ w.heap.size + 1 + 1; omega) _).setCell (by show w.heap.size ≤ w.heap.size + 1 + 1; omega) _).setCell (by show w.heap.size ≤ w.heap.size + 1 + 1; omega) _).setCell (by show w.heap.size ≤ w.heap.size + 1; omega) _).setCell (by show w.heap.size ≤ w.heap.size + 1; omega) _).setCell (by show w.heap.size ≤ w.heap.size + 1; omega) _)
end Go.Proofs.YteicpjbeihabnaaDoor
