/-
  A Layout with its blocks; marked.
  toIntS with its block.
  toByteS with its block.
  toTarget with its blocks.
-/
import Derived.Test.YtaapababeecmeaaDoorJShowLayoutLy0
import Derived.Test.YtaapababeecmeaaDoorJShowLayoutFL
import Derived.Test.YtaapababeecmeaaDoorJShowLayoutTgSF
import Derived.Test.YtaapababeecmeaaDoorJShowLayoutIB
import Derived.Laws.MakeOwn
namespace Go.Proofs.YtaapababeecmeaaDoor
open Go.RowKit

/-- It reads as d; its blocks. -/
def LyF (w : World) (d : Ly) (v2 v3 v4 : Value) (bl : List Nat) : Prop := ∃ bl2 bl3 bl4, bl = bl2 ++ (bl3 ++ (bl4)) ∧ IF w v2 d.cost bl2 ∧ IF w v3 d.exits bl3 ∧ TgSF w v4 d.targets bl4
theorem LyF.rd {w : World} {d : Ly} {v2 v3 v4 : Value} {bl : List Nat} (h : LyF w d v2 v3 v4 bl) : LyV w d v2 v3 v4 := by
  obtain ⟨bl2, bl3, bl4, _, h2, h3, h4⟩ := h
  exact ⟨h2.rd, h3.rd, h4.rd⟩
theorem LyF.keep {w w' : World} {d : Ly} {v2 v3 v4 : Value} {bl : List Nat} (h : LyF w d v2 v3 v4 bl) (hk : ∀ g ∈ bl, w'.heap[g]? = w.heap[g]?) : LyF w' d v2 v3 v4 bl := by
  obtain ⟨bl2, bl3, bl4, rfl, h2, h3, h4⟩ := h
  exact ⟨_, _, _, rfl, h2.keep (fun g hg => hk g (List.mem_append_left _ hg)), h3.keep (fun g hg => hk g (List.mem_append_right _ (List.mem_append_left _ hg))), h4.keep (fun g hg => hk g (List.mem_append_right _ (List.mem_append_right _ (hg))))⟩
theorem LyF.lt {w : World} {d : Ly} {v2 v3 v4 : Value} {bl : List Nat} (h : LyF w d v2 v3 v4 bl) : ∀ g ∈ bl, g < w.heap.size := by
  obtain ⟨bl2, bl3, bl4, rfl, h2, h3, h4⟩ := h
  intro g hg
  simp only [List.mem_append] at hg
  rcases hg with hg | hg | hg
  · exact h2.lt g hg
  · exact h3.lt g hg
  · exact h4.lt g hg
theorem LyF.below {w w' : World} {d : Ly} {v2 v3 v4 : Value} {bl : List Nat} (h : LyF w d v2 v3 v4 bl) (hb : Below w.heap.size w w') : LyF w' d v2 v3 v4 bl := h.keep fun g hg => hb.block g (h.lt g hg)
/-- It is marked from k on; its blocks. -/
def LyM (w : World) (d : Ly) (v2 v3 v4 : Value) (k : Nat) (bl : List Nat) : Prop := ∃ bl2 bl3 bl4, bl = bl2 ++ (bl3 ++ (bl4)) ∧ IM w v2 (d.cost.length) (k) bl2 ∧ IM w v3 (d.exits.length) (k + d.cost.length) bl3 ∧ TgSM w v4 d.targets (k + d.cost.length + d.exits.length) bl4
theorem LyM.keep {w w' : World} {d : Ly} {v2 v3 v4 : Value} {k : Nat} {bl : List Nat} (h : LyM w d v2 v3 v4 k bl) (hk : ∀ g ∈ bl, w'.heap[g]? = w.heap[g]?) : LyM w' d v2 v3 v4 k bl := by
  obtain ⟨bl2, bl3, bl4, rfl, h2, h3, h4⟩ := h
  exact ⟨_, _, _, rfl, h2.keep (fun g hg => hk g (List.mem_append_left _ hg)), h3.keep (fun g hg => hk g (List.mem_append_right _ (List.mem_append_left _ hg))), h4.keep (fun g hg => hk g (List.mem_append_right _ (List.mem_append_right _ (hg))))⟩
theorem LyM.lt {w : World} {d : Ly} {v2 v3 v4 : Value} {k : Nat} {bl : List Nat} (h : LyM w d v2 v3 v4 k bl) : ∀ g ∈ bl, g < w.heap.size := by
  obtain ⟨bl2, bl3, bl4, rfl, h2, h3, h4⟩ := h
  intro g hg
  simp only [List.mem_append] at hg
  rcases hg with hg | hg | hg
  · exact h2.lt g hg
  · exact h3.lt g hg
  · exact h4.lt g hg
theorem LyM.below {w w' : World} {d : Ly} {v2 v3 v4 : Value} {k : Nat} {bl : List Nat} (h : LyM w d v2 v3 v4 k bl) (hb : Below w.heap.size w w') : LyM w' d v2 v3 v4 k bl := h.keep fun g hg => hb.block g (h.lt g hg)
/-- How many marks it takes. -/
def LyNv (d : Ly) : Nat := d.cost.length + d.exits.length + (TgSn d.targets d.targets.length)
end Go.Proofs.YtaapababeecmeaaDoor

namespace Go.Proofs.YtaapababeecmeaaDoor
open Go.RowKit

theorem toI_f {w : World} {v : Value} {s : List Int} (hs : s.length ≤ 1048576) (h : IS w v s) :
    Calls Tryd.prog 27 #[v] w fun e w' => ∃ v' bl, e = .returned v' ∧ IF w' v' s bl ∧ Fr w w' bl ∧ Below w.heap.size w w' :=
  (toI_row v s w hs h).mono fun _ _ ⟨⟨c, he, _⟩, hlt, hf, hc, hb⟩ => ⟨_, _, he, ⟨_, w.heap.size, 0, c, rfl, fun _ => rfl, rfl, fun j hj => by rw [Nat.zero_add]; exact ⟨hc j hj, hf j⟩⟩, Fr.one (Nat.le_refl _) hlt _, hb⟩
end Go.Proofs.YtaapababeecmeaaDoor

namespace Go.Proofs.YtaapababeecmeaaDoor
open Go.RowKit

theorem toB_f {w : World} {v : Value} {s : ByteArray} (hs : s.size ≤ 1048576) (h : BS w v s) :
    Calls Tryd.prog 62 #[v] w fun e w' => ∃ v' bl, e = .returned v' ∧ BF w' v' s bl ∧ Fr w w' bl ∧ Below w.heap.size w w' :=
  (toB_bs hs h).mono fun _ _ ⟨h1, h2, h3⟩ => ⟨_, _, h1, ⟨_, w.heap.size, 0, _, rfl, fun _ => rfl, rfl, fun j hj => by rw [Nat.zero_add]; exact ⟨h2.cell j hj, h2.frozen j⟩⟩, Fr.one (Nat.le_refl _) h2.lt _, h3⟩
end Go.Proofs.YtaapababeecmeaaDoor

namespace Go.Proofs.YtaapababeecmeaaDoor
open Go.RowKit

set_option maxHeartbeats 4000000 in
set_option maxRecDepth 1000000 in
theorem toTg_f (d : Tg) (v0 : Value) (w : World) (hb : TgB d) (h : TgV w d v0) :
    Calls Tryd.prog 50 #[tgagg d v0] w fun e w' => ∃ v0' bl, e = .returned (tgagg d v0') ∧ TgF w' d v0' bl ∧ Fr w w' bl ∧ Below w.heap.size w w' := by
  obtain ⟨x0, x1, x2⟩ := d
  have HH := hide h
  have hk0 := hb.name
  simp only at hk0
  unfold tgagg
  simp only
  obtain ⟨W0, hW0⟩ : ∃ W, ((w.alloc (.cells #[v0, .int .i64 x1, .int .i64 x2] 71)).alloc (.cells #[.slice none 0 0, .int .i64 0, .int .i64 0] 50)).alloc (.cells #[.slice none 0 0, .int .i64 0, .int .i64 0] 50) = W := ⟨_, rfl⟩
  have hb0 : Below w.heap.size w W0 := by
    rw [← hW0]; exact (((Below.refl _ _).alloc (Nat.le_refl _) _).alloc (by simp) _).alloc (by simp; omega) _
  have hA : Blk W0 w.heap.size 71 #[v0, .int .i64 x1, .int .i64 x2] := by
    rw [← hW0]; exact ((Blk.new _ _ _).alloc _).alloc _
  have hO : Blk W0 (w.heap.size + 1 + 1) 50 #[.slice none 0 0, .int .i64 0, .int .i64 0] := by
    rw [← hW0]
    have := Blk.new ((w.alloc (.cells #[v0, .int .i64 x1, .int .i64 x2] 71)).alloc (.cells #[.slice none 0 0, .int .i64 0, .int .i64 0] 50)) 50 #[.slice none 0 0, .int .i64 0, .int .i64 0]
    simpa using this
  have hR : Blk W0 (w.heap.size + 1) 50 #[.slice none 0 0, .int .i64 0, .int .i64 0] := by
    rw [← hW0]
    have := (Blk.new (w.alloc (.cells #[v0, .int .i64 x1, .int .i64 x2] 71)) 50 #[.slice none 0 0, .int .i64 0, .int .i64 0]).alloc (.cells #[.slice none 0 0, .int .i64 0, .int .i64 0] 50)
    simpa using this
  have HR0 := hide hR
  have HB0 := hide hb0
  have HBZ : Hid (w.heap.size ≤ W0.heap.size) := hb0.size
  have HA0 := hide hA
  have HO0 := hide hO
  have HW := hide hW0
  clear h hb hb0 hA hO hR hW0
  go_enter Tryd.func50, Tryd.ntmps50
  go_wp2_with fail
  rw [HW.out]
  clear HW
  refine (toB_f (w := W0) (v := v0) hk0 (HH.out.name.below HB0.out)).mono ?_
  rintro e w2 ⟨u2, bl0, rfl, hs2, hr2, hb2⟩
  obtain ⟨g0, k0, rfl⟩ := hs2.slice
  have HS0_2 := hide hs2
  have HR_0 : Hid (Fr W0 w2 bl0) := hr2
  have HL_0 : Hid (∀ g ∈ bl0, w.heap.size + 1 + 1 < g) := fun g hg => Nat.lt_of_lt_of_le HO0.out.lt (hr2.lo g hg)
  have HZ_0 : Hid (W0.heap.size ≤ w2.heap.size) := hb2.size
  have HA2 := hide (HA0.out.below hb2)
  have HO2 := hide (HO0.out.below hb2)
  have HR2 := hide (HR0.out.below hb2)
  have HB2 : Hid (Below w.heap.size w w2) := HB0.out.trans (hb2.mono HB0.out.size)
  have a1 := HA2.out.cell 1
  have a2 := HA2.out.cell 2
  have c0 := HO2.out.cell 0
  have d0 := HO2.out.frozen 0
  have r0 := HR2.out.cell 0
  have s0 := HR2.out.frozen 0
  have c1 := HO2.out.cell 1
  have d1 := HO2.out.frozen 1
  have r1 := HR2.out.cell 1
  have s1 := HR2.out.frozen 1
  have c2 := HO2.out.cell 2
  have d2 := HO2.out.frozen 2
  have r2 := HR2.out.cell 2
  have s2 := HR2.out.frozen 2
  simp only [List.getElem?_toArray, List.getElem?_cons_succ, List.getElem?_cons_zero] at a1 a2 c0 c1 c2 r0 r1 r2
  clear hs2 hr2 hb2 HA0 HO0 HB0 HR0
  go_wp2
  (try simp only [Exit.inBlock, Exit.then])
  refine bodyPost_ret (results_cell_row rfl _ _ (w.heap.size + 1) 50 #[.slice g0 (x0.size) k0, .int .i64 x1, .int .i64 x2] (0, 0) _ rfl ?hg Tryd.underlying50 rfl (by kernel_rfl)) rfl ?_
  case hg => exact ((((((HR2.out.other 0 _ (by omega)).other 1 _ (by omega)).other 2 _ (by omega)).set 0 _).set 1 _).set 2 _)
  refine ⟨_, bl0, rfl, ?_, ?_, ?_⟩
  · exact HS0_2.out.keep (fun g hg => by
      have hn : ∀ g ∈ bl0, g ≠ w.heap.size + 1 + 1 ∧ g ≠ w.heap.size + 1 := fun g hg => by have := HL_0.out g hg; omega
      exact ((Below.heap_setCell _ _ _ _ (hn g hg).2).trans ((Below.heap_setCell _ _ _ _ (hn g hg).2).trans ((Below.heap_setCell _ _ _ _ (hn g hg).2).trans ((Below.heap_setCell _ _ _ _ (hn g hg).1).trans ((Below.heap_setCell _ _ _ _ (hn g hg).1).trans (Below.heap_setCell _ _ _ _ (hn g hg).1)))))))
  · exact HR_0.out.mono HBZ.out (by simp [World.size_setCell])
  · exact ((((((HB2.out.setCell (by show w.heap.size ≤ w.heap.size + 1 + 1; omega) _).setCell (by show w.heap.size ≤ w.heap.size + 1 + 1; omega) _).setCell (by show w.heap.size ≤ w.heap.size + 1 + 1; omega) _).setCell (by show w.heap.size ≤ w.heap.size + 1; omega) _).setCell (by show w.heap.size ≤ w.heap.size + 1; omega) _).setCell (by show w.heap.size ≤ w.heap.size + 1; omega) _)
end Go.Proofs.YtaapababeecmeaaDoor
