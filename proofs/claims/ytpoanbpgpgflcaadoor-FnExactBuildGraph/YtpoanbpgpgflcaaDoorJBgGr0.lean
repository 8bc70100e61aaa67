/-
  A Graph in memory.
  The walk of eqGraph, where both read as the same.
  A Graph with its blocks; marked.
-/
import Derived.Test.YtpoanbpgpgflcaaDoorJBgB0
import Derived.Test.YtpoanbpgpgflcaaDoorJBgTg0
import Derived.Test.YtpoanbpgpgflcaaDoorJBgFL
namespace Go.Proofs.YtpoanbpgpgflcaaDoor
open Go.RowKit

/-- A Graph. -/
structure Gr where
  n : Int
  start : List Int
  to : List Int
  dir : List Int
  cost : List Int
def Gr.zero : Gr := ⟨0, [], [], [], []⟩
/-- Its value, with the slices that it holds. -/
def gragg (d : Gr) (v1 v2 v3 v4 : Value) : Value := .agg #[.int .i64 d.n, v1, v2, v3, v4]
/-- Its slices read as its lists. -/
structure GrV (w : World) (d : Gr) (v1 v2 v3 v4 : Value) : Prop where
  start : IS w v1 d.start
  to : IS w v2 d.to
  dir : IS w v3 d.dir
  cost : IS w v4 d.cost
theorem GrV.below {w w' : World} {d : Gr} {v1 v2 v3 v4 : Value} (h : GrV w d v1 v2 v3 v4) (hb : Below w.heap.size w w') : GrV w' d v1 v2 v3 v4 := ⟨h.start.below hb, h.to.below hb, h.dir.below hb, h.cost.below hb⟩
/-- Its lists are short. -/
structure GrB (d : Gr) : Prop where
  start : d.start.length ≤ 1048576
  to : d.to.length ≤ 1048576
  dir : d.dir.length ≤ 1048576
  cost : d.cost.length ≤ 1048576
/-- Its lists have lengths that an int holds; its numbers are in their range. -/
structure GrL (d : Gr) : Prop where
  n : W64 d.n
  start : IL d.start
  to : IL d.to
  dir : IL d.dir
  cost : IL d.cost
/-- Its slices are copies, in blocks behind G. -/
structure GrO (w : World) (G : Nat) (d : Gr) (v1 v2 v3 v4 : Value) : Prop where
  start : ICp w G v1 d.start
  to : ICp w G v2 d.to
  dir : ICp w G v3 d.dir
  cost : ICp w G v4 d.cost
theorem GrO.rd {w : World} {G : Nat} {d : Gr} {v1 v2 v3 v4 : Value} (h : GrO w G d v1 v2 v3 v4) : GrV w d v1 v2 v3 v4 := ⟨h.start.is, h.to.is, h.dir.is, h.cost.is⟩
theorem GrO.below {w w' : World} {G : Nat} {d : Gr} {v1 v2 v3 v4 : Value} (h : GrO w G d v1 v2 v3 v4) (hb : Below w.heap.size w w') : GrO w' G d v1 v2 v3 v4 := ⟨h.start.below hb, h.to.below hb, h.dir.below hb, h.cost.below hb⟩
theorem GrO.lower {w : World} {G G' : Nat} {d : Gr} {v1 v2 v3 v4 : Value} (h : GrO w G d v1 v2 v3 v4) (hG : G' ≤ G) : GrO w G' d v1 v2 v3 v4 := ⟨h.start.lower hG, h.to.lower hG, h.dir.lower hG, h.cost.lower hG⟩
theorem GrO.setAt {w : World} {G G' k : Nat} {d : Gr} {v1 v2 v3 v4 u : Value} (h : GrO w G d v1 v2 v3 v4) (hG : G' ≤ G) : GrO (w.setCell ⟨G', k, none⟩ u) G d v1 v2 v3 v4 := ⟨h.start.setAt hG, h.to.setAt hG, h.dir.setAt hG, h.cost.setAt hG⟩
end Go.Proofs.YtpoanbpgpgflcaaDoor

namespace Go.Proofs.YtpoanbpgpgflcaaDoor
open Go.RowKit

set_option maxHeartbeats 2000000 in
set_option maxRecDepth 1000000 in
theorem eqGr_same {w : World} {d : Gr} {p1 p2 p3 p4 q1 q2 q3 q4 : Value} (hb : GrB d) (h1 : GrV w d p1 p2 p3 p4) (h2 : GrV w d q1 q2 q3 q4) :
    Calls Tryd.prog 8 #[gragg d p1 p2 p3 p4, gragg d q1 q2 q3 q4] w fun e w' => e = .returned (.bool true) ∧ Below w.heap.size w w' := by
  obtain ⟨x0, x1, x2, x3, x4⟩ := d
  have e0 : (x0 != x0) = false := by simp
  have HB := hide hb
  have H1 := hide h1
  have H2 := hide h2
  clear hb h1 h2
  unfold gragg
  simp only
  obtain ⟨W0, hW0⟩ : ∃ W, (w.alloc (.cells #[.int .i64 x0, p1, p2, p3, p4] 28)).alloc (.cells #[.int .i64 x0, q1, q2, q3, q4] 28) = W := ⟨_, rfl⟩
  have hb0 : Below w.heap.size w W0 := by rw [← hW0]; exact ((Below.refl _ _).alloc (Nat.le_refl _) _).alloc (by simp) _
  have hA : Blk W0 w.heap.size 28 #[.int .i64 x0, p1, p2, p3, p4] := by rw [← hW0]; exact (Blk.new _ _ _).alloc _
  have hC : Blk W0 (w.heap.size + 1) 28 #[.int .i64 x0, q1, q2, q3, q4] := by
    rw [← hW0]
    have := Blk.new (w.alloc (.cells #[.int .i64 x0, p1, p2, p3, p4] 28)) 28 #[.int .i64 x0, q1, q2, q3, q4]
    simpa using this
  have HA0 := hide hA
  have HC0 := hide hC
  have HB0 := hide hb0
  have HW := hide hW0
  clear hA hC hb0 hW0
  go_enter Tryd.func8, Tryd.ntmps8
  go_wp2_with fail
  rw [HW.out]
  clear HW
  refine (eqI_same HB.out.start (H1.out.start.below HB0.out) (H2.out.start.below HB0.out)).mono ?_
  rintro e w2 ⟨rfl, hb2⟩
  have HA2 := hide (HA0.out.below hb2)
  have HC2 := hide (HC0.out.below hb2)
  have HB2 : Hid (Below w.heap.size w w2) := HB0.out.trans (hb2.mono HB0.out.size)
  have a2 := HA2.out.cell 2
  have c2 := HC2.out.cell 2
  have a3 := HA2.out.cell 3
  have c3 := HC2.out.cell 3
  have a4 := HA2.out.cell 4
  have c4 := HC2.out.cell 4
  simp only [List.getElem?_toArray, List.getElem?_cons_succ, List.getElem?_cons_zero] at a2 c2 a3 c3 a4 c4
  clear hb2 HA0 HC0 HB0
  go_wp2_with fail
  clear a2 c2 a3 c3 a4 c4
  refine (eqI_same HB.out.to (H1.out.to.below HB2.out) (H2.out.to.below HB2.out)).mono ?_
  rintro e w3 ⟨rfl, hb3⟩
  have HA3 := hide (HA2.out.below hb3)
  have HC3 := hide (HC2.out.below hb3)
  have HB3 : Hid (Below w.heap.size w w3) := HB2.out.trans (hb3.mono HB2.out.size)
  have a3 := HA3.out.cell 3
  have c3 := HC3.out.cell 3
  have a4 := HA3.out.cell 4
  have c4 := HC3.out.cell 4
  simp only [List.getElem?_toArray, List.getElem?_cons_succ, List.getElem?_cons_zero] at a3 c3 a4 c4
  clear hb3 HA2 HC2 HB2
  go_wp2_with fail
  clear a3 c3 a4 c4
  refine (eqI_same HB.out.dir (H1.out.dir.below HB3.out) (H2.out.dir.below HB3.out)).mono ?_
  rintro e w4 ⟨rfl, hb4⟩
  have HA4 := hide (HA3.out.below hb4)
  have HC4 := hide (HC3.out.below hb4)
  have HB4 : Hid (Below w.heap.size w w4) := HB3.out.trans (hb4.mono HB3.out.size)
  have a4 := HA4.out.cell 4
  have c4 := HC4.out.cell 4
  simp only [List.getElem?_toArray, List.getElem?_cons_succ, List.getElem?_cons_zero] at a4 c4
  clear hb4 HA3 HC3 HB3
  go_wp2_with fail
  clear a4 c4
  refine (eqI_same HB.out.cost (H1.out.cost.below HB4.out) (H2.out.cost.below HB4.out)).mono ?_
  rintro e w5 ⟨rfl, hb5⟩
  have HA5 := hide (HA4.out.below hb5)
  have HC5 := hide (HC4.out.below hb5)
  have HB5 : Hid (Below w.heap.size w w5) := HB4.out.trans (hb5.mono HB4.out.size)
  clear hb5 HA4 HC4 HB4
  go_wp2
  go_ret
  exact ⟨rfl, HB5.out⟩
end Go.Proofs.YtpoanbpgpgflcaaDoor

namespace Go.Proofs.YtpoanbpgpgflcaaDoor
open Go.RowKit

/-- It reads as d; its blocks. -/
def GrF (w : World) (d : Gr) (v1 v2 v3 v4 : Value) (bl : List Nat) : Prop := ∃ bl1 bl2 bl3 bl4, bl = bl1 ++ (bl2 ++ (bl3 ++ (bl4))) ∧ IF w v1 d.start bl1 ∧ IF w v2 d.to bl2 ∧ IF w v3 d.dir bl3 ∧ IF w v4 d.cost bl4
theorem GrF.rd {w : World} {d : Gr} {v1 v2 v3 v4 : Value} {bl : List Nat} (h : GrF w d v1 v2 v3 v4 bl) : GrV w d v1 v2 v3 v4 := by
  obtain ⟨bl1, bl2, bl3, bl4, _, h1, h2, h3, h4⟩ := h
  exact ⟨h1.rd, h2.rd, h3.rd, h4.rd⟩
theorem GrF.keep {w w' : World} {d : Gr} {v1 v2 v3 v4 : Value} {bl : List Nat} (h : GrF w d v1 v2 v3 v4 bl) (hk : ∀ g ∈ bl, w'.heap[g]? = w.heap[g]?) : GrF w' d v1 v2 v3 v4 bl := by
  obtain ⟨bl1, bl2, bl3, bl4, rfl, h1, h2, h3, h4⟩ := h
  exact ⟨_, _, _, _, rfl, h1.keep (fun g hg => hk g (List.mem_append_left _ hg)), h2.keep (fun g hg => hk g (List.mem_append_right _ (List.mem_append_left _ hg))), h3.keep (fun g hg => hk g (List.mem_append_right _ (List.mem_append_right _ (List.mem_append_left _ hg)))), h4.keep (fun g hg => hk g (List.mem_append_right _ (List.mem_append_right _ (List.mem_append_right _ (hg)))))⟩
theorem GrF.lt {w : World} {d : Gr} {v1 v2 v3 v4 : Value} {bl : List Nat} (h : GrF w d v1 v2 v3 v4 bl) : ∀ g ∈ bl, g < w.heap.size := by
  obtain ⟨bl1, bl2, bl3, bl4, rfl, h1, h2, h3, h4⟩ := h
  intro g hg
  simp only [List.mem_append] at hg
  rcases hg with hg | hg | hg | hg
  · exact h1.lt g hg
  · exact h2.lt g hg
  · exact h3.lt g hg
  · exact h4.lt g hg
theorem GrF.below {w w' : World} {d : Gr} {v1 v2 v3 v4 : Value} {bl : List Nat} (h : GrF w d v1 v2 v3 v4 bl) (hb : Below w.heap.size w w') : GrF w' d v1 v2 v3 v4 bl := h.keep fun g hg => hb.block g (h.lt g hg)
/-- It is marked from k on; its blocks. -/
def GrM (w : World) (d : Gr) (v1 v2 v3 v4 : Value) (k : Nat) (bl : List Nat) : Prop := ∃ bl1 bl2 bl3 bl4, bl = bl1 ++ (bl2 ++ (bl3 ++ (bl4))) ∧ IM w v1 (d.start.length) (k) bl1 ∧ IM w v2 (d.to.length) (k + d.start.length) bl2 ∧ IM w v3 (d.dir.length) (k + d.start.length + d.to.length) bl3 ∧ IM w v4 (d.cost.length) (k + d.start.length + d.to.length + d.dir.length) bl4
theorem GrM.keep {w w' : World} {d : Gr} {v1 v2 v3 v4 : Value} {k : Nat} {bl : List Nat} (h : GrM w d v1 v2 v3 v4 k bl) (hk : ∀ g ∈ bl, w'.heap[g]? = w.heap[g]?) : GrM w' d v1 v2 v3 v4 k bl := by
  obtain ⟨bl1, bl2, bl3, bl4, rfl, h1, h2, h3, h4⟩ := h
  exact ⟨_, _, _, _, rfl, h1.keep (fun g hg => hk g (List.mem_append_left _ hg)), h2.keep (fun g hg => hk g (List.mem_append_right _ (List.mem_append_left _ hg))), h3.keep (fun g hg => hk g (List.mem_append_right _ (List.mem_append_right _ (List.mem_append_left _ hg)))), h4.keep (fun g hg => hk g (List.mem_append_right _ (List.mem_append_right _ (List.mem_append_right _ (hg)))))⟩
theorem GrM.lt {w : World} {d : Gr} {v1 v2 v3 v4 : Value} {k : Nat} {bl : List Nat} (h : GrM w d v1 v2 v3 v4 k bl) : ∀ g ∈ bl, g < w.heap.size := by
  obtain ⟨bl1, bl2, bl3, bl4, rfl, h1, h2, h3, h4⟩ := h
  intro g hg
  simp only [List.mem_append] at hg
  rcases hg with hg | hg | hg | hg
  · exact h1.lt g hg
  · exact h2.lt g hg
  · exact h3.lt g hg
  · exact h4.lt g hg
theorem GrM.below {w w' : World} {d : Gr} {v1 v2 v3 v4 : Value} {k : Nat} {bl : List Nat} (h : GrM w d v1 v2 v3 v4 k bl) (hb : Below w.heap.size w w') : GrM w' d v1 v2 v3 v4 k bl := h.keep fun g hg => hb.block g (h.lt g hg)
/-- How many marks it takes. -/
def GrNv (d : Gr) : Nat := d.start.length + d.to.length + d.dir.length + d.cost.length
end Go.Proofs.YtpoanbpgpgflcaaDoor
