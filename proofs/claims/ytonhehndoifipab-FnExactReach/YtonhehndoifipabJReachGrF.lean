/-
  A Graph with its blocks; marked.
-/
import Derived.Test.YtonhehndoifipabJReachGr0
import Derived.Test.YtonhehndoifipabJReachFL
namespace Go.Proofs.Ytonhehndoifipab
open Go.RowKit

/-- It reads as d; its blocks. -/
def GrF (w : World) (d : Gr) (v1 v2 v3 v4 : Value) (bl : List Nat) : Prop := ∃ bl1 bl2 bl3 bl4, bl = bl1 ++ (bl2 ++ (bl3 ++ (bl4))) ∧ IF w v1 d.start bl1 ∧ IF w v2 d.to bl2 ∧ IF w v3 d.dir bl3 ∧ IF w v4 d.cost bl4
theorem GrF.rd {w : World} {d : Gr} {v1 v2 v3 v4 : Value} {bl : List Nat} (h : GrF w d v1 v2 v3 v4 bl) : GrV w d v1 v2 v3 v4 := by
  obtain ⟨bl1, bl2, bl3, bl4, _, h1, h2, h3, h4⟩ := h
  exact ⟨h1.rd, h2.rd, h3.rd, h4.rd⟩
theorem GrF.keep {w w' : World} {d : Gr} {v1 v2 v3 v4 : Value} {bl : List Nat} (h : GrF w d v1 v2 v3 v4 bl) (hk : ∀ g ∈ bl, w'.heap[g]? = w.heap[g]?) : GrF w' d v1 v2 v3 v4 bl := by
  obtain ⟨bl1, bl2, bl3, bl4, rfl, h1, h2, h3, h4⟩ := h
  exact ⟨_, _, _, _, rfl, h1.keep (fun g hg => hk g (List.mem_append_left _ hg)), h2.keep (fun g hg => hk g (List.mem_append_right _ (List.mem_append_left _ hg))), h3.keep (fun g hg => hk g (List.mem_append_right _ (List.mem_append_right _ (List.mem_append_left _ hg)))), h4.keep (fun g hg => hk g (List.mem_append_right _ (List.mem_append_right _ (List.mem_append_right _ (hg)))))⟩
theorem GrF.lt {w : World} {d : Gr} {v1 v2 v3 v4 : Value} {bl : List Nat} (h : GrF w d v1 v2 v3 v4 bl) : ∀ g ∈ bl, g < w.heap.size := by
  obtain ⟨bl1, bl2, bl3, bl4, rfl, h1, h2, h3, h4⟩ := h
  intro g hg
  simp only [List.mem_append] at hg
  rcases hg with hg | hg | hg | hg
  · exact h1.lt g hg
  · exact h2.lt g hg
  · exact h3.lt g hg
  · exact h4.lt g hg
theorem GrF.below {w w' : World} {d : Gr} {v1 v2 v3 v4 : Value} {bl : List Nat} (h : GrF w d v1 v2 v3 v4 bl) (hb : Below w.heap.size w w') : GrF w' d v1 v2 v3 v4 bl := h.keep fun g hg => hb.block g (h.lt g hg)
/-- It is marked from k on; its blocks. -/
def GrM (w : World) (d : Gr) (v1 v2 v3 v4 : Value) (k : Nat) (bl : List Nat) : Prop := ∃ bl1 bl2 bl3 bl4, bl = bl1 ++ (bl2 ++ (bl3 ++ (bl4))) ∧ IM w v1 (d.start.length) (k) bl1 ∧ IM w v2 (d.to.length) (k + d.start.length) bl2 ∧ IM w v3 (d.dir.length) (k + d.start.length + d.to.length) bl3 ∧ IM w v4 (d.cost.length) (k + d.start.length + d.to.length + d.dir.length) bl4
theorem GrM.keep {w w' : World} {d : Gr} {v1 v2 v3 v4 : Value} {k : Nat} {bl : List Nat} (h : GrM w d v1 v2 v3 v4 k bl) (hk : ∀ g ∈ bl, w'.heap[g]? = w.heap[g]?) : GrM w' d v1 v2 v3 v4 k bl := by
  obtain ⟨bl1, bl2, bl3, bl4, rfl, h1, h2, h3, h4⟩ := h
  exact ⟨_, _, _, _, rfl, h1.keep (fun g hg => hk g (List.mem_append_left _ hg)), h2.keep (fun g hg => hk g (List.mem_append_right _ (List.mem_append_left _ hg))), h3.keep (fun g hg => hk g (List.mem_append_right _ (List.mem_append_right _ (List.mem_append_left _ hg)))), h4.keep (fun g hg => hk g (List.mem_append_right _ (List.mem_append_right _ (List.mem_append_right _ (hg)))))⟩
theorem GrM.lt {w : World} {d : Gr} {v1 v2 v3 v4 : Value} {k : Nat} {bl : List Nat} (h : GrM w d v1 v2 v3 v4 k bl) : ∀ g ∈ bl, g < w.heap.size := by
  obtain ⟨bl1, bl2, bl3, bl4, rfl, h1, h2, h3, h4⟩ := h
  intro g hg
  simp only [List.mem_append] at hg
  rcases hg with hg | hg | hg | hg
  · exact h1.lt g hg
  · exact h2.lt g hg
  · exact h3.lt g hg
  · exact h4.lt g hg
theorem GrM.below {w w' : World} {d : Gr} {v1 v2 v3 v4 : Value} {k : Nat} {bl : List Nat} (h : GrM w d v1 v2 v3 v4 k bl) (hb : Below w.heap.size w w') : GrM w' d v1 v2 v3 v4 k bl := h.keep fun g hg => hb.block g (h.lt g hg)
/-- How many marks it takes. -/
def GrNv (d : Gr) : Nat := d.start.length + d.to.length + d.dir.length + d.cost.length
end Go.Proofs.Ytonhehndoifipab
