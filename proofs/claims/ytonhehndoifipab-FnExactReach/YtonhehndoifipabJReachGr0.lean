/-
  A Graph in memory.
-/
import Derived.Test.YtonhehndoifipabJReachIN0
namespace Go.Proofs.Ytonhehndoifipab
open Go.RowKit

/-- A Graph. -/
structure Gr where
  n : Int
  start : List Int
  to : List Int
  dir : List Int
  cost : List Int
def Gr.zero : Gr := ⟨0, [], [], [], []⟩
/-- Its value, with the slices that it holds. -/
def gragg (d : Gr) (v1 v2 v3 v4 : Value) : Value := .agg #[.int .i64 d.n, v1, v2, v3, v4]
/-- Its slices read as its lists. -/
structure GrV (w : World) (d : Gr) (v1 v2 v3 v4 : Value) : Prop where
  start : IS w v1 d.start
  to : IS w v2 d.to
  dir : IS w v3 d.dir
  cost : IS w v4 d.cost
theorem GrV.below {w w' : World} {d : Gr} {v1 v2 v3 v4 : Value} (h : GrV w d v1 v2 v3 v4) (hb : Below w.heap.size w w') : GrV w' d v1 v2 v3 v4 := ⟨h.start.below hb, h.to.below hb, h.dir.below hb, h.cost.below hb⟩
/-- Its lists are short. -/
structure GrB (d : Gr) : Prop where
  start : d.start.length ≤ 1048576
  to : d.to.length ≤ 1048576
  dir : d.dir.length ≤ 1048576
  cost : d.cost.length ≤ 1048576
/-- Its lists have lengths that an int holds; its numbers are in their range. -/
structure GrL (d : Gr) : Prop where
  n : W64 d.n
  start : IL d.start
  to : IL d.to
  dir : IL d.dir
  cost : IL d.cost
/-- Its slices are copies, in blocks behind G. -/
structure GrO (w : World) (G : Nat) (d : Gr) (v1 v2 v3 v4 : Value) : Prop where
  start : ICp w G v1 d.start
  to : ICp w G v2 d.to
  dir : ICp w G v3 d.dir
  cost : ICp w G v4 d.cost
theorem GrO.rd {w : World} {G : Nat} {d : Gr} {v1 v2 v3 v4 : Value} (h : GrO w G d v1 v2 v3 v4) : GrV w d v1 v2 v3 v4 := ⟨h.start.is, h.to.is, h.dir.is, h.cost.is⟩
theorem GrO.below {w w' : World} {G : Nat} {d : Gr} {v1 v2 v3 v4 : Value} (h : GrO w G d v1 v2 v3 v4) (hb : Below w.heap.size w w') : GrO w' G d v1 v2 v3 v4 := ⟨h.start.below hb, h.to.below hb, h.dir.below hb, h.cost.below hb⟩
theorem GrO.lower {w : World} {G G' : Nat} {d : Gr} {v1 v2 v3 v4 : Value} (h : GrO w G d v1 v2 v3 v4) (hG : G' ≤ G) : GrO w G' d v1 v2 v3 v4 := ⟨h.start.lower hG, h.to.lower hG, h.dir.lower hG, h.cost.lower hG⟩
theorem GrO.setAt {w : World} {G G' k : Nat} {d : Gr} {v1 v2 v3 v4 u : Value} (h : GrO w G d v1 v2 v3 v4) (hG : G' ≤ G) : GrO (w.setCell ⟨G', k, none⟩ u) G d v1 v2 v3 v4 := ⟨h.start.setAt hG, h.to.setAt hG, h.dir.setAt hG, h.cost.setAt hG⟩
end Go.Proofs.Ytonhehndoifipab
