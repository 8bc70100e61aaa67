/-
  A Layout in memory.
-/
import Derived.Test.YtaapababeecmeaaDoorJValidLayoutIN0
import Derived.Test.YtaapababeecmeaaDoorJValidLayoutTgS0
namespace Go.Proofs.YtaapababeecmeaaDoor
open Go.RowKit

/-- A Layout. -/
structure Ly where
  w : Int
  h : Int
  cost : List Int
  exits : List Int
  targets : List Tg
def Ly.zero : Ly := ⟨0, 0, [], [], []⟩
/-- Its value, with the slices that it holds. -/
def lyagg (d : Ly) (v2 v3 v4 : Value) : Value := .agg #[.int .i64 d.w, .int .i64 d.h, v2, v3, v4]
/-- Its slices read as its lists. -/
structure LyV (w : World) (d : Ly) (v2 v3 v4 : Value) : Prop where
  cost : IS w v2 d.cost
  exits : IS w v3 d.exits
  targets : TgS w v4 d.targets
theorem LyV.below {w w' : World} {d : Ly} {v2 v3 v4 : Value} (h : LyV w d v2 v3 v4) (hb : Below w.heap.size w w') : LyV w' d v2 v3 v4 := ⟨h.cost.below hb, h.exits.below hb, h.targets.below hb⟩
/-- Its lists are short. -/
structure LyB (d : Ly) : Prop where
  cost : d.cost.length ≤ 1048576
  exits : d.exits.length ≤ 1048576
  targets : TgSB d.targets
/-- Its lists have lengths that an int holds; its numbers are in their range. -/
structure LyL (d : Ly) : Prop where
  w : W64 d.w
  h : W64 d.h
  cost : IL d.cost
  exits : IL d.exits
  targets : TgSL d.targets
/-- Its slices are copies, in blocks behind G. -/
structure LyO (w : World) (G : Nat) (d : Ly) (v2 v3 v4 : Value) : Prop where
  cost : ICp w G v2 d.cost
  exits : ICp w G v3 d.exits
  targets : TgSO w G v4 d.targets
theorem LyO.rd {w : World} {G : Nat} {d : Ly} {v2 v3 v4 : Value} (h : LyO w G d v2 v3 v4) : LyV w d v2 v3 v4 := ⟨h.cost.is, h.exits.is, h.targets.rd⟩
theorem LyO.below {w w' : World} {G : Nat} {d : Ly} {v2 v3 v4 : Value} (h : LyO w G d v2 v3 v4) (hb : Below w.heap.size w w') : LyO w' G d v2 v3 v4 := ⟨h.cost.below hb, h.exits.below hb, h.targets.below hb⟩
theorem LyO.lower {w : World} {G G' : Nat} {d : Ly} {v2 v3 v4 : Value} (h : LyO w G d v2 v3 v4) (hG : G' ≤ G) : LyO w G' d v2 v3 v4 := ⟨h.cost.lower hG, h.exits.lower hG, h.targets.lower hG⟩
theorem LyO.setAt {w : World} {G G' k : Nat} {d : Ly} {v2 v3 v4 u : Value} (h : LyO w G d v2 v3 v4) (hG : G' ≤ G) : LyO (w.setCell ⟨G', k, none⟩ u) G d v2 v3 v4 := ⟨h.cost.setAt hG, h.exits.setAt hG, h.targets.setAt hG⟩
end Go.Proofs.YtaapababeecmeaaDoor
