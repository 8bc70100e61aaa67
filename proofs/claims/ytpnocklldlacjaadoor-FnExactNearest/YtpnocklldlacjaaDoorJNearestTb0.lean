/-
  A Tables in memory.
-/
import Derived.Test.YtpnocklldlacjaaDoorJNearestIIS0
import Derived.Test.YtpnocklldlacjaaDoorJNearestTgS0
namespace Go.Proofs.YtpnocklldlacjaaDoor
open Go.RowKit

/-- A Tables. -/
structure Tb where
  w : Int
  h : Int
  targets : List Tg
  dist : List (List Int)
  hop : List (List Int)
def Tb.zero : Tb := ⟨0, 0, [], [], []⟩
/-- Its value, with the slices that it holds. -/
def tbagg (d : Tb) (v2 v3 v4 : Value) : Value := .agg #[.int .i64 d.w, .int .i64 d.h, v2, v3, v4]
/-- Its slices read as its lists. -/
structure TbV (w : World) (d : Tb) (v2 v3 v4 : Value) : Prop where
  targets : TgS w v2 d.targets
  dist : IIS w v3 d.dist
  hop : IIS w v4 d.hop
theorem TbV.below {w w' : World} {d : Tb} {v2 v3 v4 : Value} (h : TbV w d v2 v3 v4) (hb : Below w.heap.size w w') : TbV w' d v2 v3 v4 := ⟨h.targets.below hb, h.dist.below hb, h.hop.below hb⟩
/-- Its lists are short. -/
structure TbB (d : Tb) : Prop where
  targets : TgSB d.targets
  dist : IISB d.dist
  hop : IISB d.hop
/-- Its lists have lengths that an int holds; its numbers are in their range. -/
structure TbL (d : Tb) : Prop where
  w : W64 d.w
  h : W64 d.h
  targets : TgSL d.targets
  dist : IISL d.dist
  hop : IISL d.hop
/-- Its slices are copies, in blocks behind G. -/
structure TbO (w : World) (G : Nat) (d : Tb) (v2 v3 v4 : Value) : Prop where
  targets : TgSO w G v2 d.targets
  dist : IISO w G v3 d.dist
  hop : IISO w G v4 d.hop
theorem TbO.rd {w : World} {G : Nat} {d : Tb} {v2 v3 v4 : Value} (h : TbO w G d v2 v3 v4) : TbV w d v2 v3 v4 := ⟨h.targets.rd, h.dist.rd, h.hop.rd⟩
theorem TbO.below {w w' : World} {G : Nat} {d : Tb} {v2 v3 v4 : Value} (h : TbO w G d v2 v3 v4) (hb : Below w.heap.size w w') : TbO w' G d v2 v3 v4 := ⟨h.targets.below hb, h.dist.below hb, h.hop.below hb⟩
theorem TbO.lower {w : World} {G G' : Nat} {d : Tb} {v2 v3 v4 : Value} (h : TbO w G d v2 v3 v4) (hG : G' ≤ G) : TbO w G' d v2 v3 v4 := ⟨h.targets.lower hG, h.dist.lower hG, h.hop.lower hG⟩
theorem TbO.setAt {w : World} {G G' k : Nat} {d : Tb} {v2 v3 v4 u : Value} (h : TbO w G d v2 v3 v4) (hG : G' ≤ G) : TbO (w.setCell ⟨G', k, none⟩ u) G d v2 v3 v4 := ⟨h.targets.setAt hG, h.dist.setAt hG, h.hop.setAt hG⟩
end Go.Proofs.YtpnocklldlacjaaDoor
