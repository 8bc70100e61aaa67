/-
  A Target in memory.
-/
import Derived.Test.YtpnocklldlacjaaDoorJValidTablesIN0
namespace Go.Proofs.YtpnocklldlacjaaDoor
open Go.RowKit

/-- A Target. -/
structure Tg where
  name : ByteArray
  kind : Int
  cell : Int
def Tg.zero : Tg := ⟨.empty, 0, 0⟩
/-- Its value, with the slices that it holds. -/
def tgagg (d : Tg) (v0 : Value) : Value := .agg #[v0, .int .i64 d.kind, .int .i64 d.cell]
/-- Its slices read as its lists. -/
structure TgV (w : World) (d : Tg) (v0 : Value) : Prop where
  name : BS w v0 d.name
theorem TgV.below {w w' : World} {d : Tg} {v0 : Value} (h : TgV w d v0) (hb : Below w.heap.size w w') : TgV w' d v0 := ⟨h.name.below hb⟩
/-- Its lists are short. -/
structure TgB (d : Tg) : Prop where
  name : d.name.size ≤ 1048576
/-- Its lists have lengths that an int holds; its numbers are in their range. -/
structure TgL (d : Tg) : Prop where
  name : (d.name.size : Int) ≤ 9223372036854775807
  kind : W64 d.kind
  cell : W64 d.cell
/-- Its slices are copies, in blocks behind G. -/
structure TgO (w : World) (G : Nat) (d : Tg) (v0 : Value) : Prop where
  name : BO w G v0 d.name
theorem TgO.rd {w : World} {G : Nat} {d : Tg} {v0 : Value} (h : TgO w G d v0) : TgV w d v0 := ⟨h.name.bs⟩
theorem TgO.below {w w' : World} {G : Nat} {d : Tg} {v0 : Value} (h : TgO w G d v0) (hb : Below w.heap.size w w') : TgO w' G d v0 := ⟨h.name.below hb⟩
theorem TgO.lower {w : World} {G G' : Nat} {d : Tg} {v0 : Value} (h : TgO w G d v0) (hG : G' ≤ G) : TgO w G' d v0 := ⟨h.name.lower hG⟩
theorem TgO.setAt {w : World} {G G' k : Nat} {d : Tg} {v0 u : Value} (h : TgO w G d v0) (hG : G' ≤ G) : TgO (w.setCell ⟨G', k, none⟩ u) G d v0 := ⟨h.name.setAt hG⟩
end Go.Proofs.YtpnocklldlacjaaDoor
