/-
  A Decl in memory.
  Lists of Decl in memory.
-/
import Derived.Test.YtaapababeecmeaaDoorJLayoutDeclsIN0
namespace Go.Proofs.YtaapababeecmeaaDoor
open Go.RowKit

/-- A Decl. -/
structure Dc where
  kind : Int
  x1 : Int
  y1 : Int
  x2 : Int
  y2 : Int
  dir : Int
  cost : Int
  name : ByteArray
  node : Int
def Dc.zero : Dc := ⟨0, 0, 0, 0, 0, 0, 0, .empty, 0⟩
/-- Its value, with the slices that it holds. -/
def dcagg (d : Dc) (v7 : Value) : Value := .agg #[.int .i64 d.kind, .int .i64 d.x1, .int .i64 d.y1, .int .i64 d.x2, .int .i64 d.y2, .int .i64 d.dir, .int .i64 d.cost, v7, .int .i64 d.node]
/-- Its slices read as its lists. -/
structure DcV (w : World) (d : Dc) (v7 : Value) : Prop where
  name : BS w v7 d.name
theorem DcV.below {w w' : World} {d : Dc} {v7 : Value} (h : DcV w d v7) (hb : Below w.heap.size w w') : DcV w' d v7 := ⟨h.name.below hb⟩
/-- Its lists are short. -/
structure DcB (d : Dc) : Prop where
  name : d.name.size ≤ 1048576
/-- Its lists have lengths that an int holds; its numbers are in their range. -/
structure DcL (d : Dc) : Prop where
  kind : W64 d.kind
  x1 : W64 d.x1
  y1 : W64 d.y1
  x2 : W64 d.x2
  y2 : W64 d.y2
  dir : W64 d.dir
  cost : W64 d.cost
  name : (d.name.size : Int) ≤ 9223372036854775807
  node : W64 d.node
/-- Its slices are copies, in blocks behind G. -/
structure DcO (w : World) (G : Nat) (d : Dc) (v7 : Value) : Prop where
  name : BO w G v7 d.name
theorem DcO.rd {w : World} {G : Nat} {d : Dc} {v7 : Value} (h : DcO w G d v7) : DcV w d v7 := ⟨h.name.bs⟩
theorem DcO.below {w w' : World} {G : Nat} {d : Dc} {v7 : Value} (h : DcO w G d v7) (hb : Below w.heap.size w w') : DcO w' G d v7 := ⟨h.name.below hb⟩
theorem DcO.lower {w : World} {G G' : Nat} {d : Dc} {v7 : Value} (h : DcO w G d v7) (hG : G' ≤ G) : DcO w G' d v7 := ⟨h.name.lower hG⟩
theorem DcO.setAt {w : World} {G G' k : Nat} {d : Dc} {v7 u : Value} (h : DcO w G d v7) (hG : G' ≤ G) : DcO (w.setCell ⟨G', k, none⟩ u) G d v7 := ⟨h.name.setAt hG⟩
end Go.Proofs.YtaapababeecmeaaDoor

namespace Go.Proofs.YtaapababeecmeaaDoor
open Go.RowKit

/-- The cells of one. -/
structure DcC (w : World) (b p : Nat) (d : Dc) (v7 : Value) : Prop where
  kind : w.cell? ⟨b, p, none⟩ = some (.int .i64 d.kind)
  x1 : w.cell? ⟨b, p + 1, none⟩ = some (.int .i64 d.x1)
  y1 : w.cell? ⟨b, p + 2, none⟩ = some (.int .i64 d.y1)
  x2 : w.cell? ⟨b, p + 3, none⟩ = some (.int .i64 d.x2)
  y2 : w.cell? ⟨b, p + 4, none⟩ = some (.int .i64 d.y2)
  dir : w.cell? ⟨b, p + 5, none⟩ = some (.int .i64 d.dir)
  cost : w.cell? ⟨b, p + 6, none⟩ = some (.int .i64 d.cost)
  name : w.cell? ⟨b, p + 7, none⟩ = some v7
  node : w.cell? ⟨b, p + 8, none⟩ = some (.int .i64 d.node)
theorem DcC.below {w w' : World} {b p : Nat} {d : Dc} {v7 : Value} (h : DcC w b p d v7) (hb : Below w.heap.size w w') : DcC w' b p d v7 := ⟨cell_kept h.kind hb, cell_kept h.x1 hb, cell_kept h.y1 hb, cell_kept h.x2 hb, cell_kept h.y2 hb, cell_kept h.dir hb, cell_kept h.cost hb, cell_kept h.name hb, cell_kept h.node hb⟩
theorem DcC.set {w : World} {b p g k : Nat} {d : Dc} {v7 u : Value} (h : DcC w b p d v7) (hb : b ≠ g) : DcC (w.setCell ⟨g, k, none⟩ u) b p d v7 := ⟨by rw [setCell_cell hb]; exact h.kind, by rw [setCell_cell hb]; exact h.x1, by rw [setCell_cell hb]; exact h.y1, by rw [setCell_cell hb]; exact h.x2, by rw [setCell_cell hb]; exact h.y2, by rw [setCell_cell hb]; exact h.dir, by rw [setCell_cell hb]; exact h.cost, by rw [setCell_cell hb]; exact h.name, by rw [setCell_cell hb]; exact h.node⟩
/-- A slice of them reads as L. -/
def DcS (w : World) (v : Value) (L : List Dc) : Prop := ∃ a b o c, v = .slice a L.length c ∧ (0 < L.length → a = some ⟨b, o, none⟩) ∧ ∀ j, j < L.length → ∃ v7, DcC w b (o + j * 9) (L.getD j .zero) v7 ∧ DcV w (L.getD j .zero) v7
theorem DcS.below {w w' : World} {v : Value} {L : List Dc} (h : DcS w v L) (hb : Below w.heap.size w w') : DcS w' v L := by
  obtain ⟨a, b, o, c, h1, h2, h3⟩ := h
  refine ⟨a, b, o, c, h1, h2, fun j hj => ?_⟩
  obtain ⟨v7, h4, h5⟩ := h3 j hj
  exact ⟨v7, h4.below hb, h5.below hb⟩
theorem DcS.slice {w : World} {v : Value} {L : List Dc} (h : DcS w v L) : ∃ a c, v = .slice a L.length c := by
  obtain ⟨a, _, _, c, h1, _⟩ := h; exact ⟨a, c, h1⟩
/-- A copy of a slice of them, in blocks behind G. -/
def DcSO (w : World) (G : Nat) (v : Value) (L : List Dc) : Prop := ∃ b c, G < b ∧ b < w.heap.size ∧ v = .slice (some ⟨b, 0, none⟩) L.length c ∧ Fz w b ∧ ∀ j, j < L.length → ∃ v7, DcC w b (j * 9) (L.getD j .zero) v7 ∧ DcO w b (L.getD j .zero) v7
theorem DcSO.slice {w : World} {G : Nat} {v : Value} {L : List Dc} (h : DcSO w G v L) : ∃ g c, v = .slice (some ⟨g, 0, none⟩) L.length c := by
  obtain ⟨b, c, _, _, h1, _⟩ := h; exact ⟨b, c, h1⟩
theorem DcSO.rd {w : World} {G : Nat} {v : Value} {L : List Dc} (h : DcSO w G v L) : DcS w v L := by
  obtain ⟨b, c, _, _, h1, _, h2⟩ := h
  refine ⟨_, b, 0, c, h1, fun _ => rfl, fun j hj => ?_⟩
  obtain ⟨v7, h3, h4⟩ := h2 j hj
  exact ⟨v7, by rw [Nat.zero_add]; exact h3, h4.rd⟩
theorem DcSO.below {w w' : World} {G : Nat} {v : Value} {L : List Dc} (h : DcSO w G v L) (hb : Below w.heap.size w w') : DcSO w' G v L := by
  obtain ⟨b, c, h0, h4, h1, hf, h2⟩ := h
  refine ⟨b, c, h0, by have := hb.size; omega, h1, hf.below h4 hb, fun j hj => ?_⟩
  obtain ⟨v7, h3, h5⟩ := h2 j hj
  exact ⟨v7, h3.below hb, h5.below hb⟩
theorem DcSO.lower {w : World} {G G' : Nat} {v : Value} {L : List Dc} (h : DcSO w G v L) (hG : G' ≤ G) : DcSO w G' v L := by
  obtain ⟨b, c, h0, h4, h1, hf, h2⟩ := h
  refine ⟨b, c, by omega, h4, h1, hf, fun j hj => ?_⟩
  obtain ⟨v7, h3, h5⟩ := h2 j hj
  exact ⟨v7, h3, h5⟩
theorem DcSO.setAt {w : World} {G G' k : Nat} {v u : Value} {L : List Dc} (h : DcSO w G v L) (hG : G' ≤ G) : DcSO (w.setCell ⟨G', k, none⟩ u) G v L := by
  obtain ⟨b, c, h0, h4, h1, hf, h2⟩ := h
  refine ⟨b, c, h0, by simpa using h4, h1, hf.set, fun j hj => ?_⟩
  obtain ⟨v7, h3, h5⟩ := h2 j hj
  exact ⟨v7, h3.set (by omega), h5.setAt (by omega)⟩
/-- A short list of short ones. -/
structure DcSB (L : List Dc) : Prop where
  len : L.length ≤ 1048576
  each : ∀ j, j < L.length → DcB (L.getD j .zero)
structure DcSL (L : List Dc) : Prop where
  len : (L.length : Int) ≤ 9223372036854775807
  each : ∀ j, j < L.length → DcL (L.getD j .zero)
end Go.Proofs.YtaapababeecmeaaDoor
