/-
  Robots in memory.
-/
import Derived.Test.YteicpjbeihabnaaDoorJValidFleetMK
namespace Go.Proofs.YteicpjbeihabnaaDoor
open Go.RowKit

/-- A Robot. -/
structure Ro where
  cell : Int
  target : Int
  moves : Int
  waits : Int
  done : Bool
def Ro.zero : Ro := ⟨0, 0, 0, 0, false⟩
/-- Its value. -/
def roagg (d : Ro) : Value := .agg #[.int .i64 d.cell, .int .i64 d.target, .int .i64 d.moves, .int .i64 d.waits, .bool d.done]
/-- The cells of one. -/
structure RoC (w : World) (b p : Nat) (d : Ro) : Prop where
  cell : w.cell? ⟨b, p, none⟩ = some (.int .i64 d.cell)
  target : w.cell? ⟨b, p + 1, none⟩ = some (.int .i64 d.target)
  moves : w.cell? ⟨b, p + 2, none⟩ = some (.int .i64 d.moves)
  waits : w.cell? ⟨b, p + 3, none⟩ = some (.int .i64 d.waits)
  done : w.cell? ⟨b, p + 4, none⟩ = some (.bool d.done)
theorem RoC.below {w w' : World} {b p : Nat} {d : Ro} (h : RoC w b p d) (hb : Below w.heap.size w w') : RoC w' b p d := ⟨cell_kept h.cell hb, cell_kept h.target hb, cell_kept h.moves hb, cell_kept h.waits hb, cell_kept h.done hb⟩
theorem RoC.of_eq {w w' : World} {b p : Nat} {d : Ro} (h : RoC w b p d) (he : ∀ j, w'.cell? ⟨b, j, none⟩ = w.cell? ⟨b, j, none⟩) : RoC w' b p d := ⟨(he _).trans h.cell, (he _).trans h.target, (he _).trans h.moves, (he _).trans h.waits, (he _).trans h.done⟩
/-- A slice of them reads as L. -/
def RoS (w : World) (v : Value) (L : List Ro) : Prop := ∃ a b o c, v = .slice a L.length c ∧ (0 < L.length → a = some ⟨b, o, none⟩) ∧ ∀ j, j < L.length → RoC w b (o + j * 5) (L.getD j .zero)
theorem RoS.below {w w' : World} {v : Value} {L : List Ro} (h : RoS w v L) (hb : Below w.heap.size w w') : RoS w' v L := by
  obtain ⟨a, b, o, c, h1, h2, h3⟩ := h
  exact ⟨a, b, o, c, h1, h2, fun j hj => (h3 j hj).below hb⟩
theorem RoS.slice {w : World} {v : Value} {L : List Ro} (h : RoS w v L) : ∃ a c, v = .slice a L.length c := by
  obtain ⟨a, _, _, c, h1, _⟩ := h; exact ⟨a, c, h1⟩
/-- No nil slice with room. -/
def Nn (v : Value) : Prop := ∀ n c, v = .slice none n c → c = 0
/-- .. with its block. -/
def RoF (w : World) (v : Value) (L : List Ro) (bl : List Nat) : Prop := ∃ a b o c, v = .slice a L.length c ∧ (0 < L.length → a = some ⟨b, o, none⟩) ∧ bl = (if 0 < L.length then [b] else []) ∧ (∀ j, j < L.length * 5 → w.frozen? ⟨b, o + j, none⟩ = false) ∧ ∀ j, j < L.length → RoC w b (o + j * 5) (L.getD j .zero)
theorem RoF.rd {w : World} {v : Value} {L : List Ro} {bl : List Nat} (h : RoF w v L bl) : RoS w v L := by
  obtain ⟨a, b, o, c, h1, h2, _, _, h3⟩ := h
  exact ⟨a, b, o, c, h1, h2, h3⟩
theorem RoF.slice {w : World} {v : Value} {L : List Ro} {bl : List Nat} (h : RoF w v L bl) : ∃ a c, v = .slice a L.length c := by
  obtain ⟨a, _, _, c, h1, _⟩ := h; exact ⟨a, c, h1⟩
theorem RoF.lt {w : World} {v : Value} {L : List Ro} {bl : List Nat} (h : RoF w v L bl) : ∀ g ∈ bl, g < w.heap.size := by
  obtain ⟨a, b, o, c, h1, h2, rfl, _, h3⟩ := h
  intro g hg
  by_cases hz : 0 < L.length
  · rw [if_pos hz] at hg
    obtain rfl := List.mem_singleton.1 hg
    exact World.block_lt_of_cell? _ _ (h3 0 hz).cell
  · rw [if_neg hz] at hg; cases hg
theorem RoF.keep {w w' : World} {v : Value} {L : List Ro} {bl : List Nat} (h : RoF w v L bl) (hk : ∀ g ∈ bl, w'.heap[g]? = w.heap[g]?) : RoF w' v L bl := by
  obtain ⟨a, b, o, c, h1, h2, rfl, hf, h3⟩ := h
  have hb : 0 < L.length → w'.heap[b]? = w.heap[b]? := fun hz => hk b (by rw [if_pos hz]; exact List.mem_singleton.2 rfl)
  refine ⟨a, b, o, c, h1, h2, rfl, fun j hj => ?_, fun j hj => ?_⟩
  · exact (World.frozen?_of_block (w := w) (a := ⟨b, o + j, none⟩) (hb (by omega))).trans (hf j hj)
  · exact (h3 j hj).of_eq (fun j' => World.cell?_of_block (w := w) (a := ⟨b, j', none⟩) (hb (by omega)))
theorem RoF.below {w w' : World} {v : Value} {L : List Ro} {bl : List Nat} (h : RoF w v L bl) (hb : Below w.heap.size w w') : RoF w' v L bl := h.keep fun g hg => hb.block g (h.lt g hg)
/-- Its length is one that an int holds; its numbers are in their range. -/
structure RoL (L : List Ro) : Prop where
  len : (L.length : Int) ≤ 9223372036854775807
  cell : ∀ j, j < L.length → W64 (L.getD j .zero).cell
  target : ∀ j, j < L.length → W64 (L.getD j .zero).target
  moves : ∀ j, j < L.length → W64 (L.getD j .zero).moves
  waits : ∀ j, j < L.length → W64 (L.getD j .zero).waits
end Go.Proofs.YteicpjbeihabnaaDoor
