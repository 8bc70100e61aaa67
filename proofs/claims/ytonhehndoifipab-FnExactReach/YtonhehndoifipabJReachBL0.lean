/-
  Slices of bools: what they read as; marks.
-/
import Derived.Test.YtonhehndoifipabJReachMK
namespace Go.Proofs.Ytonhehndoifipab
open Go.RowKit

/-- A slice of bools reads as l. -/
def VS (w : World) (v : Value) (l : List Bool) : Prop := ∃ a b o c, v = .slice a l.length c ∧ (0 < l.length → a = some ⟨b, o, none⟩) ∧ ∀ j, j < l.length → w.cell? ⟨b, o + j, none⟩ = some (.bool (l.getD j false))
theorem VS.below {w w' : World} {v : Value} {l : List Bool} (h : VS w v l) (hb : Below w.heap.size w w') : VS w' v l := by
  obtain ⟨a, b, o, c, h1, h2, h3⟩ := h
  exact ⟨a, b, o, c, h1, h2, fun j hj => cell_kept (h3 j hj) hb⟩
theorem VS.slice {w : World} {v : Value} {l : List Bool} (h : VS w v l) : ∃ a c, v = .slice a l.length c := by
  obtain ⟨a, b, o, c, h1, _⟩ := h; exact ⟨a, c, h1⟩
/-- The mark of a bool. -/
def mkV (k : Nat) : Value := .bool (decide (k % 3 = 0))
/-- A slice reads as s; its block. -/
def VF (w : World) (v : Value) (s : List Bool) (bl : List Nat) : Prop := ∃ a b o c, v = .slice a s.length c ∧ (0 < s.length → a = some ⟨b, o, none⟩) ∧ bl = (if 0 < s.length then [b] else []) ∧ ∀ j, j < s.length → w.cell? ⟨b, o + j, none⟩ = some (.bool (s.getD j false)) ∧ w.frozen? ⟨b, o + j, none⟩ = false
theorem VF.rd {w : World} {v : Value} {s : List Bool} {bl : List Nat} (h : VF w v s bl) : VS w v s := by
  obtain ⟨a, b, o, c, h1, h2, _, h3⟩ := h
  exact ⟨a, b, o, c, h1, h2, fun j hj => (h3 j hj).1⟩
theorem VF.lt {w : World} {v : Value} {s : List Bool} {bl : List Nat} (h : VF w v s bl) : ∀ g ∈ bl, g < w.heap.size := by
  obtain ⟨a, b, o, c, h1, h2, rfl, h3⟩ := h
  intro g hg
  by_cases hz : 0 < s.length
  · rw [if_pos hz] at hg
    obtain rfl := List.mem_singleton.1 hg
    exact World.block_lt_of_cell? _ _ (h3 0 hz).1
  · rw [if_neg hz] at hg; cases hg
theorem VF.keep {w w' : World} {v : Value} {s : List Bool} {bl : List Nat} (h : VF w v s bl) (hk : ∀ g ∈ bl, w'.heap[g]? = w.heap[g]?) : VF w' v s bl := by
  obtain ⟨a, b, o, c, h1, h2, rfl, h3⟩ := h
  refine ⟨a, b, o, c, h1, h2, rfl, fun j hj => ?_⟩
  have hz : 0 < s.length := by omega
  have hb := hk b (by rw [if_pos hz]; exact List.mem_singleton.2 rfl)
  exact ⟨(World.cell?_of_block (w := w) (a := ⟨b, o + j, none⟩) hb).trans (h3 j hj).1, (World.frozen?_of_block (w := w) (a := ⟨b, o + j, none⟩) hb).trans (h3 j hj).2⟩
theorem VF.below {w w' : World} {v : Value} {s : List Bool} {bl : List Nat} (h : VF w v s bl) (hb : Below w.heap.size w w') : VF w' v s bl := h.keep fun g hg => hb.block g (h.lt g hg)
theorem VF.slice {w : World} {v : Value} {s : List Bool} {bl : List Nat} (h : VF w v s bl) : ∃ a c, v = .slice a s.length c := by
  obtain ⟨a, b, o, c, h1, _⟩ := h; exact ⟨a, c, h1⟩
/-- A slice of n holds marks from k on; its block. -/
def VM (w : World) (v : Value) (n k : Nat) (bl : List Nat) : Prop := ∃ a b o c, v = .slice a n c ∧ (0 < n → a = some ⟨b, o, none⟩) ∧ bl = (if 0 < n then [b] else []) ∧ ∀ j, j < n → w.cell? ⟨b, o + j, none⟩ = some (mkV (k + j))
theorem VM.keep {w w' : World} {v : Value} {n k : Nat} {bl : List Nat} (h : VM w v n k bl) (hk : ∀ g ∈ bl, w'.heap[g]? = w.heap[g]?) : VM w' v n k bl := by
  obtain ⟨a, b, o, c, h1, h2, rfl, h3⟩ := h
  refine ⟨a, b, o, c, h1, h2, rfl, fun j hj => ?_⟩
  have hz : 0 < n := by omega
  have hb := hk b (by rw [if_pos hz]; exact List.mem_singleton.2 rfl)
  exact (World.cell?_of_block (w := w) (a := ⟨b, o + j, none⟩) hb).trans (h3 j hj)
theorem VM.lt {w : World} {v : Value} {n k : Nat} {bl : List Nat} (h : VM w v n k bl) : ∀ g ∈ bl, g < w.heap.size := by
  obtain ⟨a, b, o, c, h1, h2, rfl, h3⟩ := h
  intro g hg
  by_cases hz : 0 < n
  · rw [if_pos hz] at hg
    obtain rfl := List.mem_singleton.1 hg
    exact World.block_lt_of_cell? _ _ (h3 0 hz)
  · rw [if_neg hz] at hg; cases hg
theorem VM.below {w w' : World} {v : Value} {n k : Nat} {bl : List Nat} (h : VM w v n k bl) (hb : Below w.heap.size w w') : VM w' v n k bl := h.keep fun g hg => hb.block g (h.lt g hg)
theorem VM.slice {w : World} {v : Value} {n k : Nat} {bl : List Nat} (h : VM w v n k bl) : ∃ a c, v = .slice a n c := by
  obtain ⟨a, b, o, c, h1, _⟩ := h; exact ⟨a, c, h1⟩
end Go.Proofs.Ytonhehndoifipab
