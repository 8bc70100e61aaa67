/-
  Bytes in blocks, and slices that own them: what the laws' walks carry along.
-/
import Derived.Test.YtfldjcmobpcpoaaDoorJUnquoteTextB
import Derived.Test.YtfldjcmobpcpoaaDoorJUnquoteTextH
import Derived.Test.YtfldjcmobpcpoaaDoorJUnquoteTextAP
namespace Go.Proofs.YtfldjcmobpcpoaaDoor
open Go.RowKit

/-- Bytes that lie at the head of a block. -/
def CellsAt (w : World) (g : Nat) (l : List Nat) : Prop := ∀ j, j < l.length → w.cell? ⟨g, j, none⟩ = some (.int .u8 (l.getD j 0 : Nat))
theorem CellsAt.below {w w' : World} {g B : Nat} {l : List Nat} (h : CellsAt w g l) (hg : 0 < l.length → g < B) (hb : Below B w w') : CellsAt w' g l := fun j hj => by
  rw [hb.cell (p := ⟨g, j, none⟩) (hg (by omega))]; exact h j hj
theorem CellsAt.only {w w' : World} {g b : Nat} {l : List Nat} (h : CellsAt w g l) (hg : 0 < l.length → g ≠ b) (hb : Only b w w') : CellsAt w' g l := fun j hj => by
  rw [hb.cell (p := ⟨g, j, none⟩) (hg (by omega))]; exact h j hj
theorem CellsAt.drewN {w : World} {g : Nat} {l : List Nat} (h : CellsAt w g l) (n : Nat) : CellsAt (w.drewN n) g l := h

/-- A slice that owns some bytes, nil or not. -/
theorem own_view {w : World} {B : Nat} {v : Value} {l : List Nat} (h : w.ownsRow B 5 1 v l.length (cv l)) :
    ∃ a g c, v = .slice a l.length c ∧ (0 < l.length → a = some ⟨g, 0, none⟩) ∧ B ≤ g ∧ (0 < l.length → g < w.heap.size) ∧ CellsAt w g l ∧ ∀ j, j < l.length → w.frozen? ⟨g, j, none⟩ = false := by
  by_cases hl : 0 < l.length
  · obtain ⟨g, c, hv, hb, hlt, hc, hf⟩ := own_slice h hl
    exact ⟨some ⟨g, 0, none⟩, g, c, hv, fun _ => rfl, hb, fun _ => hlt, hc, fun j _ => hf j⟩
  · have h0 : l.length = 0 := by omega
    rcases h.2 with ⟨hv, _⟩ | ⟨g, c, cur, hv, hb, hg, _⟩
    · exact ⟨none, B, 0, by rw [h0]; exact hv, fun h => absurd h hl, Nat.le_refl _, fun h => absurd h hl, fun j hj => by omega, fun j hj => by omega⟩
    · exact ⟨some ⟨g, 0, none⟩, g, c, hv, fun _ => rfl, hb, fun h => absurd h hl, fun j hj => by omega, fun j hj => by omega⟩

theorem row_cells {w w' : World} {b n : Nat} {f : Nat → Value} (h : w.rowIs b 5 n f) (hb : Below w.heap.size w w') : ∀ j, j < n → w'.cell? ⟨b, 0 + j, none⟩ = some (f j) := fun j hj => by
  rw [hb.cell (p := ⟨b, 0 + j, none⟩) h.lt, Nat.zero_add]; exact h.cell hj
end Go.Proofs.YtfldjcmobpcpoaaDoor
