/-
  Lists of Target in memory.
-/
import Derived.Test.YtpnocklldlacjaaDoorJNearestIIS0
namespace Go.Proofs.YtpnocklldlacjaaDoor
open Go.RowKit

/-- The cells of one. -/
structure TgC (w : World) (b p : Nat) (d : Tg) (v0 : Value) : Prop where
  name : w.cell? ⟨b, p, none⟩ = some v0
  kind : w.cell? ⟨b, p + 1, none⟩ = some (.int .i64 d.kind)
  cell : w.cell? ⟨b, p + 2, none⟩ = some (.int .i64 d.cell)
theorem TgC.below {w w' : World} {b p : Nat} {d : Tg} {v0 : Value} (h : TgC w b p d v0) (hb : Below w.heap.size w w') : TgC w' b p d v0 := ⟨cell_kept h.name hb, cell_kept h.kind hb, cell_kept h.cell hb⟩
theorem TgC.set {w : World} {b p g k : Nat} {d : Tg} {v0 u : Value} (h : TgC w b p d v0) (hb : b ≠ g) : TgC (w.setCell ⟨g, k, none⟩ u) b p d v0 := ⟨by rw [setCell_cell hb]; exact h.name, by rw [setCell_cell hb]; exact h.kind, by rw [setCell_cell hb]; exact h.cell⟩
/-- A slice of them reads as L. -/
def TgS (w : World) (v : Value) (L : List Tg) : Prop := ∃ a b o c, v = .slice a L.length c ∧ (0 < L.length → a = some ⟨b, o, none⟩) ∧ ∀ j, j < L.length → ∃ v0, TgC w b (o + j * 3) (L.getD j .zero) v0 ∧ TgV w (L.getD j .zero) v0
theorem TgS.below {w w' : World} {v : Value} {L : List Tg} (h : TgS w v L) (hb : Below w.heap.size w w') : TgS w' v L := by
  obtain ⟨a, b, o, c, h1, h2, h3⟩ := h
  refine ⟨a, b, o, c, h1, h2, fun j hj => ?_⟩
  obtain ⟨v0, h4, h5⟩ := h3 j hj
  exact ⟨v0, h4.below hb, h5.below hb⟩
theorem TgS.slice {w : World} {v : Value} {L : List Tg} (h : TgS w v L) : ∃ a c, v = .slice a L.length c := by
  obtain ⟨a, _, _, c, h1, _⟩ := h; exact ⟨a, c, h1⟩
/-- A copy of a slice of them, in blocks behind G. -/
def TgSO (w : World) (G : Nat) (v : Value) (L : List Tg) : Prop := ∃ b c, G < b ∧ b < w.heap.size ∧ v = .slice (some ⟨b, 0, none⟩) L.length c ∧ Fz w b ∧ ∀ j, j < L.length → ∃ v0, TgC w b (j * 3) (L.getD j .zero) v0 ∧ TgO w b (L.getD j .zero) v0
theorem TgSO.slice {w : World} {G : Nat} {v : Value} {L : List Tg} (h : TgSO w G v L) : ∃ g c, v = .slice (some ⟨g, 0, none⟩) L.length c := by
  obtain ⟨b, c, _, _, h1, _⟩ := h; exact ⟨b, c, h1⟩
theorem TgSO.rd {w : World} {G : Nat} {v : Value} {L : List Tg} (h : TgSO w G v L) : TgS w v L := by
  obtain ⟨b, c, _, _, h1, _, h2⟩ := h
  refine ⟨_, b, 0, c, h1, fun _ => rfl, fun j hj => ?_⟩
  obtain ⟨v0, h3, h4⟩ := h2 j hj
  exact ⟨v0, by rw [Nat.zero_add]; exact h3, h4.rd⟩
theorem TgSO.below {w w' : World} {G : Nat} {v : Value} {L : List Tg} (h : TgSO w G v L) (hb : Below w.heap.size w w') : TgSO w' G v L := by
  obtain ⟨b, c, h0, h4, h1, hf, h2⟩ := h
  refine ⟨b, c, h0, by have := hb.size; omega, h1, hf.below h4 hb, fun j hj => ?_⟩
  obtain ⟨v0, h3, h5⟩ := h2 j hj
  exact ⟨v0, h3.below hb, h5.below hb⟩
theorem TgSO.lower {w : World} {G G' : Nat} {v : Value} {L : List Tg} (h : TgSO w G v L) (hG : G' ≤ G) : TgSO w G' v L := by
  obtain ⟨b, c, h0, h4, h1, hf, h2⟩ := h
  refine ⟨b, c, by omega, h4, h1, hf, fun j hj => ?_⟩
  obtain ⟨v0, h3, h5⟩ := h2 j hj
  exact ⟨v0, h3, h5⟩
theorem TgSO.setAt {w : World} {G G' k : Nat} {v u : Value} {L : List Tg} (h : TgSO w G v L) (hG : G' ≤ G) : TgSO (w.setCell ⟨G', k, none⟩ u) G v L := by
  obtain ⟨b, c, h0, h4, h1, hf, h2⟩ := h
  refine ⟨b, c, h0, by simpa using h4, h1, hf.set, fun j hj => ?_⟩
  obtain ⟨v0, h3, h5⟩ := h2 j hj
  exact ⟨v0, h3.set (by omega), h5.setAt (by omega)⟩
/-- A short list of short ones. -/
structure TgSB (L : List Tg) : Prop where
  len : L.length ≤ 1048576
  each : ∀ j, j < L.length → TgB (L.getD j .zero)
structure TgSL (L : List Tg) : Prop where
  len : (L.length : Int) ≤ 9223372036854775807
  each : ∀ j, j < L.length → TgL (L.getD j .zero)
end Go.Proofs.YtpnocklldlacjaaDoor
