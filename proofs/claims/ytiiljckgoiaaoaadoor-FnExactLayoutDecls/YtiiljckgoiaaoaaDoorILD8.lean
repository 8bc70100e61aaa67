/-
  The declarations of a layout are few, their names short.
-/
import Derived.Test.YtiiljckgoiaaoaaDoorSLD0
namespace Go.Proofs.YtiiljckgoiaaoaaDoor
open Go.RowKit

theorem tgsTo_name (d : Ly) (h : ∀ i, i < d.targets.length → (d.targets.getD i .zero).name.size ≤ 1048576) : ∀ i, i ≤ d.targets.length → ∀ x ∈ tgsTo d i, x.name.size ≤ 1048576
  | 0, _, x, hx => by rw [cellsTo_name d _ x hx]; decide
  | i + 1, hi, x, hx => by
    rcases List.mem_append.1 hx with h1 | h1
    · exact tgsTo_name d h i (by omega) x h1
    · rw [List.mem_singleton.1 h1]
      exact h i (by omega)
theorem layD_B (d : Ly) (hb : LyB d) : DcSB (layD d) := by
  unfold layD
  split
  · rename_i hok
    have h1 := hok.cl
    have h2 : d.w * d.h ≤ 40 * 40 := Int.mul_le_mul hok.w1 hok.h1 (by have := hok.h0; omega) (by decide)
    have h3 := hok.tg.len
    have h4 := tgsTo_le d d.targets.length
    refine ⟨by omega, fun j hj => ⟨?_⟩⟩
    have hm : (tgsTo d d.targets.length).getD j .zero ∈ tgsTo d d.targets.length := by
      rw [List.getD_eq_getElem?_getD, List.getElem?_eq_getElem hj]
      exact List.getElem_mem hj
    exact tgsTo_name d (fun i hi => (hb.targets.each i hi).name) _ (Nat.le_refl _) _ hm
  · exact ⟨Nat.zero_le _, fun j hj => absurd hj (Nat.not_lt_zero _)⟩
end Go.Proofs.YtiiljckgoiaaoaaDoor
