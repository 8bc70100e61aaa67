/-
  Tokens in memory.
-/
import Derived.Test.YtfldjcmobpcpoaaDoorJLexSL
namespace Go.Proofs.YtfldjcmobpcpoaaDoor
open Go.RowKit

/-- Tokens that lie at the head of a block. -/
def TCells (w : World) (g : Nat) (l : List (Nat × Nat × Nat)) : Prop := ∀ i, i < l.length → w.cell? ⟨g, i * 3, none⟩ = some (.int .i64 ((l.getD i (0, 0, 0)).1 : Nat)) ∧ w.cell? ⟨g, i * 3 + 1, none⟩ = some (.int .i64 ((l.getD i (0, 0, 0)).2.1 : Nat)) ∧ w.cell? ⟨g, i * 3 + 2, none⟩ = some (.int .i64 ((l.getD i (0, 0, 0)).2.2 : Nat))
theorem tcv_at : ∀ (l : List (Nat × Nat × Nat)) i, i < l.length → (tcv l)[i * 3]? = some (.int .i64 ((l.getD i (0, 0, 0)).1 : Nat)) ∧ (tcv l)[i * 3 + 1]? = some (.int .i64 ((l.getD i (0, 0, 0)).2.1 : Nat)) ∧ (tcv l)[i * 3 + 2]? = some (.int .i64 ((l.getD i (0, 0, 0)).2.2 : Nat))
  | [], i, h => absurd h (Nat.not_lt_zero _)
  | t :: r, 0, _ => ⟨rfl, rfl, rfl⟩
  | t :: r, i + 1, h => by
    have ih := tcv_at r i (by simpa using h)
    rw [show (i + 1) * 3 = i * 3 + 3 by omega]
    exact ih
end Go.Proofs.YtfldjcmobpcpoaaDoor
