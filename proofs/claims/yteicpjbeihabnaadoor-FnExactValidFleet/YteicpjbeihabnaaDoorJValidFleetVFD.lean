/-
  Plainly: a valid fleet.
-/
import Derived.Test.YteicpjbeihabnaaDoorJValidFleetNX
import Derived.Test.YteicpjbeihabnaaDoorJValidFleetRO0
namespace Go.Proofs.YteicpjbeihabnaaDoor
open Go.RowKit

/-- A robot may stand. -/
structure RoOk (d : Tb) (r : Ro) : Prop where
  ask : AskIn d r.target r.cell
  m0 : 0 ≤ r.moves
  m1 : r.moves ≤ 1000000
  w0 : 0 ≤ r.waits
  w1 : r.waits ≤ 1000000
/-- A fleet is valid. -/
structure VfOk (d : Tb) (L : List Ro) : Prop where
  tb : TbOk d
  len : L.length ≤ 30
  each : ∀ i, i < L.length → RoOk d (L.getD i .zero)
  diff : ∀ i k, k < i → i < L.length → (L.getD i .zero).done = false → (L.getD k .zero).done = false → (L.getD k .zero).cell ≠ (L.getD i .zero).cell
end Go.Proofs.YteicpjbeihabnaaDoor
