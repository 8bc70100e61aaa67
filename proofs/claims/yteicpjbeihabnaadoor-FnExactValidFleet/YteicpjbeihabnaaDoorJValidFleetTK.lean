/-
  Plainly: valid tables.
-/
import Derived.Test.YteicpjbeihabnaaDoorJValidFleetSL4
import Derived.Test.YteicpjbeihabnaaDoorJValidFleetSLT
namespace Go.Proofs.YteicpjbeihabnaaDoor
open Go.RowKit

/-- Tables are valid. -/
structure TbOk (d : Tb) : Prop where
  w0 : 1 ≤ d.w
  w1 : d.w ≤ 40
  h0 : 1 ≤ d.h
  h1 : d.h ≤ 40
  tg : TgsOk (d.w * d.h) d.targets
  dl : d.dist.length = d.targets.length
  hl : d.hop.length = d.targets.length
  rows : ∀ i, i < d.targets.length → RowOk d.w d.h (d.targets.getD i .zero).cell (d.dist.getD i []) (d.hop.getD i [])
end Go.Proofs.YteicpjbeihabnaaDoor
