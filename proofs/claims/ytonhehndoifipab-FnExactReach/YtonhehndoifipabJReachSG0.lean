/-
  What a valid graph is.
-/
import Derived.Test.YtonhehndoifipabJReachGr0
namespace Go.Proofs.Ytonhehndoifipab
open Go.RowKit

/-- An edge may stand. -/
structure EdOk (g : Gr) (e : Nat) : Prop where
  to0 : 0 ≤ g.to.getD e 0
  to1 : g.to.getD e 0 < g.n
  dir0 : 0 ≤ g.dir.getD e 0
  dir1 : g.dir.getD e 0 ≤ 3
  cost0 : 1 ≤ g.cost.getD e 0
  cost1 : g.cost.getD e 0 ≤ 9
/-- A graph is valid. -/
structure GrOk (g : Gr) : Prop where
  n0 : 1 ≤ g.n
  n1 : g.n ≤ 1600
  len : (g.start.length : Int) = g.n + 1
  first : g.start.getD 0 0 = 0
  most : g.start.getD g.n.toNat 0 ≤ 6400
  tos : (g.to.length : Int) = g.start.getD g.n.toNat 0
  dirs : (g.dir.length : Int) = g.start.getD g.n.toNat 0
  costs : (g.cost.length : Int) = g.start.getD g.n.toNat 0
  grow : ∀ c, c < g.n.toNat → g.start.getD c 0 ≤ g.start.getD (c + 1) 0
  edges : ∀ e, e < g.to.length → EdOk g e
end Go.Proofs.Ytonhehndoifipab
