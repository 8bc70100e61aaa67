/-
  Goals that are alike, closed once.
-/
import Derived.Test.YteicpjbeihabnaaDoorJRunFleetB0
namespace Go.Proofs.YteicpjbeihabnaaDoor
open Go.RowKit

theorem key_rest {T G : Prop} (rest : Hid T → G) (key : T) : G := rest (hide key)
end Go.Proofs.YteicpjbeihabnaaDoor
