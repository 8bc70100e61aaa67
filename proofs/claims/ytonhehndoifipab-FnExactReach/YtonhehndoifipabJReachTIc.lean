/-
  toIntS with its block, and room for all that it holds.
-/
import Derived.Test.YtonhehndoifipabJReachTI
namespace Go.Proofs.Ytonhehndoifipab
open Go.RowKit

/-- A slice is no longer than its capacity. -/
def Cp : Value → Prop
  | .slice _ n c => n ≤ c
  | _ => False
theorem toI_fc {w : World} {v : Value} {s : List Int} (hs : s.length ≤ 1048576) (h : IS w v s) :
    Calls Try.prog 7 #[v] w fun e w' => ∃ v' bl, e = .returned v' ∧ IF w' v' s bl ∧ Fr w w' bl ∧ Below w.heap.size w w' ∧ Cp v' :=
  (toI_row v s w hs h).mono fun _ _ ⟨⟨c, he, hcp⟩, hlt, hf, hc, hb⟩ => ⟨_, _, he, ⟨_, w.heap.size, 0, c, rfl, fun _ => rfl, rfl, fun j hj => by rw [Nat.zero_add]; exact ⟨hc j hj, hf j⟩⟩, Fr.one (Nat.le_refl _) hlt _, hb, hcp⟩
end Go.Proofs.Ytonhehndoifipab
