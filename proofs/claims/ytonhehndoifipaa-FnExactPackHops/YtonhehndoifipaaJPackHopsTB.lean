/-
  toByteS with its block.
-/
import Derived.Test.YtonhehndoifipaaJPackHopsIB
import Derived.Test.YtonhehndoifipaaJPackHopsFL
namespace Go.Proofs.Ytonhehndoifipaa
open Go.RowKit

theorem toB_f {w : World} {v : Value} {s : ByteArray} (hs : s.size ≤ 1048576) (h : BS w v s) :
    Calls Try.prog 10 #[v] w fun e w' => ∃ v' bl, e = .returned v' ∧ BF w' v' s bl ∧ Fr w w' bl ∧ Below w.heap.size w w' :=
  (toB_bs hs h).mono fun _ _ ⟨h1, h2, h3⟩ => ⟨_, _, h1, ⟨_, w.heap.size, 0, _, rfl, fun _ => rfl, rfl, fun j hj => by rw [Nat.zero_add]; exact ⟨h2.cell j hj, h2.frozen j⟩⟩, Fr.one (Nat.le_refl _) h2.lt _, h3⟩
end Go.Proofs.Ytonhehndoifipaa
