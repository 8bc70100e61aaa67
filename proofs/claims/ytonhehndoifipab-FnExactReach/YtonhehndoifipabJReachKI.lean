/-
  Numbers: toIntS, szIntS in the words of all kinds.
-/
import Derived.Test.YtonhehndoifipabJReachIN1
import Derived.Test.YtonhehndoifipabJReachIN2
import Derived.Test.YtonhehndoifipabJReachIN3
namespace Go.Proofs.Ytonhehndoifipab
open Go.RowKit

theorem toI_cp {w : World} {v : Value} {l : List Int} (hs : l.length ≤ 1048576) (h : IS w v l) :
    Calls Try.prog 7 #[v] w fun e w' => ∃ v', e = .returned v' ∧ (∀ G, G < w.heap.size → ICp w' G v' l) ∧ Below w.heap.size w w' := toI_any v l w hs h
theorem szI_r {w : World} {v : Value} {l : List Int} {left : Int} (h0 : 0 ≤ left) (hl : left ≤ 1048576) (hn : (l.length : Int) ≤ 9223372036854775807) (h : IS w v l) :
    Calls Try.prog 16 #[v, .int .i64 left] w fun e w' => ∃ r, e = .returned (.int .i64 r) ∧ -1 ≤ r ∧ r ≤ left ∧ (0 ≤ r → l.length ≤ 1048576) ∧ Below w.heap.size w w' := by
  obtain ⟨a, _, _, c, rfl, _, _⟩ := h
  obtain ⟨k1, k2, k3⟩ := szl_le l.length left h0
  exact (szI_any a l.length c left w h0 hl hn).mono fun e w' ⟨h1, h2⟩ => ⟨_, h1, k1, k2, fun h => by have := k3 h; omega, by rw [h2]; exact Below.refl _ _⟩
theorem szI_l {w : World} {v : Value} {l : List Int} {left : Int} (h0 : 0 ≤ left) (hl : left ≤ 1048576) (hn : IL l) (h : IS w v l) :
    Calls Try.prog 16 #[v, .int .i64 left] w fun e w' => ∃ r, e = .returned (.int .i64 r) ∧ -1 ≤ r ∧ r ≤ left ∧ (0 ≤ r → l.length ≤ 1048576) ∧ Below w.heap.size w w' := szI_r h0 hl hn.len h
end Go.Proofs.Ytonhehndoifipab
