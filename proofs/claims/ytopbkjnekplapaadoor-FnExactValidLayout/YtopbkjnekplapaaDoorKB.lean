/-
  Bytes: toByteS, szByteS in the words of all kinds.
-/
import Derived.Test.YtopbkjnekplapaaDoorIB
import Derived.Test.YtopbkjnekplapaaDoorSB0
namespace Go.Proofs.YtopbkjnekplapaaDoor
open Go.RowKit

theorem toB_cp {w : World} {v : Value} {s : ByteArray} (hs : s.size ≤ 1048576) (h : BS w v s) :
    Calls Tryd.prog 34 #[v] w fun e w' => ∃ v', e = .returned v' ∧ (∀ G, G < w.heap.size → BO w' G v' s) ∧ Below w.heap.size w w' :=
  (toB_bs hs h).mono fun e w' ⟨h1, h2, h3⟩ => ⟨_, h1, fun G hG => ⟨w.heap.size, hG, h2.lt, rfl, fun j hj => by rw [Nat.zero_add]; exact h2.cell j hj⟩, h3⟩
theorem szB_r {w : World} {v : Value} {s : ByteArray} {left : Int} (h0 : 0 ≤ left) (hl : left ≤ 1048576) (hn : (s.size : Int) ≤ 9223372036854775807) (h : BS w v s) :
    Calls Tryd.prog 32 #[v, .int .i64 left] w fun e w' => ∃ r, e = .returned (.int .i64 r) ∧ -1 ≤ r ∧ r ≤ left ∧ (0 ≤ r → s.size ≤ 1048576) ∧ Below w.heap.size w w' := by
  obtain ⟨a, _, _, c, rfl, _, _⟩ := h
  obtain ⟨k1, k2, k3⟩ := szl_le s.size left h0
  exact (szB_any a s.size c left w h0 hl hn).mono fun e w' ⟨h1, h2⟩ => ⟨_, h1, k1, k2, fun h => by have := k3 h; omega, by rw [h2]; exact Below.refl _ _⟩
end Go.Proofs.YtopbkjnekplapaaDoor
