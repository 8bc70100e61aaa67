/-
  Plain facts on a range over a string: where it stands, what it leaves alone.
-/
import Derived.Below
import Derived.Lib.OthersKept
namespace Go.Proofs.YteicpjbeihabnaaDoor
open Go.RowKit

theorem iterPos_of {wn : World} {k : Nat} {s : ByteArray} {p : Nat} (h : wn.heap[k]? = some (.stringIter s p)) : wn.iterPos k = p := by simp [World.iterPos, h]
theorem below_iterAt {B : Nat} {a w : World} (h : Below B a w) {k : Nat} (hk : B ≤ k) (s : ByteArray) (p : Nat) : Below B a (w.iterAt k s p) :=
  h.trans ⟨rfl, rfl, rfl, by simp [World.iterAt], fun j hj => by simp only [World.iterAt]; rw [Array.getElem?_setIfInBounds_ne (by omega)]⟩
end Go.Proofs.YteicpjbeihabnaaDoor
