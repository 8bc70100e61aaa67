/-
  toByteS, eqByteS in short words.
-/
import Derived.Test.YteicpjbeihabnaaDoorJFindTargetB
import Derived.Test.YteicpjbeihabnaaDoorJFindTargetIN0
namespace Go.Proofs.YteicpjbeihabnaaDoor
open Go.RowKit

/-- A copy of bytes in a block of its own, none of it frozen. -/
structure BN (w : World) (g : Nat) (s : ByteArray) : Prop where
  lt : g < w.heap.size
  cell : ∀ j, j < s.size → w.cell? ⟨g, j, none⟩ = some (bts s j)
  frozen : ∀ j, w.frozen? ⟨g, j, none⟩ = false
theorem BN.bs {w : World} {g : Nat} {s : ByteArray} (h : BN w g s) (c : Nat) : BS w (.slice (some ⟨g, 0, none⟩) s.size c) s :=
  ⟨_, g, 0, c, rfl, fun _ => rfl, fun j hj => by rw [Nat.zero_add]; exact h.cell j hj⟩
theorem BN.below {w w' : World} {g : Nat} {s : ByteArray} (h : BN w g s) (hb : Below w.heap.size w w') : BN w' g s :=
  ⟨by have := hb.size; have := h.lt; omega, fun j hj => cell_kept (h.cell j hj) hb, fun j => by rw [hb.frozen (p := ⟨g, j, none⟩) h.lt]; exact h.frozen j⟩

theorem toB_bs {w : World} {v : Value} {s : ByteArray} (hs : s.size ≤ 1048576) (h : BS w v s) :
    Calls Tryd.prog 12 #[v] w fun e w' => e = .returned (.slice (some ⟨w.heap.size, 0, none⟩) s.size s.size) ∧ BN w' w.heap.size s ∧ Below w.heap.size w w' := by
  obtain ⟨a, b, o, c, rfl, ha, hc⟩ := h
  exact (toB_any a b o c s w hs ha hc).mono fun e w' ⟨h1, h2, h3, _⟩ => ⟨h1, ⟨h2.lt, fun j hj => h2.cell hj, h2.frozen⟩, h3⟩

theorem eqB_bs {w : World} {v1 v2 : Value} {s t : ByteArray} (hs : s.size ≤ 1048576) (ht : t.size ≤ 1048576) (h1 : BS w v1 s) (h2 : BS w v2 t) :
    Calls Tryd.prog 15 #[v1, v2] w fun e w' => e = .returned (.bool (decide (s = t))) ∧ Below w.heap.size w w' := by
  obtain ⟨a1, b1, o1, c1, rfl, ha1, hc1⟩ := h1
  obtain ⟨a2, b2, o2, c2, rfl, ha2, hc2⟩ := h2
  exact (eqB_any a1 a2 b1 o1 c1 b2 o2 c2 s t w hs ht ha1 ha2 hc1 hc2).mono fun _ _ ⟨h1, n, h2⟩ => ⟨h1, by rw [h2]; exact below_drewN (Below.refl _ _) n⟩
theorem eqB_self {w : World} {v1 v2 : Value} {s : ByteArray} (hs : s.size ≤ 1048576) (h1 : BS w v1 s) (h2 : BS w v2 s) :
    Calls Tryd.prog 15 #[v1, v2] w fun e w' => e = .returned (.bool true) ∧ Below w.heap.size w w' := by
  have H := eqB_bs hs hs h1 h2
  rw [decide_eq_true (rfl : s = s)] at H
  exact H
end Go.Proofs.YteicpjbeihabnaaDoor
