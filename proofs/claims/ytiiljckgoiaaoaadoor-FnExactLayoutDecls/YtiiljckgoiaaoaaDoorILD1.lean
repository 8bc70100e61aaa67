/-
  Plainly: which ways a cell bars.
-/
import Derived.Test.YtiiljckgoiaaoaaDoorILD0
import Derived.Test.YtiiljckgoiaaoaaDoorIL2
namespace Go.Proofs.YtiiljckgoiaaoaaDoor
open Go.RowKit Go.Shelf

def pvb (b0 b1 b2 b3 : Bool) : Int :=
  let a0 : Int := if b0 then bits .or .i64 0 1 else 0
  let a1 : Int := if b1 then bits .or .i64 a0 2 else a0
  let a2 : Int := if b2 then bits .or .i64 a1 4 else a1
  if b3 then bits .or .i64 a2 8 else a2
theorem accw_all (d : Ly) (c : Nat) : accw d c [0, 1, 2, 3] = pvb (okw d c 0) (okw d c 1) (okw d c 2) (okw d c 3) := rfl
theorem pvb_bits : ∀ (b0 b1 b2 b3 : Bool) (E : Fin 16),
    (bits .and .i64 (bits .andNot .i64 (pvb b0 b1 b2 b3) E.1) 1 != 0) = (b0 && !bitAt E.1 0) ∧
    (bits .and .i64 (bits .andNot .i64 (pvb b0 b1 b2 b3) E.1) 2 != 0) = (b1 && !bitAt E.1 1) ∧
    (bits .and .i64 (bits .andNot .i64 (pvb b0 b1 b2 b3) E.1) 4 != 0) = (b2 && !bitAt E.1 2) ∧
    (bits .and .i64 (bits .andNot .i64 (pvb b0 b1 b2 b3) E.1) 8 != 0) = (b3 && !bitAt E.1 3) ∧
    (bits .andNot .i64 (pvb b0 b1 b2 b3) E.1 = IntKind.i64.wrap (bits .andNot .i64 (pvb b0 b1 b2 b3) E.1)) := by decide +kernel
/-- A way that is barred. -/
def barw (d : Ly) (c k : Nat) : Bool := (d.cost.getD c 0 != 0) && (okw d c k && !bitAt (d.exits.getD c 0) k)
theorem bar_bits (d : Ly) (c : Nat) (h : ClOk d c) :
    (bits .and .i64 (bits .andNot .i64 (pex d c) (d.exits.getD c 0)) 1 != 0) = barw d c 0 ∧
    (bits .and .i64 (bits .andNot .i64 (pex d c) (d.exits.getD c 0)) 2 != 0) = barw d c 1 ∧
    (bits .and .i64 (bits .andNot .i64 (pex d c) (d.exits.getD c 0)) 4 != 0) = barw d c 2 ∧
    (bits .and .i64 (bits .andNot .i64 (pex d c) (d.exits.getD c 0)) 8 != 0) = barw d c 3 := by
  have he0 := h.e0
  have he1 := h.e1
  obtain ⟨e, he⟩ : ∃ e : Nat, d.exits.getD c 0 = e := ⟨(d.exits.getD c 0).toNat, by omega⟩
  unfold barw pex
  rw [he]
  by_cases h0 : d.cost.getD c 0 = 0
  · have hz := h.wall h0
    obtain rfl : e = 0 := by omega
    have f0 : ((0 : Int) != 0) = false := rfl
    rw [if_pos h0, h0]
    simp only [f0, Bool.false_and]
    exact ⟨by decide, by decide, by decide, by decide⟩
  · have t0 : (d.cost.getD c 0 != 0) = true := by rw [bne_iff_ne]; exact h0
    rw [if_neg h0, accw_all, t0]
    simp only [Bool.true_and]
    obtain ⟨h1, h2, h3, h4, _⟩ := pvb_bits (okw d c 0) (okw d c 1) (okw d c 2) (okw d c 3) ⟨e, by omega⟩
    exact ⟨h1, h2, h3, h4⟩
theorem barD_if (d : Ly) (c k : Nat) (hc : ∀ j, j < d.cost.length → 0 ≤ d.cost.getD j 0) (h0 : d.cost.getD c 0 ≠ 0) : barD d c k = if barw d c k then [{ dAt 12 d.w c with dir := k }] else [] := by
  unfold barD barw okw
  have t0 : (d.cost.getD c 0 != 0) = true := by rw [bne_iff_ne]; exact h0
  rw [t0, Bool.true_and]
  have hn : 0 ≤ d.cost.getD (toC d.w d.h c k).toNat 0 := by
    rcases Nat.lt_or_ge (toC d.w d.h c k).toNat d.cost.length with h | h
    · exact hc _ h
    · rw [List.getD_eq_getElem?_getD, List.getElem?_eq_none h]; exact Int.le_refl _
  by_cases h1 : 0 ≤ toC d.w d.h c k
  · by_cases h2 : d.cost.getD (toC d.w d.h c k).toNat 0 = 0
    · rw [if_neg (by rintro ⟨_, h, _⟩; omega), h2]
      simp
    · have h3 : (d.cost.getD (toC d.w d.h c k).toNat 0 != 0) = true := by rw [bne_iff_ne]; exact h2
      have h4 : 0 < d.cost.getD (toC d.w d.h c k).toNat 0 := by omega
      rw [h3, decide_eq_true h1]
      cases h5 : bitAt (d.exits.getD c 0) k
      · rw [if_pos ⟨h1, h4, rfl⟩]; rfl
      · rw [if_neg (by rintro ⟨_, _, h⟩; cases h)]; rfl
  · rw [if_neg (by rintro ⟨h, _⟩; exact h1 h), decide_eq_false h1]
    simp
/-- The bars of some ways. -/
def barsL (d : Ly) (c : Nat) (l : List (Fin 4)) : List Dc := l.map fun x => { dAt 12 d.w c with dir := (x.1 : Int) }
theorem barsL_snoc (d : Ly) (c : Nat) (l : List (Fin 4)) (x : Fin 4) : barsL d c (l ++ [x]) = barsL d c l ++ [{ dAt 12 d.w c with dir := (x.1 : Int) }] := by unfold barsL; rw [List.map_append]; rfl
theorem bars_all (d : Ly) (c : Nat) (hc : ∀ j, j < d.cost.length → 0 ≤ d.cost.getD j 0) (h0 : d.cost.getD c 0 ≠ 0) : barsTo d c 4 = barsL d c (wyr (barw d c) 0) := by
  simp only [barsTo, barD_if d c _ hc h0, barsL]
  have hw : wyr (barw d c) 0 = (if barw d c 0 then [0] else []) ++ ((if barw d c 1 then [1] else []) ++ ((if barw d c 2 then [2] else []) ++ ((if barw d c 3 then [3] else []) ++ []))) := rfl
  rw [hw]
  cases barw d c 0 <;> cases barw d c 1 <;> cases barw d c 2 <;> cases barw d c 3 <;> rfl
theorem bars_wall (d : Ly) (c : Nat) (h0 : d.cost.getD c 0 = 0) : wyr (barw d c) 0 = [] := by
  have : barw d c = fun _ => false := by funext k; unfold barw; rw [h0]; rfl
  rw [this]; rfl
end Go.Proofs.YtiiljckgoiaaoaaDoor
