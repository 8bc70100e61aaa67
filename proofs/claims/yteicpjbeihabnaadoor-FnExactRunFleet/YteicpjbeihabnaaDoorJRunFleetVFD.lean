/-
  Plainly: a valid fleet.
  Plainly: a walk by tables.
-/
import Derived.Test.YteicpjbeihabnaaDoorJRunFleetTK
import Derived.Test.YteicpjbeihabnaaDoorJRunFleetTbMK
namespace Go.Proofs.YteicpjbeihabnaaDoor
open Go.RowKit

/-- A robot may stand. -/
structure RoOk (d : Tb) (r : Ro) : Prop where
  ask : AskIn d r.target r.cell
  m0 : 0 ≤ r.moves
  m1 : r.moves ≤ 1000000
  w0 : 0 ≤ r.waits
  w1 : r.waits ≤ 1000000
/-- A fleet is valid. -/
structure VfOk (d : Tb) (L : List Ro) : Prop where
  tb : TbOk d
  len : L.length ≤ 30
  each : ∀ i, i < L.length → RoOk d (L.getD i .zero)
  diff : ∀ i k, k < i → i < L.length → (L.getD i .zero).done = false → (L.getD k .zero).done = false → (L.getD k .zero).cell ≠ (L.getD i .zero).cell
end Go.Proofs.YteicpjbeihabnaaDoor

namespace Go.Proofs.YteicpjbeihabnaaDoor
open Go.RowKit

/-- The cells of a walk from c on, and how it ends. -/
def wkP (d : Tb) (i : Nat) : Nat → Nat → List Int × Int
  | 0, c => ([(c : Int)], if nxB d i c = 11 then 0 else 10)
  | k + 1, c => if nxB d i c = 0 then ((c : Int) :: (wkP d i k (nxA d i c).toNat).1, (wkP d i k (nxA d i c).toNat).2) else ([(c : Int)], if nxB d i c = 11 then 0 else 10)
theorem wkP_len (d : Tb) (i : Nat) : ∀ k c, (wkP d i k c).1.length ≤ k + 1
  | 0, c => by unfold wkP; exact Nat.le_refl _
  | k + 1, c => by
    unfold wkP
    split
    · have := wkP_len d i k (nxA d i c).toNat
      simp only [List.length_cons]
      omega
    · simp
theorem nxB_cases (d : Tb) (i c : Nat) : (nxB d i c = 11 ∧ nxA d i c = c) ∨ (nxB d i c = 10 ∧ nxA d i c = c) ∨ (nxB d i c = 0 ∧ ¬ (c : Int) = (d.targets.getD i .zero).cell ∧ ¬ (d.dist.getD i []).getD c 0 < 0 ∧ nxA d i c = toC d.w d.h c ((d.hop.getD i []).getD c 0).toNat) := by
  unfold nxB nxA
  by_cases h1 : (c : Int) = (d.targets.getD i .zero).cell
  · rw [if_pos h1, if_pos h1]; exact .inl ⟨rfl, rfl⟩
  · by_cases h2 : (d.dist.getD i []).getD c 0 < 0
    · rw [if_neg h1, if_pos h2, if_neg h1, if_pos h2]; exact .inr (.inl ⟨rfl, rfl⟩)
    · rw [if_neg h1, if_neg h2, if_neg h1, if_neg h2]; exact .inr (.inr ⟨rfl, h1, h2, rfl⟩)
/-- A step leads to a cell, nearer. -/
theorem TbOk.next {d : Tb} (h : TbOk d) {i c : Nat} (hi : i < d.targets.length) (hc : (c : Int) < d.w * d.h) (h0 : nxB d i c = 0) :
    0 ≤ nxA d i c ∧ nxA d i c < d.w * d.h ∧ 0 ≤ (d.dist.getD i []).getD (nxA d i c).toNat 0 ∧ (d.dist.getD i []).getD (nxA d i c).toNat 0 < (d.dist.getD i []).getD c 0 := by
  rcases nxB_cases d i c with ⟨e, _⟩ | ⟨e, _⟩ | ⟨_, h1, h2, e⟩
  · omega
  · omega
  · obtain ⟨s0, s1, s2, s3, s4⟩ := h.step hi hc h1 h2
    rw [e]
    exact ⟨s2, toC_lt h.w0 (by omega) hc _, s3, s4⟩
theorem wkP_more {d : Tb} (h : TbOk d) {i : Nat} (hi : i < d.targets.length) : ∀ k c : Nat, (c : Int) < d.w * d.h → ((d.dist.getD i []).getD c 0).toNat ≤ k → wkP d i (k + 1) c = wkP d i k c
  | 0, c, hc, hk => by
    have hn : ¬ nxB d i c = 0 := fun e => by
      have := h.next hi hc e
      omega
    show (if nxB d i c = 0 then _ else _) = _
    rw [if_neg hn]
    rfl
  | k + 1, c, hc, hk => by
    by_cases e : nxB d i c = 0
    · have hx := h.next hi hc e
      have ih := wkP_more h hi k (nxA d i c).toNat (by omega) (by omega)
      show (if nxB d i c = 0 then _ else _) = (if nxB d i c = 0 then _ else _)
      rw [if_pos e, if_pos e, ih]
    · show (if nxB d i c = 0 then _ else _) = (if nxB d i c = 0 then _ else _)
      rw [if_neg e, if_neg e]
/-- A whole walk. -/
def wk (d : Tb) (i c : Nat) : List Int × Int := wkP d i 65535 c
theorem wk_len (d : Tb) (i c : Nat) : (wk d i c).1.length ≤ 65536 := wkP_len d i 65535 c
theorem wk_stop {d : Tb} {i c : Nat} (h : ¬ nxB d i c = 0) : wk d i c = ([(c : Int)], if nxB d i c = 11 then 0 else 10) := by
  unfold wk
  show (if nxB d i c = 0 then _ else _) = _
  rw [if_neg h]
theorem TbOk.le {d : Tb} (h : TbOk d) {i c : Nat} (hi : i < d.targets.length) (hc : (c : Int) < d.w * d.h) : (d.dist.getD i []).getD c 0 ≤ 65534 := by
  have h3 := (h.rows i hi).each c hc
  unfold StepOk at h3
  split at h3
  · rw [h3.1]; decide
  · split at h3
    · omega
    · exact h3.2.1
theorem wk_step {d : Tb} (h : TbOk d) {i c : Nat} (hi : i < d.targets.length) (hc : (c : Int) < d.w * d.h) (h0 : nxB d i c = 0) : wk d i c = ((c : Int) :: (wk d i (nxA d i c).toNat).1, (wk d i (nxA d i c).toNat).2) := by
  have hx := h.next hi hc h0
  have hl := h.le hi hc
  have e := wkP_more h hi 65534 (nxA d i c).toNat (by omega) (by omega)
  show wkP d i (65534 + 1) c = ((c : Int) :: (wkP d i (65534 + 1) (nxA d i c).toNat).1, (wkP d i (65534 + 1) (nxA d i c).toNat).2)
  rw [e]
  show (if nxB d i c = 0 then _ else _) = _
  rw [if_pos h0]
open Classical in
/-- What Walk answers. -/
noncomputable def wkF (tg ce : Int) (d : Tb) : List Int := if NxIn d tg ce then (wk d tg.toNat ce.toNat).1 else []
open Classical in
noncomputable def wkC (tg ce : Int) (d : Tb) : Int := if NxIn d tg ce then (wk d tg.toNat ce.toNat).2 else 1
theorem wkF_no {d : Tb} {tg ce : Int} (h : ¬ NxIn d tg ce) : wkF tg ce d = [] := if_neg h
theorem wkC_no {d : Tb} {tg ce : Int} (h : ¬ NxIn d tg ce) : wkC tg ce d = 1 := if_neg h
theorem wkF_yes {d : Tb} {i c : Nat} (h : NxIn d i c) : wkF i c d = (wk d i c).1 := if_pos h
theorem wkC_yes {d : Tb} {i c : Nat} (h : NxIn d i c) : wkC i c d = (wk d i c).2 := if_pos h
theorem wkF_len (tg ce : Int) (d : Tb) : (wkF tg ce d).length ≤ 1048576 := by
  by_cases h : NxIn d tg ce
  · have e : wkF tg ce d = (wk d tg.toNat ce.toNat).1 := if_pos h
    rw [e]
    have := wk_len d tg.toNat ce.toNat
    omega
  · rw [wkF_no h]; exact Nat.zero_le _
end Go.Proofs.YteicpjbeihabnaaDoor
