/-
  Plainly: the next cell of a walk.
-/
import Derived.Test.YteicpjbeihabnaaDoorJValidFleetTK
namespace Go.Proofs.YteicpjbeihabnaaDoor
open Go.RowKit

/-- A target and a cell. -/
def AskIn (d : Tb) (tg ce : Int) : Prop := 0 ≤ tg ∧ tg < d.targets.length ∧ 0 ≤ ce ∧ ce < d.w * d.h
/-- What may be asked. -/
def NxIn (d : Tb) (tg ce : Int) : Prop := TbOk d ∧ 0 ≤ tg ∧ tg < d.targets.length ∧ 0 ≤ ce ∧ ce < d.w * d.h
/-- The next cell, and its code. -/
def nxA (d : Tb) (i c : Nat) : Int :=
  if (c : Int) = (d.targets.getD i .zero).cell then c
  else if (d.dist.getD i []).getD c 0 < 0 then c
  else toC d.w d.h c ((d.hop.getD i []).getD c 0).toNat
def nxB (d : Tb) (i c : Nat) : Int :=
  if (c : Int) = (d.targets.getD i .zero).cell then 11
  else if (d.dist.getD i []).getD c 0 < 0 then 10
  else 0
/-- What Next answers. -/
structure NxAns (d : Tb) (tg ce a b : Int) : Prop where
  bad : ¬ NxIn d tg ce → a = 0 ∧ b = 1
  good : NxIn d tg ce → a = nxA d tg.toNat ce.toNat ∧ b = nxB d tg.toNat ce.toNat
theorem NxAns.one {d : Tb} {tg ce a b a' b' : Int} (h : NxAns d tg ce a b) (h' : NxAns d tg ce a' b') : a = a' ∧ b = b' := by
  by_cases q : NxIn d tg ce
  · have h1 := h.good q
    have h2 := h'.good q
    exact ⟨h1.1.trans h2.1.symm, h1.2.trans h2.2.symm⟩
  · have h1 := h.bad q
    have h2 := h'.bad q
    exact ⟨h1.1.trans h2.1.symm, h1.2.trans h2.2.symm⟩
/-- A call that answers so. -/
def NxRes (d : Tb) (tg ce : Int) (e : Ending) : Prop := ∃ a b : Int, e = .returned (.tuple #[.int .i64 a, .int .i64 b]) ∧ NxAns d tg ce a b
theorem NxRes.no {d : Tb} {tg ce : Int} (h : ¬ NxIn d tg ce) : NxRes d tg ce (.returned (.tuple #[.int .i64 0, .int .i64 1])) :=
  ⟨0, 1, rfl, fun _ => ⟨rfl, rfl⟩, fun q => absurd q h⟩
theorem NxRes.yes {d : Tb} {i c : Nat} (h : NxIn d i c) : NxRes d i c (.returned (.tuple #[.int .i64 (nxA d i c), .int .i64 (nxB d i c)])) :=
  ⟨_, _, rfl, fun q => absurd h q, fun _ => ⟨rfl, rfl⟩⟩
/-- In valid tables a cell with a way has its step. -/
theorem TbOk.step {d : Tb} (h : TbOk d) {i c : Nat} (hi : i < d.targets.length) (hc : (c : Int) < d.w * d.h) (h1 : ¬ (c : Int) = (d.targets.getD i .zero).cell) (h2 : ¬ (d.dist.getD i []).getD c 0 < 0) :
    0 ≤ (d.hop.getD i []).getD c 0 ∧ (d.hop.getD i []).getD c 0 ≤ 3 ∧ 0 ≤ toC d.w d.h c ((d.hop.getD i []).getD c 0).toNat ∧
    0 ≤ (d.dist.getD i []).getD (toC d.w d.h c ((d.hop.getD i []).getD c 0).toNat).toNat 0 ∧ (d.dist.getD i []).getD (toC d.w d.h c ((d.hop.getD i []).getD c 0).toNat).toNat 0 < (d.dist.getD i []).getD c 0 := by
  have h3 := (h.rows i hi).each c hc
  unfold StepOk at h3
  rw [if_neg h1, if_neg (by omega)] at h3
  exact ⟨h3.2.2.1, h3.2.2.2.1, h3.2.2.2.2.1, h3.2.2.2.2.2.1, h3.2.2.2.2.2.2⟩
end Go.Proofs.YteicpjbeihabnaaDoor
