/-
  Plainly: the graph turned round.
-/
import Derived.Test.YtohilccbfdienaaJCoGOP
namespace Go.Proofs.Ytohilccbfdienaa
open Go.RowKit

/-- Its edges turned. -/
def rvS (g : Gr) : List Ed := (eds g).map Ed.turn
theorem eds_length (g : Gr) : (eds g).length = g.to.length := edsTo_length _ _
theorem rvS_length (g : Gr) : (rvS g).length = g.to.length := by unfold rvS; rw [List.length_map, eds_length]
open Classical in
/-- What Reverse answers. -/
noncomputable def rvF (g : Gr) : Gr := if GrOk g then grOf g.n.toNat (rvS g) else ⟨0, [], [], [], []⟩
open Classical in
noncomputable def rvC (g : Gr) : Int := if GrOk g then 0 else 1
theorem rvF_yes {g : Gr} (h : GrOk g) : rvF g = grOf g.n.toNat (rvS g) := by unfold rvF; rw [if_pos h]
theorem rvF_no {g : Gr} (h : ¬ GrOk g) : rvF g = ⟨0, [], [], [], []⟩ := by unfold rvF; rw [if_neg h]
theorem rvC_yes {g : Gr} (h : GrOk g) : rvC g = 0 := by unfold rvC; rw [if_pos h]
theorem rvC_no {g : Gr} (h : ¬ GrOk g) : rvC g = 1 := by unfold rvC; rw [if_neg h]
theorem srcUp_le (g : Gr) (e : Nat) : ∀ n, srcUp g e n ≤ n
  | 0 => Nat.le_refl _
  | n + 1 => by
    unfold srcUp
    split
    · exact Nat.le_refl _
    · have := srcUp_le g e n; omega
theorem GrOk.m {g : Gr} (h : GrOk g) : g.to.length ≤ 6400 := by have h1 := h.most; have h2 := h.tos; omega
theorem rvS_in {g : Gr} (h : GrOk g) : ∀ e ∈ rvS g, 0 ≤ e.f ∧ e.f < (g.n.toNat : Int) := by
  intro e he
  obtain ⟨x, hx, rfl⟩ := List.mem_map.1 he
  obtain ⟨k, hk, rfl⟩ := List.mem_map.1 hx
  have h1 := h.edges k (List.mem_range.1 hk)
  have h2 := h.n0
  show 0 ≤ g.to.getD k 0 ∧ g.to.getD k 0 < _
  have := h1.to0
  have := h1.to1
  omega
theorem grOf_b {n : Nat} {S : List Ed} (hn : n ≤ 1600) (hS : S.length ≤ 6400) : GrB (grOf n S) := by
  have h := (stA_le S n).2
  unfold stA at h
  refine ⟨?_, ?_, ?_, ?_⟩ <;> (unfold grOf; simp; omega)
theorem rvF_b (g : Gr) : GrB (rvF g) := by
  by_cases h : GrOk g
  · rw [rvF_yes h]
    have h1 := h.n1
    exact grOf_b (by omega) (by rw [rvS_length]; exact h.m)
  · rw [rvF_no h]
    exact ⟨by simp, by simp, by simp, by simp⟩
end Go.Proofs.Ytohilccbfdienaa
