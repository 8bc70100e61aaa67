/-
  Plainly: the graph turned round.
-/
import Derived.Test.YtochfhoaiekioaaJRtGOI
namespace Go.Proofs.Ytochfhoaiekioaa
open Go.RowKit

/-- Its edges turned. -/
def rvS (g : Gr) : List Ed := (eds g).map Ed.turn
theorem eds_length (g : Gr) : (eds g).length = g.to.length := edsTo_length _ _
theorem rvS_length (g : Gr) : (rvS g).length = g.to.length := by unfold rvS; rw [List.length_map, eds_length]
open Classical in
/-- What Reverse answers. -/
noncomputable def rvF (g : Gr) : Gr := if GrOk g then grOf g.n.toNat (rvS g) else ⟨0, [], [], [], []⟩
open Classical in
noncomputable def rvC (g : Gr) : Int := if GrOk g then 0 else 1
theorem rvF_yes {g : Gr} (h : GrOk g) : rvF g = grOf g.n.toNat (rvS g) := by unfold rvF; rw [if_pos h]
theorem rvF_no {g : Gr} (h : ¬ GrOk g) : rvF g = ⟨0, [], [], [], []⟩ := by unfold rvF; rw [if_neg h]
theorem rvC_yes {g : Gr} (h : GrOk g) : rvC g = 0 := by unfold rvC; rw [if_pos h]
theorem rvC_no {g : Gr} (h : ¬ GrOk g) : rvC g = 1 := by unfold rvC; rw [if_neg h]
theorem srcUp_le (g : Gr) (e : Nat) : ∀ n, srcUp g e n ≤ n
  | 0 => Nat.le_refl _
  | n + 1 => by
    unfold srcUp
    split
    · exact Nat.le_refl _
    · have := srcUp_le g e n; omega
theorem GrOk.m {g : Gr} (h : GrOk g) : g.to.length ≤ 6400 := by have h1 := h.most; have h2 := h.tos; omega
theorem rvS_in {g : Gr} (h : GrOk g) : ∀ e ∈ rvS g, 0 ≤ e.f ∧ e.f < (g.n.toNat : Int) := by
  intro e he
  obtain ⟨x, hx, rfl⟩ := List.mem_map.1 he
  obtain ⟨k, hk, rfl⟩ := List.mem_map.1 hx
  have h1 := h.edges k (List.mem_range.1 hk)
  have h2 := h.n0
  show 0 ≤ g.to.getD k 0 ∧ g.to.getD k 0 < _
  have := h1.to0
  have := h1.to1
  omega
theorem grOf_b {n : Nat} {S : List Ed} (hn : n ≤ 1600) (hS : S.length ≤ 6400) : GrB (grOf n S) := by
  have h := (stA_le S n).2
  unfold stA at h
  refine ⟨?_, ?_, ?_, ?_⟩ <;> (unfold grOf; simp; omega)
theorem rvF_b (g : Gr) : GrB (rvF g) := by
  by_cases h : GrOk g
  · rw [rvF_yes h]
    have h1 := h.n1
    exact grOf_b (by omega) (by rw [rvS_length]; exact h.m)
  · rw [rvF_no h]
    exact ⟨by simp, by simp, by simp, by simp⟩
/-- The first k edges are turned. -/
def trn (L : List Ed) (k : Nat) : List Ed := L.mapIdx fun j e => if j < k then e.turn else e
theorem trn_length (L : List Ed) (k : Nat) : (trn L k).length = L.length := by unfold trn; simp
theorem trn_zero (L : List Ed) : trn L 0 = L := by
  unfold trn
  apply List.ext_getElem?
  intro j
  rw [List.getElem?_mapIdx]
  simp
theorem trn_done (L : List Ed) : trn L L.length = L.map Ed.turn := by
  unfold trn
  apply List.ext_getElem?
  intro j
  rw [List.getElem?_mapIdx, List.getElem?_map]
  by_cases h : j < L.length
  · simp [h]
  · rw [List.getElem?_eq_none (by omega)]; rfl
theorem trn_at {L : List Ed} {k : Nat} (h : k < L.length) : (trn L k).getD k .nul = L.getD k .nul := by
  unfold trn
  rw [List.getD_eq_getElem?_getD, List.getElem?_mapIdx, List.getD_eq_getElem?_getD, List.getElem?_eq_getElem h]
  simp
theorem trn_set {L : List Ed} {k : Nat} (h : k < L.length) : (trn L k).set k (L.getD k .nul).turn = trn L (k + 1) := by
  apply List.ext_getElem?
  intro j
  by_cases e : j = k
  · subst e
    rw [List.getElem?_set_self (by rw [trn_length]; exact h)]
    unfold trn
    rw [List.getElem?_mapIdx, List.getD_eq_getElem?_getD, List.getElem?_eq_getElem h]
    simp
  · rw [List.getElem?_set_ne (fun q => e q.symm)]
    unfold trn
    rw [List.getElem?_mapIdx, List.getElem?_mapIdx]
    by_cases h1 : j < k
    · simp [h1, show j < k + 1 by omega]
    · simp [h1, show ¬ j < k + 1 by omega]
/-- An edge is turned where it lies. -/
theorem EdR.turn {W : World} {D i : Nat} {v : Value} {L : List Ed} (h : EdR W D v L) (hi : i < L.length) : EdR ((W.setCell ⟨D, i * 4, none⟩ (.int .i64 (L.getD i .nul).t)).setCell ⟨D, i * 4 + 1, none⟩ (.int .i64 (L.getD i .nul).f)) D v (L.set i (L.getD i .nul).turn) := by
  have hc := h.each i hi
  refine ⟨?_, fun _ => ?_, fun j hj => ?_⟩
  · obtain ⟨a, c, h1, h2⟩ := h.slc
    exact ⟨a, c, by rw [List.length_set]; exact h1, by rw [List.length_set]; exact h2⟩
  · obtain ⟨cur, h1, h2⟩ := h.blk (by omega)
    exact ⟨_, (h1.set _ _).set _ _, by rw [List.length_set]; simpa using h2⟩
  · rw [List.length_set] at hj
    have ne : ∀ p q : Nat, p ≠ q → (⟨D, p, none⟩ : Addr) ≠ ⟨D, q, none⟩ := fun p q h e => by injection e with _ e _; exact h e
    by_cases q : j = i
    · subst q
      rw [ed_set_eq hj]
      refine ⟨?_, ?_, ?_, ?_⟩
      · rw [World.cell?_setCell_other _ _ _ _ (ne _ _ (by omega))]
        exact World.cell?_setCell_same _ _ _ hc.f
      · exact World.cell?_setCell_same _ _ _ ((World.cell?_setCell_other _ _ _ _ (ne _ _ (by omega))).trans hc.t)
      · rw [World.cell?_setCell_other _ _ _ _ (ne _ _ (by omega)), World.cell?_setCell_other _ _ _ _ (ne _ _ (by omega))]
        exact hc.d
      · rw [World.cell?_setCell_other _ _ _ _ (ne _ _ (by omega)), World.cell?_setCell_other _ _ _ _ (ne _ _ (by omega))]
        exact hc.c
    · rw [ed_set_ne (fun x => q x.symm)]
      exact (h.each j hj).of_ne fun k hk => by
        rw [World.cell?_setCell_other _ _ _ _ (ne _ _ (by omega)), World.cell?_setCell_other _ _ _ _ (ne _ _ (by omega))]
theorem EdR.addr {W : World} {D : Nat} {a : Option Addr} {n c : Nat} {L : List Ed} (h : EdR W D (.slice a n c) L) (h0 : 0 < L.length) : a = some ⟨D, 0, none⟩ := by
  obtain ⟨a', c', h2, h3⟩ := h.slc
  injection h2 with h4 _ _
  exact h4.trans (h3 h0)
/-- Such a row as graphOf takes it. -/
theorem EdR.give {W : World} {D : Nat} {a : Option Addr} {n c : Nat} {L : List Ed} (h : EdR W D (.slice a n c) L) (h0 : 0 < W.heap.size) : ∃ D', D' < W.heap.size ∧ (0 < L.length → a = some ⟨D', 0, none⟩) ∧ ∀ j, j < L.length → EdC W D' (j * 4) (L.getD j .nul) := by
  by_cases hL : 0 < L.length
  · obtain ⟨cur, h1, _⟩ := h.blk hL
    obtain ⟨a', c', h2, h3⟩ := h.slc
    injection h2 with h4 _ _
    exact ⟨D, h1.lt, fun q => h4.trans (h3 q), h.each⟩
  · exact ⟨0, h0, fun q => absurd q hL, fun j hj => absurd hj (by omega)⟩
end Go.Proofs.Ytochfhoaiekioaa
