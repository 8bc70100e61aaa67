/-
  Edges: a graph's edges in their order, and the cells of rows of them.
-/
import Derived.Test.YtonhehndoifipabJReachSG0
import Derived.BigQuiet
import Derived.Deep.QuietTactic
import Derived.Maps.AppendAt
namespace Go.Proofs.Ytonhehndoifipab
open Go.RowKit

/-- An edge with both its cells. -/
structure Ed where
  f : Int
  t : Int
  d : Int
  c : Int
/-- Its cells. -/
def edc (e : Ed) : List Value := [.int .i64 e.f, .int .i64 e.t, .int .i64 e.d, .int .i64 e.c]
def edcs (L : List Ed) : List Value := L.flatMap edc
theorem edcs_length : ∀ L, (edcs L).length = L.length * 4
  | [] => rfl
  | p :: L => by
    have := edcs_length L
    unfold edcs at *
    rw [List.flatMap_cons, List.length_append, this, List.length_cons]
    show 4 + _ = _
    omega
theorem edcs_append (a b : List Ed) : edcs (a ++ b) = edcs a ++ edcs b := List.flatMap_append
theorem edcs_one (L : List Ed) : ∀ u ∈ edcs L, u.oneCell' = true := by
  intro u hu
  obtain ⟨p, hp, hu⟩ := List.mem_flatMap.1 hu
  unfold edc at hu
  simp only [List.mem_cons, List.not_mem_nil, or_false] at hu
  rcases hu with rfl | rfl | rfl | rfl <;> rfl
theorem edcs_at : ∀ (L : List Ed) (j : Nat) (p : Ed), L[j]? = some p → ∀ i, i < 4 → (edcs L)[j * 4 + i]? = (edc p)[i]?
  | [], j, p, h, _, _ => by simp at h
  | a :: L, 0, p, h, i, hi => by
    obtain rfl : a = p := by simpa using h
    show (edc a ++ edcs L)[0 * 4 + i]? = _
    rw [Nat.zero_mul, Nat.zero_add, List.getElem?_append_left (by show i < 4; exact hi)]
  | a :: L, j + 1, p, h, i, hi => by
    show (edc a ++ edcs L)[(j + 1) * 4 + i]? = _
    rw [List.getElem?_append_right (by show 4 ≤ _; omega)]
    rw [show (j + 1) * 4 + i - (edc a).length = j * 4 + i by show _ - 4 = _; omega]
    exact edcs_at L j p (by simpa using h) i hi
/-- A slice of edges reads as L. -/
def EdS (w : World) (v : Value) (L : List Ed) : Prop := ∃ a b o c, v = .slice a L.length c ∧ (0 < L.length → a = some ⟨b, o, none⟩) ∧ ∀ j, j < L.length → ∀ p, L[j]? = some p → w.cell? ⟨b, o + j * 4, none⟩ = some (.int .i64 p.f) ∧ w.cell? ⟨b, o + j * 4 + 1, none⟩ = some (.int .i64 p.t) ∧ w.cell? ⟨b, o + j * 4 + 2, none⟩ = some (.int .i64 p.d) ∧ w.cell? ⟨b, o + j * 4 + 3, none⟩ = some (.int .i64 p.c)
theorem EdS.below {w w' : World} {v : Value} {L : List Ed} (h : EdS w v L) (hb : Below w.heap.size w w') : EdS w' v L := by
  obtain ⟨a, b, o, c, h1, h2, h3⟩ := h
  refine ⟨a, b, o, c, h1, h2, fun j hj p hp => ?_⟩
  obtain ⟨k0, k1, k2, k3⟩ := h3 j hj p hp
  exact ⟨cell_kept k0 hb, cell_kept k1 hb, cell_kept k2 hb, cell_kept k3 hb⟩
theorem EdS.slice {w : World} {v : Value} {L : List Ed} (h : EdS w v L) : ∃ a c, v = .slice a L.length c := by
  obtain ⟨a, b, o, c, h1, _⟩ := h; exact ⟨a, c, h1⟩

/-- The cell that an edge leaves: the last one whose edges begin no later, among the first c + 1. -/
def srcUp (g : Gr) (e : Nat) : Nat → Nat
  | 0 => 0
  | c + 1 => if g.start.getD (c + 1) 0 ≤ (e : Int) then c + 1 else srcUp g e c
theorem srcUp_at {g : Gr} {e c : Nat} : ∀ {n : Nat}, (∀ k, k < n → g.start.getD k 0 ≤ g.start.getD (k + 1) 0) → c ≤ n → g.start.getD c 0 ≤ (e : Int) → (∀ k, c < k → k ≤ n → ¬ g.start.getD k 0 ≤ (e : Int)) → srcUp g e n = c ∨ (c = 0 ∧ srcUp g e n = 0)
  | 0, _, hc, _, _ => by
    obtain rfl : c = 0 := by omega
    exact .inl rfl
  | n + 1, hm, hc, h0, hk => by
    unfold srcUp
    by_cases e1 : c = n + 1
    · subst e1
      rw [if_pos h0]
      exact .inl rfl
    · rw [if_neg (hk (n + 1) (by omega) (Nat.le_refl _))]
      exact srcUp_at (fun k h => hm k (by omega)) (by omega) h0 (fun k h1 h2 => hk k h1 (by omega))
/-- An edge of a graph. -/
def edAt (g : Gr) (e : Nat) : Ed := ⟨srcUp g e (g.n.toNat - 1), g.to.getD e 0, g.dir.getD e 0, g.cost.getD e 0⟩
def edsTo (g : Gr) (k : Nat) : List Ed := (List.range k).map (edAt g)
/-- A graph's edges, in their order. -/
def eds (g : Gr) : List Ed := edsTo g g.to.length
theorem edsTo_length (g : Gr) (k : Nat) : (edsTo g k).length = k := by unfold edsTo; simp
theorem edsTo_succ (g : Gr) (k : Nat) : edsTo g (k + 1) = edsTo g k ++ [edAt g k] := by unfold edsTo; rw [List.range_succ, List.map_append]; rfl
theorem start_le {g : Gr} (h : GrOk g) : ∀ (a b : Nat), a ≤ b → b ≤ g.n.toNat → g.start.getD a 0 ≤ g.start.getD b 0
  | a, 0, hab, _ => by
    obtain rfl : a = 0 := by omega
    exact Int.le_refl _
  | a, b + 1, hab, hb => by
    by_cases e : a = b + 1
    · subst e; exact Int.le_refl _
    · have h1 := start_le h a b (by omega) (by omega)
      have h2 := h.grow b (by omega)
      omega
/-- The edge e of the cell c. -/
theorem edAt_src {g : Gr} (h : GrOk g) {c e : Nat} (hc : c < g.n.toNat) (h0 : g.start.getD c 0 ≤ (e : Int)) (h1 : (e : Int) < g.start.getD (c + 1) 0) : srcUp g e (g.n.toNat - 1) = c := by
  rcases srcUp_at (n := g.n.toNat - 1) (c := c) (fun k hk => h.grow k (by omega)) (by omega) h0 (fun k hk hk2 => by
    have := start_le h (c + 1) k (by omega) (by omega)
    omega) with h2 | ⟨h2, h3⟩
  · exact h2
  · rw [h3, h2]
end Go.Proofs.Ytonhehndoifipab
