/-
  Lists of lists of numbers with their blocks; marked.
  A Target with its blocks; marked.
-/
import Derived.Test.YteicpjbeihabnaaDoorJWalkMK
import Derived.Test.YteicpjbeihabnaaDoorJWalkFL
import Derived.Test.YteicpjbeihabnaaDoorJWalkIIS0
namespace Go.Proofs.YteicpjbeihabnaaDoor
open Go.RowKit

/-- A slice of slices reads as L; its blocks. -/
def IISF (w : World) (v : Value) (L : List (List Int)) (bl : List Nat) : Prop := ∃ a b o c, ∃ (V : Nat → Value) (NB : Nat → List Nat), v = .slice a L.length c ∧ (0 < L.length → a = some ⟨b, o, none⟩) ∧ bl = (if 0 < L.length then [b] else []) ++ ((List.range L.length).map NB).flatten ∧ ∀ j, j < L.length → w.cell? ⟨b, o + j, none⟩ = some (V j) ∧ IF w (V j) (L.getD j []) (NB j)
/-- How many marks those before the i-th take. -/
def IISn (L : List (List Int)) : Nat → Nat
  | 0 => 0
  | i + 1 => IISn L i + (L.getD i []).length
theorem IISn_le {L : List (List Int)} (h : IISB L) : ∀ i, i ≤ L.length → IISn L i ≤ i * 1048576
  | 0, _ => Nat.zero_le _
  | i + 1, hi => by
    have h1 := IISn_le h i (by omega)
    have h2 := h.each i (by omega)
    simp only [IISn]
    omega
/-- A slice of slices is marked from k on; its blocks. -/
def IISM (w : World) (v : Value) (L : List (List Int)) (k : Nat) (bl : List Nat) : Prop := ∃ a b o c, ∃ (V : Nat → Value) (NB : Nat → List Nat), v = .slice a L.length c ∧ (0 < L.length → a = some ⟨b, o, none⟩) ∧ bl = (if 0 < L.length then [b] else []) ++ ((List.range L.length).map NB).flatten ∧ ∀ j, j < L.length → w.cell? ⟨b, o + j, none⟩ = some (V j) ∧ IM w (V j) (L.getD j []).length (k + IISn L j) (NB j)
theorem IISF.rd {w : World} {v : Value} {L : List (List Int)} {bl : List Nat} (h : IISF w v L bl) : IIS w v L := by
  obtain ⟨a, b, o, c, V, NB, h1, h2, _, h3⟩ := h
  exact ⟨a, b, o, c, h1, h2, fun j hj => ⟨V j, (h3 j hj).1, (h3 j hj).2.rd⟩⟩
theorem IISF.slice {w : World} {v : Value} {L : List (List Int)} {bl : List Nat} (h : IISF w v L bl) : ∃ a c, v = .slice a L.length c := by
  obtain ⟨a, _, _, c, _, _, h1, _⟩ := h; exact ⟨a, c, h1⟩
theorem IISF.lt {w : World} {v : Value} {L : List (List Int)} {bl : List Nat} (h : IISF w v L bl) : ∀ g ∈ bl, g < w.heap.size := by
  obtain ⟨a, b, o, c, V, NB, h1, h2, rfl, h3⟩ := h
  intro g hg
  rcases List.mem_append.1 hg with hg | hg
  · by_cases hz : 0 < L.length
    · rw [if_pos hz] at hg
      obtain rfl := List.mem_singleton.1 hg
      exact World.block_lt_of_cell? _ _ (h3 0 hz).1
    · rw [if_neg hz] at hg; cases hg
  · obtain ⟨i, hi, hg⟩ := of_mem_flat hg
    exact (h3 i hi).2.lt g hg
theorem IISF.keep {w w' : World} {v : Value} {L : List (List Int)} {bl : List Nat} (h : IISF w v L bl) (hk : ∀ g ∈ bl, w'.heap[g]? = w.heap[g]?) : IISF w' v L bl := by
  obtain ⟨a, b, o, c, V, NB, h1, h2, rfl, h3⟩ := h
  have hb : 0 < L.length → w'.heap[b]? = w.heap[b]? := fun hz => hk b (List.mem_append_left _ (by rw [if_pos hz]; exact List.mem_singleton.2 rfl))
  exact ⟨a, b, o, c, V, NB, h1, h2, rfl, fun j hj => ⟨(World.cell?_of_block (w := w) (a := ⟨b, o + j, none⟩) (hb (by omega))).trans (h3 j hj).1, (h3 j hj).2.keep (fun g hg => hk g (List.mem_append_right _ (mem_flat hj hg)))⟩⟩
theorem IISF.below {w w' : World} {v : Value} {L : List (List Int)} {bl : List Nat} (h : IISF w v L bl) (hb : Below w.heap.size w w') : IISF w' v L bl := h.keep fun g hg => hb.block g (h.lt g hg)
theorem IISM.slice {w : World} {v : Value} {L : List (List Int)} {k : Nat} {bl : List Nat} (h : IISM w v L k bl) : ∃ a c, v = .slice a L.length c := by
  obtain ⟨a, _, _, c, _, _, h1, _⟩ := h; exact ⟨a, c, h1⟩
theorem IISM.lt {w : World} {v : Value} {L : List (List Int)} {k : Nat} {bl : List Nat} (h : IISM w v L k bl) : ∀ g ∈ bl, g < w.heap.size := by
  obtain ⟨a, b, o, c, V, NB, h1, h2, rfl, h3⟩ := h
  intro g hg
  rcases List.mem_append.1 hg with hg | hg
  · by_cases hz : 0 < L.length
    · rw [if_pos hz] at hg
      obtain rfl := List.mem_singleton.1 hg
      exact World.block_lt_of_cell? _ _ (h3 0 hz).1
    · rw [if_neg hz] at hg; cases hg
  · obtain ⟨i, hi, hg⟩ := of_mem_flat hg
    exact (h3 i hi).2.lt g hg
theorem IISM.keep {w w' : World} {v : Value} {L : List (List Int)} {k : Nat} {bl : List Nat} (h : IISM w v L k bl) (hk : ∀ g ∈ bl, w'.heap[g]? = w.heap[g]?) : IISM w' v L k bl := by
  obtain ⟨a, b, o, c, V, NB, h1, h2, rfl, h3⟩ := h
  have hb : 0 < L.length → w'.heap[b]? = w.heap[b]? := fun hz => hk b (List.mem_append_left _ (by rw [if_pos hz]; exact List.mem_singleton.2 rfl))
  exact ⟨a, b, o, c, V, NB, h1, h2, rfl, fun j hj => ⟨(World.cell?_of_block (w := w) (a := ⟨b, o + j, none⟩) (hb (by omega))).trans (h3 j hj).1, (h3 j hj).2.keep (fun g hg => hk g (List.mem_append_right _ (mem_flat hj hg)))⟩⟩
theorem IISM.below {w w' : World} {v : Value} {L : List (List Int)} {k : Nat} {bl : List Nat} (h : IISM w v L k bl) (hb : Below w.heap.size w w') : IISM w' v L k bl := h.keep fun g hg => hb.block g (h.lt g hg)
end Go.Proofs.YteicpjbeihabnaaDoor

namespace Go.Proofs.YteicpjbeihabnaaDoor
open Go.RowKit

/-- It reads as d; its blocks. -/
def TgF (w : World) (d : Tg) (v0 : Value) (bl : List Nat) : Prop := BF w v0 d.name bl
theorem TgF.rd {w : World} {d : Tg} {v0 : Value} {bl : List Nat} (h : TgF w d v0 bl) : TgV w d v0 := ⟨BF.rd h⟩
theorem TgF.keep {w w' : World} {d : Tg} {v0 : Value} {bl : List Nat} (h : TgF w d v0 bl) (hk : ∀ g ∈ bl, w'.heap[g]? = w.heap[g]?) : TgF w' d v0 bl := BF.keep h hk
theorem TgF.below {w w' : World} {d : Tg} {v0 : Value} {bl : List Nat} (h : TgF w d v0 bl) (hk : Below w.heap.size w w') : TgF w' d v0 bl := BF.below h hk
theorem TgF.lt {w : World} {d : Tg} {v0 : Value} {bl : List Nat} (h : TgF w d v0 bl) : ∀ g ∈ bl, g < w.heap.size := BF.lt h
end Go.Proofs.YteicpjbeihabnaaDoor
