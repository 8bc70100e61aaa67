/-
  Blocks of lists; runs of cells that are written.
  Lists of lists of numbers with their blocks; marked.
  A Target with its blocks; marked.
-/
import Derived.Test.YteicpjbeihabnaaDoorJRunFleetMK
import Derived.Test.YteicpjbeihabnaaDoorJRunFleetIIS0
namespace Go.Proofs.YteicpjbeihabnaaDoor
open Go.RowKit

theorem flat_split {n : Nat} {NB : Nat → List Nat} (h : ((List.range n).map NB).flatten.Nodup) : (∀ i, i < n → (NB i).Nodup) ∧ ∀ i j, i < n → j < n → i ≠ j → ∀ g, g ∈ NB i → g ∉ NB j := by
  induction n with
  | zero => exact ⟨fun i hi => absurd hi (Nat.not_lt_zero _), fun i j hi => absurd hi (Nat.not_lt_zero _)⟩
  | succ n ih =>
    rw [List.range_succ, List.map_append, List.flatten_append, List.nodup_append] at h
    obtain ⟨h1, h2, h3⟩ := h
    obtain ⟨i1, i2⟩ := ih h1
    have hs : ([n].map NB).flatten = NB n := by simp
    rw [hs] at h2 h3
    have hm : ∀ i, i < n → ∀ g, g ∈ NB i → g ∈ ((List.range n).map NB).flatten := fun i hi g hg => List.mem_flatten.2 ⟨NB i, List.mem_map.2 ⟨i, List.mem_range.2 hi, rfl⟩, hg⟩
    refine ⟨fun i hi => ?_, fun i j hi hj hne g hg hg' => ?_⟩
    · by_cases e : i = n
      · rw [e]; exact h2
      · exact i1 i (by omega)
    · by_cases e : i = n
      · subst e
        exact h3 g (hm j (by omega) g hg') g hg rfl
      · by_cases e' : j = n
        · subst e'
          exact h3 g (hm i (by omega) g hg) g hg' rfl
        · exact i2 i j (by omega) (by omega) hne g hg hg'
theorem mem_flat {n : Nat} {NB : Nat → List Nat} {i g : Nat} (hi : i < n) (hg : g ∈ NB i) : g ∈ ((List.range n).map NB).flatten := List.mem_flatten.2 ⟨NB i, List.mem_map.2 ⟨i, List.mem_range.2 hi, rfl⟩, hg⟩
theorem of_mem_flat {n : Nat} {NB : Nat → List Nat} {g : Nat} (h : g ∈ ((List.range n).map NB).flatten) : ∃ i, i < n ∧ g ∈ NB i := by
  obtain ⟨l, h1, h2⟩ := List.mem_flatten.1 h
  obtain ⟨i, h3, rfl⟩ := List.mem_map.1 h1
  exact ⟨i, List.mem_range.1 h3, h2⟩
/-- Cells of a block are written, one behind another. -/
def setRun (w : World) (b : Nat) : Nat → List Value → World
  | _, [] => w
  | p, u :: us => setRun (w.setCell ⟨b, p, none⟩ u) b (p + 1) us
theorem setRun_size (b : Nat) : ∀ (us : List Value) (w : World) (p : Nat), (setRun w b p us).heap.size = w.heap.size
  | [], _, _ => rfl
  | _ :: us, _, _ => (setRun_size b us _ _).trans (World.size_setCell _ _ _)
theorem setRun_blk {b g : Nat} (hg : g ≠ b) : ∀ (us : List Value) (w : World) (p : Nat), (setRun w b p us).heap[g]? = w.heap[g]?
  | [], _, _ => rfl
  | _ :: us, _, _ => (setRun_blk hg us _ _).trans (Below.heap_setCell _ _ _ _ hg)
theorem setRun_fz (b : Nat) (q : Addr) : ∀ (us : List Value) (w : World) (p : Nat), (setRun w b p us).frozen? q = w.frozen? q
  | [], _, _ => rfl
  | _ :: us, _, _ => (setRun_fz b q us _ _).trans (World.frozen?_setCell ..)
theorem setRun_os (b : Nat) : ∀ (us : List Value) (w : World) (p : Nat), (setRun w b p us).os = w.os ∧ (setRun w b p us).tape = w.tape ∧ (setRun w b p us).output = w.output
  | [], _, _ => ⟨rfl, rfl, rfl⟩
  | u :: us, w, p => setRun_os b us (w.setCell ⟨b, p, none⟩ u) (p + 1)
theorem setRun_cell {b : Nat} : ∀ (us : List Value) (w : World) (p : Nat), (∀ j, j < us.length → ∃ v, w.cell? ⟨b, p + j, none⟩ = some v) → ∀ j, (setRun w b p us).cell? ⟨b, j, none⟩ = if p ≤ j ∧ j < p + us.length then us[j - p]? else w.cell? ⟨b, j, none⟩
  | [], w, p, _, j => by rw [if_neg (by simp)]; rfl
  | u :: us, w, p, h, j => by
    obtain ⟨v0, h0⟩ := h 0 (by simp)
    rw [Nat.add_zero] at h0
    have hs : ∀ i, (w.setCell ⟨b, p, none⟩ u).cell? ⟨b, i, none⟩ = if i = p then some u else w.cell? ⟨b, i, none⟩ := fun i => by
      by_cases e : i = p
      · subst e; rw [if_pos rfl]; exact World.cell?_setCell_same _ _ _ h0
      · rw [if_neg e]; exact World.cell?_setCell_other _ _ _ _ (fun h => e (by have := congrArg Addr.off h; exact this.symm))
    show (setRun (w.setCell ⟨b, p, none⟩ u) b (p + 1) us).cell? ⟨b, j, none⟩ = _
    rw [setRun_cell us _ (p + 1) (fun i hi => by
      obtain ⟨v, hv⟩ := h (i + 1) (by simp; omega)
      refine ⟨v, ?_⟩
      rw [hs, if_neg (by omega), ← hv]
      congr 2
      omega) j, hs j]
    by_cases e : j = p
    · subst e
      rw [if_neg (by omega), if_pos rfl, if_pos (by simp), Nat.sub_self]
      rfl
    · by_cases c : p + 1 ≤ j ∧ j < p + 1 + us.length
      · rw [if_pos c, if_pos (by simp; omega)]
        obtain ⟨q, rfl⟩ : ∃ q, j = p + 1 + q := ⟨j - (p + 1), by omega⟩
        rw [show p + 1 + q - (p + 1) = q by omega, show p + 1 + q - p = q + 1 by omega]
        rfl
      · rw [if_neg c, if_neg e, if_neg (by simp; omega)]
theorem setRun_at {b : Nat} {us : List Value} {w : World} {p i : Nat} {u : Value} (h : ∀ j, j < us.length → ∃ v, w.cell? ⟨b, p + j, none⟩ = some v) (hi : i < us.length) (hu : us[i]? = some u) : (setRun w b p us).cell? ⟨b, p + i, none⟩ = some u := by
  rw [setRun_cell us w p h, if_pos (by omega), show p + i - p = i by omega, hu]
theorem setRun_off {b : Nat} {us : List Value} {w : World} {p j : Nat} (h : ∀ j, j < us.length → ∃ v, w.cell? ⟨b, p + j, none⟩ = some v) (hj : j < p ∨ p + us.length ≤ j) : (setRun w b p us).cell? ⟨b, j, none⟩ = w.cell? ⟨b, j, none⟩ := by
  rw [setRun_cell us w p h, if_neg (by omega)]
theorem setRun_wrs {b p : Nat} {us : List Value} {w w' : World} {bl : List Nat} (h : Wrs bl w w') (hb : b ∈ bl) : Wrs bl w (setRun w' b p us) :=
  ⟨(setRun_os b us w' p).1.trans h.os, (setRun_os b us w' p).2.1.trans h.tape, (setRun_os b us w' p).2.2.trans h.output, by rw [setRun_size]; exact h.size, fun g hg ho => (setRun_blk (fun e => ho (by rw [e]; exact hb)) us w' p).trans (h.blk g hg ho)⟩
end Go.Proofs.YteicpjbeihabnaaDoor

namespace Go.Proofs.YteicpjbeihabnaaDoor
open Go.RowKit

/-- A slice of slices reads as L; its blocks. -/
def IISF (w : World) (v : Value) (L : List (List Int)) (bl : List Nat) : Prop := ∃ a b o c, ∃ (V : Nat → Value) (NB : Nat → List Nat), v = .slice a L.length c ∧ (0 < L.length → a = some ⟨b, o, none⟩) ∧ bl = (if 0 < L.length then [b] else []) ++ ((List.range L.length).map NB).flatten ∧ ∀ j, j < L.length → w.cell? ⟨b, o + j, none⟩ = some (V j) ∧ IF w (V j) (L.getD j []) (NB j)
/-- How many marks those before the i-th take. -/
def IISn (L : List (List Int)) : Nat → Nat
  | 0 => 0
  | i + 1 => IISn L i + (L.getD i []).length
theorem IISn_le {L : List (List Int)} (h : IISB L) : ∀ i, i ≤ L.length → IISn L i ≤ i * 1048576
  | 0, _ => Nat.zero_le _
  | i + 1, hi => by
    have h1 := IISn_le h i (by omega)
    have h2 := h.each i (by omega)
    simp only [IISn]
    omega
/-- A slice of slices is marked from k on; its blocks. -/
def IISM (w : World) (v : Value) (L : List (List Int)) (k : Nat) (bl : List Nat) : Prop := ∃ a b o c, ∃ (V : Nat → Value) (NB : Nat → List Nat), v = .slice a L.length c ∧ (0 < L.length → a = some ⟨b, o, none⟩) ∧ bl = (if 0 < L.length then [b] else []) ++ ((List.range L.length).map NB).flatten ∧ ∀ j, j < L.length → w.cell? ⟨b, o + j, none⟩ = some (V j) ∧ IM w (V j) (L.getD j []).length (k + IISn L j) (NB j)
theorem IISF.rd {w : World} {v : Value} {L : List (List Int)} {bl : List Nat} (h : IISF w v L bl) : IIS w v L := by
  obtain ⟨a, b, o, c, V, NB, h1, h2, _, h3⟩ := h
  exact ⟨a, b, o, c, h1, h2, fun j hj => ⟨V j, (h3 j hj).1, (h3 j hj).2.rd⟩⟩
theorem IISF.slice {w : World} {v : Value} {L : List (List Int)} {bl : List Nat} (h : IISF w v L bl) : ∃ a c, v = .slice a L.length c := by
  obtain ⟨a, _, _, c, _, _, h1, _⟩ := h; exact ⟨a, c, h1⟩
theorem IISF.lt {w : World} {v : Value} {L : List (List Int)} {bl : List Nat} (h : IISF w v L bl) : ∀ g ∈ bl, g < w.heap.size := by
  obtain ⟨a, b, o, c, V, NB, h1, h2, rfl, h3⟩ := h
  intro g hg
  rcases List.mem_append.1 hg with hg | hg
  · by_cases hz : 0 < L.length
    · rw [if_pos hz] at hg
      obtain rfl := List.mem_singleton.1 hg
      exact World.block_lt_of_cell? _ _ (h3 0 hz).1
    · rw [if_neg hz] at hg; cases hg
  · obtain ⟨i, hi, hg⟩ := of_mem_flat hg
    exact (h3 i hi).2.lt g hg
theorem IISF.keep {w w' : World} {v : Value} {L : List (List Int)} {bl : List Nat} (h : IISF w v L bl) (hk : ∀ g ∈ bl, w'.heap[g]? = w.heap[g]?) : IISF w' v L bl := by
  obtain ⟨a, b, o, c, V, NB, h1, h2, rfl, h3⟩ := h
  have hb : 0 < L.length → w'.heap[b]? = w.heap[b]? := fun hz => hk b (List.mem_append_left _ (by rw [if_pos hz]; exact List.mem_singleton.2 rfl))
  exact ⟨a, b, o, c, V, NB, h1, h2, rfl, fun j hj => ⟨(World.cell?_of_block (w := w) (a := ⟨b, o + j, none⟩) (hb (by omega))).trans (h3 j hj).1, (h3 j hj).2.keep (fun g hg => hk g (List.mem_append_right _ (mem_flat hj hg)))⟩⟩
theorem IISF.below {w w' : World} {v : Value} {L : List (List Int)} {bl : List Nat} (h : IISF w v L bl) (hb : Below w.heap.size w w') : IISF w' v L bl := h.keep fun g hg => hb.block g (h.lt g hg)
theorem IISM.slice {w : World} {v : Value} {L : List (List Int)} {k : Nat} {bl : List Nat} (h : IISM w v L k bl) : ∃ a c, v = .slice a L.length c := by
  obtain ⟨a, _, _, c, _, _, h1, _⟩ := h; exact ⟨a, c, h1⟩
theorem IISM.lt {w : World} {v : Value} {L : List (List Int)} {k : Nat} {bl : List Nat} (h : IISM w v L k bl) : ∀ g ∈ bl, g < w.heap.size := by
  obtain ⟨a, b, o, c, V, NB, h1, h2, rfl, h3⟩ := h
  intro g hg
  rcases List.mem_append.1 hg with hg | hg
  · by_cases hz : 0 < L.length
    · rw [if_pos hz] at hg
      obtain rfl := List.mem_singleton.1 hg
      exact World.block_lt_of_cell? _ _ (h3 0 hz).1
    · rw [if_neg hz] at hg; cases hg
  · obtain ⟨i, hi, hg⟩ := of_mem_flat hg
    exact (h3 i hi).2.lt g hg
theorem IISM.keep {w w' : World} {v : Value} {L : List (List Int)} {k : Nat} {bl : List Nat} (h : IISM w v L k bl) (hk : ∀ g ∈ bl, w'.heap[g]? = w.heap[g]?) : IISM w' v L k bl := by
  obtain ⟨a, b, o, c, V, NB, h1, h2, rfl, h3⟩ := h
  have hb : 0 < L.length → w'.heap[b]? = w.heap[b]? := fun hz => hk b (List.mem_append_left _ (by rw [if_pos hz]; exact List.mem_singleton.2 rfl))
  exact ⟨a, b, o, c, V, NB, h1, h2, rfl, fun j hj => ⟨(World.cell?_of_block (w := w) (a := ⟨b, o + j, none⟩) (hb (by omega))).trans (h3 j hj).1, (h3 j hj).2.keep (fun g hg => hk g (List.mem_append_right _ (mem_flat hj hg)))⟩⟩
theorem IISM.below {w w' : World} {v : Value} {L : List (List Int)} {k : Nat} {bl : List Nat} (h : IISM w v L k bl) (hb : Below w.heap.size w w') : IISM w' v L k bl := h.keep fun g hg => hb.block g (h.lt g hg)
end Go.Proofs.YteicpjbeihabnaaDoor

namespace Go.Proofs.YteicpjbeihabnaaDoor
open Go.RowKit

/-- It reads as d; its blocks. -/
def TgF (w : World) (d : Tg) (v0 : Value) (bl : List Nat) : Prop := BF w v0 d.name bl
theorem TgF.rd {w : World} {d : Tg} {v0 : Value} {bl : List Nat} (h : TgF w d v0 bl) : TgV w d v0 := ⟨BF.rd h⟩
theorem TgF.keep {w w' : World} {d : Tg} {v0 : Value} {bl : List Nat} (h : TgF w d v0 bl) (hk : ∀ g ∈ bl, w'.heap[g]? = w.heap[g]?) : TgF w' d v0 bl := BF.keep h hk
theorem TgF.below {w w' : World} {d : Tg} {v0 : Value} {bl : List Nat} (h : TgF w d v0 bl) (hk : Below w.heap.size w w') : TgF w' d v0 bl := BF.below h hk
theorem TgF.lt {w : World} {d : Tg} {v0 : Value} {bl : List Nat} (h : TgF w d v0 bl) : ∀ g ∈ bl, g < w.heap.size := BF.lt h
end Go.Proofs.YteicpjbeihabnaaDoor
