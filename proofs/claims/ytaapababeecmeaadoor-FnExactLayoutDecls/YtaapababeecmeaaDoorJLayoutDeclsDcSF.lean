/-
  Lists of Decl with their blocks; marked.
-/
import Derived.Test.YtaapababeecmeaaDoorJLayoutDeclsDc2
import Derived.Test.YtaapababeecmeaaDoorJLayoutDeclsDc0
namespace Go.Proofs.YtaapababeecmeaaDoor
open Go.RowKit

/-- A slice of them reads as L; its blocks. -/
def DcSF (w : World) (v : Value) (L : List Dc) (bl : List Nat) : Prop := ∃ a b o c, ∃ (V : Nat → Value) (NB : Nat → List Nat), v = .slice a L.length c ∧ (0 < L.length → a = some ⟨b, o, none⟩) ∧ bl = (if 0 < L.length then [b] else []) ++ ((List.range L.length).map NB).flatten ∧ (∀ j, j < L.length * 9 → w.frozen? ⟨b, o + j, none⟩ = false) ∧ ∀ j, j < L.length → DcC w b (o + j * 9) (L.getD j .zero) (V j) ∧ DcF w (L.getD j .zero) (V j) (NB j)
/-- How many marks one takes, and those before the i-th. -/
def DcN (d : Dc) : Nat := 8 + d.name.size
def DcSn (L : List Dc) : Nat → Nat
  | 0 => 0
  | i + 1 => DcSn L i + DcN (L.getD i .zero)
theorem DcSn_le {L : List Dc} (h : DcSB L) : ∀ i, i ≤ L.length → DcSn L i ≤ i * 1048600
  | 0, _ => Nat.zero_le _
  | i + 1, hi => by
    have h1 := DcSn_le h i (by omega)
    have h2 := (h.each i (by omega)).name
    simp only [DcSn, DcN]
    omega
/-- A slice of them is marked from k on; its blocks. -/
def DcSM (w : World) (v : Value) (L : List Dc) (k : Nat) (bl : List Nat) : Prop := ∃ a b o c, ∃ (V : Nat → Value) (NB : Nat → List Nat), v = .slice a L.length c ∧ (0 < L.length → a = some ⟨b, o, none⟩) ∧ bl = (if 0 < L.length then [b] else []) ++ ((List.range L.length).map NB).flatten ∧ ∀ j, j < L.length → (w.cell? ⟨b, o + j * 9, none⟩ = some (mkI (k + DcSn L j + (0))) ∧ w.cell? ⟨b, o + j * 9 + 1, none⟩ = some (mkI (k + DcSn L j + (1))) ∧ w.cell? ⟨b, o + j * 9 + 2, none⟩ = some (mkI (k + DcSn L j + (2))) ∧ w.cell? ⟨b, o + j * 9 + 3, none⟩ = some (mkI (k + DcSn L j + (3))) ∧ w.cell? ⟨b, o + j * 9 + 4, none⟩ = some (mkI (k + DcSn L j + (4))) ∧ w.cell? ⟨b, o + j * 9 + 5, none⟩ = some (mkI (k + DcSn L j + (5))) ∧ w.cell? ⟨b, o + j * 9 + 6, none⟩ = some (mkI (k + DcSn L j + (6))) ∧ w.cell? ⟨b, o + j * 9 + 8, none⟩ = some (mkI (k + DcSn L j + (7 + (L.getD j .zero).name.size)))) ∧ w.cell? ⟨b, o + j * 9 + 7, none⟩ = some (V j) ∧ BM w (V j) ((L.getD j .zero).name.size) (k + DcSn L j + 7) (NB j)
theorem DcSF.rd {w : World} {v : Value} {L : List Dc} {bl : List Nat} (h : DcSF w v L bl) : DcS w v L := by
  obtain ⟨a, b, o, c, V, NB, h1, h2, _, _, h3⟩ := h
  exact ⟨a, b, o, c, h1, h2, fun j hj => ⟨V j, (h3 j hj).1, (h3 j hj).2.rd⟩⟩
theorem DcSF.slice {w : World} {v : Value} {L : List Dc} {bl : List Nat} (h : DcSF w v L bl) : ∃ a c, v = .slice a L.length c := by
  obtain ⟨a, _, _, c, _, _, h1, _⟩ := h; exact ⟨a, c, h1⟩
theorem DcSF.lt {w : World} {v : Value} {L : List Dc} {bl : List Nat} (h : DcSF w v L bl) : ∀ g ∈ bl, g < w.heap.size := by
  obtain ⟨a, b, o, c, V, NB, h1, h2, rfl, _, h3⟩ := h
  intro g hg
  rcases List.mem_append.1 hg with hg | hg
  · by_cases hz : 0 < L.length
    · rw [if_pos hz] at hg
      obtain rfl := List.mem_singleton.1 hg
      exact World.block_lt_of_cell? _ _ (h3 0 hz).1.kind
    · rw [if_neg hz] at hg; cases hg
  · obtain ⟨i, hi, hg⟩ := of_mem_flat hg
    exact (h3 i hi).2.lt g hg
theorem DcSF.keep {w w' : World} {v : Value} {L : List Dc} {bl : List Nat} (h : DcSF w v L bl) (hk : ∀ g ∈ bl, w'.heap[g]? = w.heap[g]?) : DcSF w' v L bl := by
  obtain ⟨a, b, o, c, V, NB, h1, h2, rfl, hf, h3⟩ := h
  have hb : 0 < L.length → w'.heap[b]? = w.heap[b]? := fun hz => hk b (List.mem_append_left _ (by rw [if_pos hz]; exact List.mem_singleton.2 rfl))
  refine ⟨a, b, o, c, V, NB, h1, h2, rfl, fun j hj => ?_, fun j hj => ⟨?_, (h3 j hj).2.keep (fun g hg => hk g (List.mem_append_right _ (mem_flat hj hg)))⟩⟩
  · exact (World.frozen?_of_block (w := w) (a := ⟨b, o + j, none⟩) (hb (by omega))).trans (hf j hj)
  · have hb' := hb (by omega)
    have hc : ∀ j, w'.cell? ⟨b, j, none⟩ = w.cell? ⟨b, j, none⟩ := fun j => World.cell?_of_block (w := w) (a := ⟨b, j, none⟩) hb'
    obtain ⟨q0, q1, q2, q3, q4, q5, q6, q7, q8⟩ := (h3 j hj).1
    exact ⟨(hc _).trans q0, (hc _).trans q1, (hc _).trans q2, (hc _).trans q3, (hc _).trans q4, (hc _).trans q5, (hc _).trans q6, (hc _).trans q7, (hc _).trans q8⟩
theorem DcSF.below {w w' : World} {v : Value} {L : List Dc} {bl : List Nat} (h : DcSF w v L bl) (hb : Below w.heap.size w w') : DcSF w' v L bl := h.keep fun g hg => hb.block g (h.lt g hg)
theorem DcSM.slice {w : World} {v : Value} {L : List Dc} {k : Nat} {bl : List Nat} (h : DcSM w v L k bl) : ∃ a c, v = .slice a L.length c := by
  obtain ⟨a, _, _, c, _, _, h1, _⟩ := h; exact ⟨a, c, h1⟩
theorem DcSM.lt {w : World} {v : Value} {L : List Dc} {k : Nat} {bl : List Nat} (h : DcSM w v L k bl) : ∀ g ∈ bl, g < w.heap.size := by
  obtain ⟨a, b, o, c, V, NB, h1, h2, rfl, h3⟩ := h
  intro g hg
  rcases List.mem_append.1 hg with hg | hg
  · by_cases hz : 0 < L.length
    · rw [if_pos hz] at hg
      obtain rfl := List.mem_singleton.1 hg
      exact World.block_lt_of_cell? _ _ (h3 0 hz).2.1
    · rw [if_neg hz] at hg; cases hg
  · obtain ⟨i, hi, hg⟩ := of_mem_flat hg
    exact (h3 i hi).2.2.lt g hg
theorem DcSM.keep {w w' : World} {v : Value} {L : List Dc} {k : Nat} {bl : List Nat} (h : DcSM w v L k bl) (hk : ∀ g ∈ bl, w'.heap[g]? = w.heap[g]?) : DcSM w' v L k bl := by
  obtain ⟨a, b, o, c, V, NB, h1, h2, rfl, h3⟩ := h
  have hb : 0 < L.length → w'.heap[b]? = w.heap[b]? := fun hz => hk b (List.mem_append_left _ (by rw [if_pos hz]; exact List.mem_singleton.2 rfl))
  refine ⟨a, b, o, c, V, NB, h1, h2, rfl, fun j hj => ?_⟩
  have hb' := hb (by omega)
  have hc : ∀ j, w'.cell? ⟨b, j, none⟩ = w.cell? ⟨b, j, none⟩ := fun j => World.cell?_of_block (w := w) (a := ⟨b, j, none⟩) hb'
  obtain ⟨⟨q0, q1, q2, q3, q4, q5, q6, q8⟩, q, hm⟩ := h3 j hj
  exact ⟨⟨(hc _).trans q0, (hc _).trans q1, (hc _).trans q2, (hc _).trans q3, (hc _).trans q4, (hc _).trans q5, (hc _).trans q6, (hc _).trans q8⟩, (hc _).trans q, hm.keep (fun g hg => hk g (List.mem_append_right _ (mem_flat hj hg)))⟩
theorem DcSM.below {w w' : World} {v : Value} {L : List Dc} {k : Nat} {bl : List Nat} (h : DcSM w v L k bl) (hb : Below w.heap.size w w') : DcSM w' v L k bl := h.keep fun g hg => hb.block g (h.lt g hg)
end Go.Proofs.YtaapababeecmeaaDoor
