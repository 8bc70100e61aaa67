/-
  Lists of Target with their blocks; marked.
  A Tables with its blocks; marked.
  toIntS with its block.
-/
import Derived.Test.YteicpjbeihabnaaDoorJRunFleetFL
import Derived.Test.YteicpjbeihabnaaDoorJRunFleetIIS0
namespace Go.Proofs.YteicpjbeihabnaaDoor
open Go.RowKit

/-- A slice of them reads as L; its blocks. -/
def TgSF (w : World) (v : Value) (L : List Tg) (bl : List Nat) : Prop := ∃ a b o c, ∃ (V : Nat → Value) (NB : Nat → List Nat), v = .slice a L.length c ∧ (0 < L.length → a = some ⟨b, o, none⟩) ∧ bl = (if 0 < L.length then [b] else []) ++ ((List.range L.length).map NB).flatten ∧ (∀ j, j < L.length * 3 → w.frozen? ⟨b, o + j, none⟩ = false) ∧ ∀ j, j < L.length → TgC w b (o + j * 3) (L.getD j .zero) (V j) ∧ TgF w (L.getD j .zero) (V j) (NB j)
/-- How many marks one takes, and those before the i-th. -/
def TgN (d : Tg) : Nat := 2 + d.name.size
def TgSn (L : List Tg) : Nat → Nat
  | 0 => 0
  | i + 1 => TgSn L i + TgN (L.getD i .zero)
theorem TgSn_le {L : List Tg} (h : TgSB L) : ∀ i, i ≤ L.length → TgSn L i ≤ i * 1048600
  | 0, _ => Nat.zero_le _
  | i + 1, hi => by
    have h1 := TgSn_le h i (by omega)
    have h2 := (h.each i (by omega)).name
    simp only [TgSn, TgN]
    omega
/-- A slice of them is marked from k on; its blocks. -/
def TgSM (w : World) (v : Value) (L : List Tg) (k : Nat) (bl : List Nat) : Prop := ∃ a b o c, ∃ (V : Nat → Value) (NB : Nat → List Nat), v = .slice a L.length c ∧ (0 < L.length → a = some ⟨b, o, none⟩) ∧ bl = (if 0 < L.length then [b] else []) ++ ((List.range L.length).map NB).flatten ∧ ∀ j, j < L.length → (w.cell? ⟨b, o + j * 3 + 1, none⟩ = some (mkI (k + TgSn L j + (0 + (L.getD j .zero).name.size))) ∧ w.cell? ⟨b, o + j * 3 + 2, none⟩ = some (mkI (k + TgSn L j + (1 + (L.getD j .zero).name.size)))) ∧ w.cell? ⟨b, o + j * 3, none⟩ = some (V j) ∧ BM w (V j) ((L.getD j .zero).name.size) (k + TgSn L j + 0) (NB j)
theorem TgSF.rd {w : World} {v : Value} {L : List Tg} {bl : List Nat} (h : TgSF w v L bl) : TgS w v L := by
  obtain ⟨a, b, o, c, V, NB, h1, h2, _, _, h3⟩ := h
  exact ⟨a, b, o, c, h1, h2, fun j hj => ⟨V j, (h3 j hj).1, (h3 j hj).2.rd⟩⟩
theorem TgSF.slice {w : World} {v : Value} {L : List Tg} {bl : List Nat} (h : TgSF w v L bl) : ∃ a c, v = .slice a L.length c := by
  obtain ⟨a, _, _, c, _, _, h1, _⟩ := h; exact ⟨a, c, h1⟩
theorem TgSF.lt {w : World} {v : Value} {L : List Tg} {bl : List Nat} (h : TgSF w v L bl) : ∀ g ∈ bl, g < w.heap.size := by
  obtain ⟨a, b, o, c, V, NB, h1, h2, rfl, _, h3⟩ := h
  intro g hg
  rcases List.mem_append.1 hg with hg | hg
  · by_cases hz : 0 < L.length
    · rw [if_pos hz] at hg
      obtain rfl := List.mem_singleton.1 hg
      exact World.block_lt_of_cell? _ _ (h3 0 hz).1.name
    · rw [if_neg hz] at hg; cases hg
  · obtain ⟨i, hi, hg⟩ := of_mem_flat hg
    exact (h3 i hi).2.lt g hg
theorem TgSF.keep {w w' : World} {v : Value} {L : List Tg} {bl : List Nat} (h : TgSF w v L bl) (hk : ∀ g ∈ bl, w'.heap[g]? = w.heap[g]?) : TgSF w' v L bl := by
  obtain ⟨a, b, o, c, V, NB, h1, h2, rfl, hf, h3⟩ := h
  have hb : 0 < L.length → w'.heap[b]? = w.heap[b]? := fun hz => hk b (List.mem_append_left _ (by rw [if_pos hz]; exact List.mem_singleton.2 rfl))
  refine ⟨a, b, o, c, V, NB, h1, h2, rfl, fun j hj => ?_, fun j hj => ⟨?_, (h3 j hj).2.keep (fun g hg => hk g (List.mem_append_right _ (mem_flat hj hg)))⟩⟩
  · exact (World.frozen?_of_block (w := w) (a := ⟨b, o + j, none⟩) (hb (by omega))).trans (hf j hj)
  · have hb' := hb (by omega)
    have hc : ∀ j, w'.cell? ⟨b, j, none⟩ = w.cell? ⟨b, j, none⟩ := fun j => World.cell?_of_block (w := w) (a := ⟨b, j, none⟩) hb'
    obtain ⟨q0, q1, q2⟩ := (h3 j hj).1
    exact ⟨(hc _).trans q0, (hc _).trans q1, (hc _).trans q2⟩
theorem TgSF.below {w w' : World} {v : Value} {L : List Tg} {bl : List Nat} (h : TgSF w v L bl) (hb : Below w.heap.size w w') : TgSF w' v L bl := h.keep fun g hg => hb.block g (h.lt g hg)
theorem TgSM.slice {w : World} {v : Value} {L : List Tg} {k : Nat} {bl : List Nat} (h : TgSM w v L k bl) : ∃ a c, v = .slice a L.length c := by
  obtain ⟨a, _, _, c, _, _, h1, _⟩ := h; exact ⟨a, c, h1⟩
theorem TgSM.lt {w : World} {v : Value} {L : List Tg} {k : Nat} {bl : List Nat} (h : TgSM w v L k bl) : ∀ g ∈ bl, g < w.heap.size := by
  obtain ⟨a, b, o, c, V, NB, h1, h2, rfl, h3⟩ := h
  intro g hg
  rcases List.mem_append.1 hg with hg | hg
  · by_cases hz : 0 < L.length
    · rw [if_pos hz] at hg
      obtain rfl := List.mem_singleton.1 hg
      exact World.block_lt_of_cell? _ _ (h3 0 hz).2.1
    · rw [if_neg hz] at hg; cases hg
  · obtain ⟨i, hi, hg⟩ := of_mem_flat hg
    exact (h3 i hi).2.2.lt g hg
theorem TgSM.keep {w w' : World} {v : Value} {L : List Tg} {k : Nat} {bl : List Nat} (h : TgSM w v L k bl) (hk : ∀ g ∈ bl, w'.heap[g]? = w.heap[g]?) : TgSM w' v L k bl := by
  obtain ⟨a, b, o, c, V, NB, h1, h2, rfl, h3⟩ := h
  have hb : 0 < L.length → w'.heap[b]? = w.heap[b]? := fun hz => hk b (List.mem_append_left _ (by rw [if_pos hz]; exact List.mem_singleton.2 rfl))
  refine ⟨a, b, o, c, V, NB, h1, h2, rfl, fun j hj => ?_⟩
  have hb' := hb (by omega)
  have hc : ∀ j, w'.cell? ⟨b, j, none⟩ = w.cell? ⟨b, j, none⟩ := fun j => World.cell?_of_block (w := w) (a := ⟨b, j, none⟩) hb'
  obtain ⟨⟨q1, q2⟩, q, hm⟩ := h3 j hj
  exact ⟨⟨(hc _).trans q1, (hc _).trans q2⟩, (hc _).trans q, hm.keep (fun g hg => hk g (List.mem_append_right _ (mem_flat hj hg)))⟩
theorem TgSM.below {w w' : World} {v : Value} {L : List Tg} {k : Nat} {bl : List Nat} (h : TgSM w v L k bl) (hb : Below w.heap.size w w') : TgSM w' v L k bl := h.keep fun g hg => hb.block g (h.lt g hg)
end Go.Proofs.YteicpjbeihabnaaDoor

namespace Go.Proofs.YteicpjbeihabnaaDoor
open Go.RowKit

/-- It reads as d; its blocks. -/
def TbF (w : World) (d : Tb) (v2 v3 v4 : Value) (bl : List Nat) : Prop := ∃ bl2 bl3 bl4, bl = bl2 ++ (bl3 ++ (bl4)) ∧ TgSF w v2 d.targets bl2 ∧ IISF w v3 d.dist bl3 ∧ IISF w v4 d.hop bl4
theorem TbF.rd {w : World} {d : Tb} {v2 v3 v4 : Value} {bl : List Nat} (h : TbF w d v2 v3 v4 bl) : TbV w d v2 v3 v4 := by
  obtain ⟨bl2, bl3, bl4, _, h2, h3, h4⟩ := h
  exact ⟨h2.rd, h3.rd, h4.rd⟩
theorem TbF.keep {w w' : World} {d : Tb} {v2 v3 v4 : Value} {bl : List Nat} (h : TbF w d v2 v3 v4 bl) (hk : ∀ g ∈ bl, w'.heap[g]? = w.heap[g]?) : TbF w' d v2 v3 v4 bl := by
  obtain ⟨bl2, bl3, bl4, rfl, h2, h3, h4⟩ := h
  exact ⟨_, _, _, rfl, h2.keep (fun g hg => hk g (List.mem_append_left _ hg)), h3.keep (fun g hg => hk g (List.mem_append_right _ (List.mem_append_left _ hg))), h4.keep (fun g hg => hk g (List.mem_append_right _ (List.mem_append_right _ (hg))))⟩
theorem TbF.lt {w : World} {d : Tb} {v2 v3 v4 : Value} {bl : List Nat} (h : TbF w d v2 v3 v4 bl) : ∀ g ∈ bl, g < w.heap.size := by
  obtain ⟨bl2, bl3, bl4, rfl, h2, h3, h4⟩ := h
  intro g hg
  simp only [List.mem_append] at hg
  rcases hg with hg | hg | hg
  · exact h2.lt g hg
  · exact h3.lt g hg
  · exact h4.lt g hg
theorem TbF.below {w w' : World} {d : Tb} {v2 v3 v4 : Value} {bl : List Nat} (h : TbF w d v2 v3 v4 bl) (hb : Below w.heap.size w w') : TbF w' d v2 v3 v4 bl := h.keep fun g hg => hb.block g (h.lt g hg)
/-- It is marked from k on; its blocks. -/
def TbM (w : World) (d : Tb) (v2 v3 v4 : Value) (k : Nat) (bl : List Nat) : Prop := ∃ bl2 bl3 bl4, bl = bl2 ++ (bl3 ++ (bl4)) ∧ TgSM w v2 d.targets (k) bl2 ∧ IISM w v3 d.dist (k + (TgSn d.targets d.targets.length)) bl3 ∧ IISM w v4 d.hop (k + (TgSn d.targets d.targets.length) + (IISn d.dist d.dist.length)) bl4
theorem TbM.keep {w w' : World} {d : Tb} {v2 v3 v4 : Value} {k : Nat} {bl : List Nat} (h : TbM w d v2 v3 v4 k bl) (hk : ∀ g ∈ bl, w'.heap[g]? = w.heap[g]?) : TbM w' d v2 v3 v4 k bl := by
  obtain ⟨bl2, bl3, bl4, rfl, h2, h3, h4⟩ := h
  exact ⟨_, _, _, rfl, h2.keep (fun g hg => hk g (List.mem_append_left _ hg)), h3.keep (fun g hg => hk g (List.mem_append_right _ (List.mem_append_left _ hg))), h4.keep (fun g hg => hk g (List.mem_append_right _ (List.mem_append_right _ (hg))))⟩
theorem TbM.lt {w : World} {d : Tb} {v2 v3 v4 : Value} {k : Nat} {bl : List Nat} (h : TbM w d v2 v3 v4 k bl) : ∀ g ∈ bl, g < w.heap.size := by
  obtain ⟨bl2, bl3, bl4, rfl, h2, h3, h4⟩ := h
  intro g hg
  simp only [List.mem_append] at hg
  rcases hg with hg | hg | hg
  · exact h2.lt g hg
  · exact h3.lt g hg
  · exact h4.lt g hg
theorem TbM.below {w w' : World} {d : Tb} {v2 v3 v4 : Value} {k : Nat} {bl : List Nat} (h : TbM w d v2 v3 v4 k bl) (hb : Below w.heap.size w w') : TbM w' d v2 v3 v4 k bl := h.keep fun g hg => hb.block g (h.lt g hg)
/-- How many marks it takes. -/
def TbNv (d : Tb) : Nat := (TgSn d.targets d.targets.length) + (IISn d.dist d.dist.length) + (IISn d.hop d.hop.length)
end Go.Proofs.YteicpjbeihabnaaDoor

namespace Go.Proofs.YteicpjbeihabnaaDoor
open Go.RowKit

theorem toI_f {w : World} {v : Value} {s : List Int} (hs : s.length ≤ 1048576) (h : IS w v s) :
    Calls Tryd.prog 67 #[v] w fun e w' => ∃ v' bl, e = .returned v' ∧ IF w' v' s bl ∧ Fr w w' bl ∧ Below w.heap.size w w' :=
  (toI_row v s w hs h).mono fun _ _ ⟨⟨c, he, _⟩, hlt, hf, hc, hb⟩ => ⟨_, _, he, ⟨_, w.heap.size, 0, c, rfl, fun _ => rfl, rfl, fun j hj => by rw [Nat.zero_add]; exact ⟨hc j hj, hf j⟩⟩, Fr.one (Nat.le_refl _) hlt _, hb⟩
end Go.Proofs.YteicpjbeihabnaaDoor
