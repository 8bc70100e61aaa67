/-
  Blocks of lists; runs of cells that are written.
  A Graph with its blocks; marked.
  toIntS with its block.
  toIntS with its block, and room for all that it holds.
-/
import Derived.Test.YtochfhoaiekioaaJRtMK
import Derived.Test.YtochfhoaiekioaaJRtGr0
namespace Go.Proofs.Ytochfhoaiekioaa
open Go.RowKit

theorem flat_split {n : Nat} {NB : Nat → List Nat} (h : ((List.range n).map NB).flatten.Nodup) : (∀ i, i < n → (NB i).Nodup) ∧ ∀ i j, i < n → j < n → i ≠ j → ∀ g, g ∈ NB i → g ∉ NB j := by
  induction n with
  | zero => exact ⟨fun i hi => absurd hi (Nat.not_lt_zero _), fun i j hi => absurd hi (Nat.not_lt_zero _)⟩
  | succ n ih =>
    rw [List.range_succ, List.map_append, List.flatten_append, List.nodup_append] at h
    obtain ⟨h1, h2, h3⟩ := h
    obtain ⟨i1, i2⟩ := ih h1
    have hs : ([n].map NB).flatten = NB n := by simp
    rw [hs] at h2 h3
    have hm : ∀ i, i < n → ∀ g, g ∈ NB i → g ∈ ((List.range n).map NB).flatten := fun i hi g hg => List.mem_flatten.2 ⟨NB i, List.mem_map.2 ⟨i, List.mem_range.2 hi, rfl⟩, hg⟩
    refine ⟨fun i hi => ?_, fun i j hi hj hne g hg hg' => ?_⟩
    · by_cases e : i = n
      · rw [e]; exact h2
      · exact i1 i (by omega)
    · by_cases e : i = n
      · subst e
        exact h3 g (hm j (by omega) g hg') g hg rfl
      · by_cases e' : j = n
        · subst e'
          exact h3 g (hm i (by omega) g hg) g hg' rfl
        · exact i2 i j (by omega) (by omega) hne g hg hg'
theorem mem_flat {n : Nat} {NB : Nat → List Nat} {i g : Nat} (hi : i < n) (hg : g ∈ NB i) : g ∈ ((List.range n).map NB).flatten := List.mem_flatten.2 ⟨NB i, List.mem_map.2 ⟨i, List.mem_range.2 hi, rfl⟩, hg⟩
theorem of_mem_flat {n : Nat} {NB : Nat → List Nat} {g : Nat} (h : g ∈ ((List.range n).map NB).flatten) : ∃ i, i < n ∧ g ∈ NB i := by
  obtain ⟨l, h1, h2⟩ := List.mem_flatten.1 h
  obtain ⟨i, h3, rfl⟩ := List.mem_map.1 h1
  exact ⟨i, List.mem_range.1 h3, h2⟩
/-- Cells of a block are written, one behind another. -/
def setRun (w : World) (b : Nat) : Nat → List Value → World
  | _, [] => w
  | p, u :: us => setRun (w.setCell ⟨b, p, none⟩ u) b (p + 1) us
theorem setRun_size (b : Nat) : ∀ (us : List Value) (w : World) (p : Nat), (setRun w b p us).heap.size = w.heap.size
  | [], _, _ => rfl
  | _ :: us, _, _ => (setRun_size b us _ _).trans (World.size_setCell _ _ _)
theorem setRun_blk {b g : Nat} (hg : g ≠ b) : ∀ (us : List Value) (w : World) (p : Nat), (setRun w b p us).heap[g]? = w.heap[g]?
  | [], _, _ => rfl
  | _ :: us, _, _ => (setRun_blk hg us _ _).trans (Below.heap_setCell _ _ _ _ hg)
theorem setRun_fz (b : Nat) (q : Addr) : ∀ (us : List Value) (w : World) (p : Nat), (setRun w b p us).frozen? q = w.frozen? q
  | [], _, _ => rfl
  | _ :: us, _, _ => (setRun_fz b q us _ _).trans (World.frozen?_setCell ..)
theorem setRun_os (b : Nat) : ∀ (us : List Value) (w : World) (p : Nat), (setRun w b p us).os = w.os ∧ (setRun w b p us).tape = w.tape ∧ (setRun w b p us).output = w.output
  | [], _, _ => ⟨rfl, rfl, rfl⟩
  | u :: us, w, p => setRun_os b us (w.setCell ⟨b, p, none⟩ u) (p + 1)
theorem setRun_cell {b : Nat} : ∀ (us : List Value) (w : World) (p : Nat), (∀ j, j < us.length → ∃ v, w.cell? ⟨b, p + j, none⟩ = some v) → ∀ j, (setRun w b p us).cell? ⟨b, j, none⟩ = if p ≤ j ∧ j < p + us.length then us[j - p]? else w.cell? ⟨b, j, none⟩
  | [], w, p, _, j => by rw [if_neg (by simp)]; rfl
  | u :: us, w, p, h, j => by
    obtain ⟨v0, h0⟩ := h 0 (by simp)
    rw [Nat.add_zero] at h0
    have hs : ∀ i, (w.setCell ⟨b, p, none⟩ u).cell? ⟨b, i, none⟩ = if i = p then some u else w.cell? ⟨b, i, none⟩ := fun i => by
      by_cases e : i = p
      · subst e; rw [if_pos rfl]; exact World.cell?_setCell_same _ _ _ h0
      · rw [if_neg e]; exact World.cell?_setCell_other _ _ _ _ (fun h => e (by have := congrArg Addr.off h; exact this.symm))
    show (setRun (w.setCell ⟨b, p, none⟩ u) b (p + 1) us).cell? ⟨b, j, none⟩ = _
    rw [setRun_cell us _ (p + 1) (fun i hi => by
      obtain ⟨v, hv⟩ := h (i + 1) (by simp; omega)
      refine ⟨v, ?_⟩
      rw [hs, if_neg (by omega), ← hv]
      congr 2
      omega) j, hs j]
    by_cases e : j = p
    · subst e
      rw [if_neg (by omega), if_pos rfl, if_pos (by simp), Nat.sub_self]
      rfl
    · by_cases c : p + 1 ≤ j ∧ j < p + 1 + us.length
      · rw [if_pos c, if_pos (by simp; omega)]
        obtain ⟨q, rfl⟩ : ∃ q, j = p + 1 + q := ⟨j - (p + 1), by omega⟩
        rw [show p + 1 + q - (p + 1) = q by omega, show p + 1 + q - p = q + 1 by omega]
        rfl
      · rw [if_neg c, if_neg e, if_neg (by simp; omega)]
theorem setRun_at {b : Nat} {us : List Value} {w : World} {p i : Nat} {u : Value} (h : ∀ j, j < us.length → ∃ v, w.cell? ⟨b, p + j, none⟩ = some v) (hi : i < us.length) (hu : us[i]? = some u) : (setRun w b p us).cell? ⟨b, p + i, none⟩ = some u := by
  rw [setRun_cell us w p h, if_pos (by omega), show p + i - p = i by omega, hu]
theorem setRun_off {b : Nat} {us : List Value} {w : World} {p j : Nat} (h : ∀ j, j < us.length → ∃ v, w.cell? ⟨b, p + j, none⟩ = some v) (hj : j < p ∨ p + us.length ≤ j) : (setRun w b p us).cell? ⟨b, j, none⟩ = w.cell? ⟨b, j, none⟩ := by
  rw [setRun_cell us w p h, if_neg (by omega)]
theorem setRun_wrs {b p : Nat} {us : List Value} {w w' : World} {bl : List Nat} (h : Wrs bl w w') (hb : b ∈ bl) : Wrs bl w (setRun w' b p us) :=
  ⟨(setRun_os b us w' p).1.trans h.os, (setRun_os b us w' p).2.1.trans h.tape, (setRun_os b us w' p).2.2.trans h.output, by rw [setRun_size]; exact h.size, fun g hg ho => (setRun_blk (fun e => ho (by rw [e]; exact hb)) us w' p).trans (h.blk g hg ho)⟩
end Go.Proofs.Ytochfhoaiekioaa

namespace Go.Proofs.Ytochfhoaiekioaa
open Go.RowKit

/-- It reads as d; its blocks. -/
def GrF (w : World) (d : Gr) (v1 v2 v3 v4 : Value) (bl : List Nat) : Prop := ∃ bl1 bl2 bl3 bl4, bl = bl1 ++ (bl2 ++ (bl3 ++ (bl4))) ∧ IF w v1 d.start bl1 ∧ IF w v2 d.to bl2 ∧ IF w v3 d.dir bl3 ∧ IF w v4 d.cost bl4
theorem GrF.rd {w : World} {d : Gr} {v1 v2 v3 v4 : Value} {bl : List Nat} (h : GrF w d v1 v2 v3 v4 bl) : GrV w d v1 v2 v3 v4 := by
  obtain ⟨bl1, bl2, bl3, bl4, _, h1, h2, h3, h4⟩ := h
  exact ⟨h1.rd, h2.rd, h3.rd, h4.rd⟩
theorem GrF.keep {w w' : World} {d : Gr} {v1 v2 v3 v4 : Value} {bl : List Nat} (h : GrF w d v1 v2 v3 v4 bl) (hk : ∀ g ∈ bl, w'.heap[g]? = w.heap[g]?) : GrF w' d v1 v2 v3 v4 bl := by
  obtain ⟨bl1, bl2, bl3, bl4, rfl, h1, h2, h3, h4⟩ := h
  exact ⟨_, _, _, _, rfl, h1.keep (fun g hg => hk g (List.mem_append_left _ hg)), h2.keep (fun g hg => hk g (List.mem_append_right _ (List.mem_append_left _ hg))), h3.keep (fun g hg => hk g (List.mem_append_right _ (List.mem_append_right _ (List.mem_append_left _ hg)))), h4.keep (fun g hg => hk g (List.mem_append_right _ (List.mem_append_right _ (List.mem_append_right _ (hg)))))⟩
theorem GrF.lt {w : World} {d : Gr} {v1 v2 v3 v4 : Value} {bl : List Nat} (h : GrF w d v1 v2 v3 v4 bl) : ∀ g ∈ bl, g < w.heap.size := by
  obtain ⟨bl1, bl2, bl3, bl4, rfl, h1, h2, h3, h4⟩ := h
  intro g hg
  simp only [List.mem_append] at hg
  rcases hg with hg | hg | hg | hg
  · exact h1.lt g hg
  · exact h2.lt g hg
  · exact h3.lt g hg
  · exact h4.lt g hg
theorem GrF.below {w w' : World} {d : Gr} {v1 v2 v3 v4 : Value} {bl : List Nat} (h : GrF w d v1 v2 v3 v4 bl) (hb : Below w.heap.size w w') : GrF w' d v1 v2 v3 v4 bl := h.keep fun g hg => hb.block g (h.lt g hg)
/-- It is marked from k on; its blocks. -/
def GrM (w : World) (d : Gr) (v1 v2 v3 v4 : Value) (k : Nat) (bl : List Nat) : Prop := ∃ bl1 bl2 bl3 bl4, bl = bl1 ++ (bl2 ++ (bl3 ++ (bl4))) ∧ IM w v1 (d.start.length) (k) bl1 ∧ IM w v2 (d.to.length) (k + d.start.length) bl2 ∧ IM w v3 (d.dir.length) (k + d.start.length + d.to.length) bl3 ∧ IM w v4 (d.cost.length) (k + d.start.length + d.to.length + d.dir.length) bl4
theorem GrM.keep {w w' : World} {d : Gr} {v1 v2 v3 v4 : Value} {k : Nat} {bl : List Nat} (h : GrM w d v1 v2 v3 v4 k bl) (hk : ∀ g ∈ bl, w'.heap[g]? = w.heap[g]?) : GrM w' d v1 v2 v3 v4 k bl := by
  obtain ⟨bl1, bl2, bl3, bl4, rfl, h1, h2, h3, h4⟩ := h
  exact ⟨_, _, _, _, rfl, h1.keep (fun g hg => hk g (List.mem_append_left _ hg)), h2.keep (fun g hg => hk g (List.mem_append_right _ (List.mem_append_left _ hg))), h3.keep (fun g hg => hk g (List.mem_append_right _ (List.mem_append_right _ (List.mem_append_left _ hg)))), h4.keep (fun g hg => hk g (List.mem_append_right _ (List.mem_append_right _ (List.mem_append_right _ (hg)))))⟩
theorem GrM.lt {w : World} {d : Gr} {v1 v2 v3 v4 : Value} {k : Nat} {bl : List Nat} (h : GrM w d v1 v2 v3 v4 k bl) : ∀ g ∈ bl, g < w.heap.size := by
  obtain ⟨bl1, bl2, bl3, bl4, rfl, h1, h2, h3, h4⟩ := h
  intro g hg
  simp only [List.mem_append] at hg
  rcases hg with hg | hg | hg | hg
  · exact h1.lt g hg
  · exact h2.lt g hg
  · exact h3.lt g hg
  · exact h4.lt g hg
theorem GrM.below {w w' : World} {d : Gr} {v1 v2 v3 v4 : Value} {k : Nat} {bl : List Nat} (h : GrM w d v1 v2 v3 v4 k bl) (hb : Below w.heap.size w w') : GrM w' d v1 v2 v3 v4 k bl := h.keep fun g hg => hb.block g (h.lt g hg)
/-- How many marks it takes. -/
def GrNv (d : Gr) : Nat := d.start.length + d.to.length + d.dir.length + d.cost.length
end Go.Proofs.Ytochfhoaiekioaa

namespace Go.Proofs.Ytochfhoaiekioaa
open Go.RowKit

theorem toI_f {w : World} {v : Value} {s : List Int} (hs : s.length ≤ 1048576) (h : IS w v s) :
    Calls Try.prog 20 #[v] w fun e w' => ∃ v' bl, e = .returned v' ∧ IF w' v' s bl ∧ Fr w w' bl ∧ Below w.heap.size w w' :=
  (toI_row v s w hs h).mono fun _ _ ⟨⟨c, he, _⟩, hlt, hf, hc, hb⟩ => ⟨_, _, he, ⟨_, w.heap.size, 0, c, rfl, fun _ => rfl, rfl, fun j hj => by rw [Nat.zero_add]; exact ⟨hc j hj, hf j⟩⟩, Fr.one (Nat.le_refl _) hlt _, hb⟩
end Go.Proofs.Ytochfhoaiekioaa

namespace Go.Proofs.Ytochfhoaiekioaa
open Go.RowKit

/-- A slice is no longer than its capacity. -/
def Cp : Value → Prop
  | .slice _ n c => n ≤ c
  | _ => False
theorem toI_fc {w : World} {v : Value} {s : List Int} (hs : s.length ≤ 1048576) (h : IS w v s) :
    Calls Try.prog 20 #[v] w fun e w' => ∃ v' bl, e = .returned v' ∧ IF w' v' s bl ∧ Fr w w' bl ∧ Below w.heap.size w w' ∧ Cp v' :=
  (toI_row v s w hs h).mono fun _ _ ⟨⟨c, he, hcp⟩, hlt, hf, hc, hb⟩ => ⟨_, _, he, ⟨_, w.heap.size, 0, c, rfl, fun _ => rfl, rfl, fun j hj => by rw [Nat.zero_add]; exact ⟨hc j hj, hf j⟩⟩, Fr.one (Nat.le_refl _) hlt _, hb, hcp⟩
end Go.Proofs.Ytochfhoaiekioaa
