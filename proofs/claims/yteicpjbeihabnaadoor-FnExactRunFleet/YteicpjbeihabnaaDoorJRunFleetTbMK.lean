/-
  The walk of markTables.
  Robots in memory.
-/
import Derived.Test.YteicpjbeihabnaaDoorJRunFleetTgSF
import Derived.Test.YteicpjbeihabnaaDoorJRunFleetMKI
import Derived.Test.YteicpjbeihabnaaDoorJRunFleetTgSMK
import Derived.Test.YteicpjbeihabnaaDoorJRunFleetMK
namespace Go.Proofs.YteicpjbeihabnaaDoor
open Go.RowKit

set_option maxHeartbeats 4000000 in
set_option maxRecDepth 1000000 in
theorem markTb_f {w : World} {d : Tb} {v2 v3 v4 : Value} {bl : List Nat} {k : Nat} (hb : TbB d) (hk : k ≤ 100000000000000) (h : TbF w d v2 v3 v4 bl) (hN : bl.Nodup) :
    Calls Tryd.prog 21 #[tbagg d v2 v3 v4, .int .i64 (k : Nat)] w fun e w' => e = .returned (.int .i64 (k + TbNv d : Nat)) ∧ TbM w' d v2 v3 v4 k bl ∧ Wrs bl w w' := by
  obtain ⟨x0, x1, x2, x3, x4⟩ := d
  have hb2 := hb.targets
  have hb3 := hb.dist
  have hb4 := hb.hop
  simp only at hb2 hb3 hb4
  have HNV : Hid (TbNv ⟨x0, x1, x2, x3, x4⟩ = (TgSn x2 x2.length) + (IISn x3 x3.length) + (IISn x4 x4.length)) := rfl
  have hc2 : (TgSn x2 x2.length) ≤ 2000000000000 := by have := TgSn_le hb2 _ (Nat.le_refl _); have := hb2.len; omega
  have hc3 : (IISn x3 x3.length) ≤ 2000000000000 := by have := IISn_le hb3 _ (Nat.le_refl _); have := hb3.len; omega
  have hc4 : (IISn x4 x4.length) ≤ 2000000000000 := by have := IISn_le hb4 _ (Nat.le_refl _); have := hb4.len; omega
  obtain ⟨bl2, bl3, bl4, hbl, h2, h3, h4⟩ := h
  simp only at h2 h3 h4
  obtain ⟨a2, c2, e2⟩ := h2.slice
  obtain ⟨a3, c3, e3⟩ := h3.slice
  obtain ⟨a4, c4, e4⟩ := h4.slice
  subst e2 e3 e4
  rw [hbl] at hN
  simp only [List.nodup_append, List.mem_append] at hN
  obtain ⟨nd2, ⟨nd3, nd4, dj3⟩, dj2⟩ := hN
  have D2_3 : Hid (∀ g, g ∈ bl3 → g ∉ bl2) := fun g hg hg2 => dj2 g hg2 g (.inl hg) rfl
  have D2_4 : Hid (∀ g, g ∈ bl4 → g ∉ bl2) := fun g hg hg2 => dj2 g hg2 g (.inr (hg)) rfl
  have D3_4 : Hid (∀ g, g ∈ bl4 → g ∉ bl3) := fun g hg hg2 => dj3 g hg2 g (hg) rfl
  have HBL := hide hbl
  clear hbl hb dj2 dj3
  unfold tbagg
  simp only
  obtain ⟨W0, hW0⟩ : ∃ W, w.alloc (.cells #[.int .i64 x0, .int .i64 x1, .slice a2 (x2.length) c2, .slice a3 (x3.length) c3, .slice a4 (x4.length) c4] 31) = W := ⟨_, rfl⟩
  have HB0 : Hid (Below w.heap.size w W0) := by rw [← hW0]; exact (Below.refl _ _).alloc (Nat.le_refl _) _
  have HA0 : Hid (Blk W0 w.heap.size 31 #[.int .i64 x0, .int .i64 x1, .slice a2 (x2.length) c2, .slice a3 (x3.length) c3, .slice a4 (x4.length) c4]) := by rw [← hW0]; exact Blk.new _ _ _
  have HZ : Hid ((∀ g ∈ bl2, g < w.heap.size) ∧ (∀ g ∈ bl3, g < w.heap.size) ∧ (∀ g ∈ bl4, g < w.heap.size)) := ⟨h2.lt, h3.lt, h4.lt⟩
  have H2_0 := hide (h2.below HB0.out)
  have H3_0 := hide (h3.below HB0.out)
  have H4_0 := hide (h4.below HB0.out)
  have HW := hide hW0
  clear hW0 h2 h3 h4
  go_enter Tryd.func21, Tryd.ntmps21
  go_wp2_with fail
  rw [HW.out]
  clear HW
  refine (markTgS_f (w := W0) (k := k) hb2 (by omega) H2_0.out nd2).mono ?_
  rintro e w2 ⟨rfl, hm2, hw2⟩
  have HM2_2 := hide hm2
  have HWR2 := hide hw2
  have hbx2 : w2.heap[w.heap.size]? = W0.heap[w.heap.size]? := hw2.blk _ HA0.out.lt (fun hm => Nat.lt_irrefl _ (HZ.out.1 _ hm))
  have HA2 : Hid (Blk w2 w.heap.size 31 #[.int .i64 x0, .int .i64 x1, .slice a2 (x2.length) c2, .slice a3 (x3.length) c3, .slice a4 (x4.length) c4]) := hbx2.trans HA0.out
  have H3_2 := hide (H3_0.out.keep (fun g hg => hw2.blk g (H3_0.out.lt g hg) (D2_3.out g hg)))
  have H4_2 := hide (H4_0.out.keep (fun g hg => hw2.blk g (H4_0.out.lt g hg) (D2_4.out g hg)))
  have HT2 : Hid (Wrs (bl2) W0 w2) := hw2
  clear hm2 hw2 hbx2
  obtain ⟨k2, hk2⟩ : ∃ k2, k + (TgSn x2 x2.length) = k2 := ⟨_, rfl⟩
  rw [hk2]
  have HK2 := hide hk2
  have hkb2 : k2 ≤ 103000000000000 := by omega
  clear hk2
  have z3 := HA2.out.cell 3
  simp only [List.getElem?_toArray, List.getElem?_cons_succ, List.getElem?_cons_zero] at z3
  go_wp2_with fail
  clear z3
  refine (markIIS_f (w := w2) (k := k2) hb3 (by omega) H3_2.out nd3).mono ?_
  rintro e w3 ⟨rfl, hm3, hw3⟩
  have HM3_3 := hide hm3
  have HWR3 := hide hw3
  have hbx3 : w3.heap[w.heap.size]? = w2.heap[w.heap.size]? := hw3.blk _ HA2.out.lt (fun hm => Nat.lt_irrefl _ (HZ.out.2.1 _ hm))
  have HA3 : Hid (Blk w3 w.heap.size 31 #[.int .i64 x0, .int .i64 x1, .slice a2 (x2.length) c2, .slice a3 (x3.length) c3, .slice a4 (x4.length) c4]) := hbx3.trans HA2.out
  have H4_3 := hide (H4_2.out.keep (fun g hg => hw3.blk g (H4_2.out.lt g hg) (D3_4.out g hg)))
  have HM2_3 := hide (HM2_2.out.keep (fun g hg => hw3.blk g (HM2_2.out.lt g hg) (fun h => D2_3.out g h hg)))
  clear hm3 hw3 hbx3
  obtain ⟨k3, hk3⟩ : ∃ k3, k2 + (IISn x3 x3.length) = k3 := ⟨_, rfl⟩
  rw [hk3]
  have HK3 := hide hk3
  have hkb3 : k3 ≤ 106000000000000 := by omega
  clear hk3
  have z4 := HA3.out.cell 4
  simp only [List.getElem?_toArray, List.getElem?_cons_succ, List.getElem?_cons_zero] at z4
  go_wp2_with fail
  clear z4
  refine (markIIS_f (w := w3) (k := k3) hb4 (by omega) H4_3.out nd4).mono ?_
  rintro e w4 ⟨rfl, hm4, hw4⟩
  have HM4_4 := hide hm4
  have HWR4 := hide hw4
  have hbx4 : w4.heap[w.heap.size]? = w3.heap[w.heap.size]? := hw4.blk _ HA3.out.lt (fun hm => Nat.lt_irrefl _ (HZ.out.2.2 _ hm))
  have HA4 : Hid (Blk w4 w.heap.size 31 #[.int .i64 x0, .int .i64 x1, .slice a2 (x2.length) c2, .slice a3 (x3.length) c3, .slice a4 (x4.length) c4]) := hbx4.trans HA3.out
  have HM2_4 := hide (HM2_3.out.keep (fun g hg => hw4.blk g (HM2_3.out.lt g hg) (fun h => D2_4.out g h hg)))
  have HM3_4 := hide (HM3_3.out.keep (fun g hg => hw4.blk g (HM3_3.out.lt g hg) (fun h => D3_4.out g h hg)))
  clear hm4 hw4 hbx4
  obtain ⟨k4, hk4⟩ : ∃ k4, k3 + (IISn x4 x4.length) = k4 := ⟨_, rfl⟩
  rw [hk4]
  have HK4 := hide hk4
  have hkb4 : k4 ≤ 109000000000000 := by omega
  clear hk4
  go_wp2
  go_ret
  have HT : Hid (Wrs (bl2 ++ (bl3 ++ (bl4))) w w4) := by
    exact ((((Wrs.of_below HB0.out).trans (HWR2.out.mono (fun g hg => List.mem_append_left _ hg))).trans (HWR3.out.mono (fun g hg => List.mem_append_right _ (List.mem_append_left _ hg)))).trans (HWR4.out.mono (fun g hg => List.mem_append_right _ (List.mem_append_right _ (hg)))))
  refine ⟨?_, ⟨bl2, bl3, bl4, HBL.out, ?_, ?_, ?_⟩, by rw [HBL.out]; exact HT.out⟩
  · have e2 := HK2.out; have e3 := HK3.out; have e4 := HK4.out
    have ek : k + TbNv ⟨x0, x1, x2, x3, x4⟩ = k4 := by rw [HNV.out]; omega
    rw [ek]
    rfl
  · exact HM2_4.out
  · have e2 := HK2.out
    have ek : k + (TgSn x2 x2.length) = k2 := by omega
    simp only
    rw [ek]
    exact HM3_4.out
  · have e2 := HK2.out; have e3 := HK3.out
    have ek : k + (TgSn x2 x2.length) + (IISn x3 x3.length) = k3 := by omega
    simp only
    rw [ek]
    exact HM4_4.out
end Go.Proofs.YteicpjbeihabnaaDoor

namespace Go.Proofs.YteicpjbeihabnaaDoor
open Go.RowKit

/-- A Robot. -/
structure Ro where
  cell : Int
  target : Int
  moves : Int
  waits : Int
  done : Bool
def Ro.zero : Ro := ⟨0, 0, 0, 0, false⟩
/-- Its value. -/
def roagg (d : Ro) : Value := .agg #[.int .i64 d.cell, .int .i64 d.target, .int .i64 d.moves, .int .i64 d.waits, .bool d.done]
/-- The cells of one. -/
structure RoC (w : World) (b p : Nat) (d : Ro) : Prop where
  cell : w.cell? ⟨b, p, none⟩ = some (.int .i64 d.cell)
  target : w.cell? ⟨b, p + 1, none⟩ = some (.int .i64 d.target)
  moves : w.cell? ⟨b, p + 2, none⟩ = some (.int .i64 d.moves)
  waits : w.cell? ⟨b, p + 3, none⟩ = some (.int .i64 d.waits)
  done : w.cell? ⟨b, p + 4, none⟩ = some (.bool d.done)
theorem RoC.below {w w' : World} {b p : Nat} {d : Ro} (h : RoC w b p d) (hb : Below w.heap.size w w') : RoC w' b p d := ⟨cell_kept h.cell hb, cell_kept h.target hb, cell_kept h.moves hb, cell_kept h.waits hb, cell_kept h.done hb⟩
theorem RoC.of_eq {w w' : World} {b p : Nat} {d : Ro} (h : RoC w b p d) (he : ∀ j, w'.cell? ⟨b, j, none⟩ = w.cell? ⟨b, j, none⟩) : RoC w' b p d := ⟨(he _).trans h.cell, (he _).trans h.target, (he _).trans h.moves, (he _).trans h.waits, (he _).trans h.done⟩
/-- A slice of them reads as L. -/
def RoS (w : World) (v : Value) (L : List Ro) : Prop := ∃ a b o c, v = .slice a L.length c ∧ (0 < L.length → a = some ⟨b, o, none⟩) ∧ ∀ j, j < L.length → RoC w b (o + j * 5) (L.getD j .zero)
theorem RoS.below {w w' : World} {v : Value} {L : List Ro} (h : RoS w v L) (hb : Below w.heap.size w w') : RoS w' v L := by
  obtain ⟨a, b, o, c, h1, h2, h3⟩ := h
  exact ⟨a, b, o, c, h1, h2, fun j hj => (h3 j hj).below hb⟩
theorem RoS.slice {w : World} {v : Value} {L : List Ro} (h : RoS w v L) : ∃ a c, v = .slice a L.length c := by
  obtain ⟨a, _, _, c, h1, _⟩ := h; exact ⟨a, c, h1⟩
/-- No nil slice with room. -/
def Nn (v : Value) : Prop := ∀ n c, v = .slice none n c → c = 0
/-- .. with its block. -/
def RoF (w : World) (v : Value) (L : List Ro) (bl : List Nat) : Prop := ∃ a b o c, v = .slice a L.length c ∧ (0 < L.length → a = some ⟨b, o, none⟩) ∧ bl = (if 0 < L.length then [b] else []) ∧ (∀ j, j < L.length * 5 → w.frozen? ⟨b, o + j, none⟩ = false) ∧ ∀ j, j < L.length → RoC w b (o + j * 5) (L.getD j .zero)
theorem RoF.rd {w : World} {v : Value} {L : List Ro} {bl : List Nat} (h : RoF w v L bl) : RoS w v L := by
  obtain ⟨a, b, o, c, h1, h2, _, _, h3⟩ := h
  exact ⟨a, b, o, c, h1, h2, h3⟩
theorem RoF.slice {w : World} {v : Value} {L : List Ro} {bl : List Nat} (h : RoF w v L bl) : ∃ a c, v = .slice a L.length c := by
  obtain ⟨a, _, _, c, h1, _⟩ := h; exact ⟨a, c, h1⟩
theorem RoF.lt {w : World} {v : Value} {L : List Ro} {bl : List Nat} (h : RoF w v L bl) : ∀ g ∈ bl, g < w.heap.size := by
  obtain ⟨a, b, o, c, h1, h2, rfl, _, h3⟩ := h
  intro g hg
  by_cases hz : 0 < L.length
  · rw [if_pos hz] at hg
    obtain rfl := List.mem_singleton.1 hg
    exact World.block_lt_of_cell? _ _ (h3 0 hz).cell
  · rw [if_neg hz] at hg; cases hg
theorem RoF.keep {w w' : World} {v : Value} {L : List Ro} {bl : List Nat} (h : RoF w v L bl) (hk : ∀ g ∈ bl, w'.heap[g]? = w.heap[g]?) : RoF w' v L bl := by
  obtain ⟨a, b, o, c, h1, h2, rfl, hf, h3⟩ := h
  have hb : 0 < L.length → w'.heap[b]? = w.heap[b]? := fun hz => hk b (by rw [if_pos hz]; exact List.mem_singleton.2 rfl)
  refine ⟨a, b, o, c, h1, h2, rfl, fun j hj => ?_, fun j hj => ?_⟩
  · exact (World.frozen?_of_block (w := w) (a := ⟨b, o + j, none⟩) (hb (by omega))).trans (hf j hj)
  · exact (h3 j hj).of_eq (fun j' => World.cell?_of_block (w := w) (a := ⟨b, j', none⟩) (hb (by omega)))
theorem RoF.below {w w' : World} {v : Value} {L : List Ro} {bl : List Nat} (h : RoF w v L bl) (hb : Below w.heap.size w w') : RoF w' v L bl := h.keep fun g hg => hb.block g (h.lt g hg)
/-- Its length is one that an int holds; its numbers are in their range. -/
structure RoL (L : List Ro) : Prop where
  len : (L.length : Int) ≤ 9223372036854775807
  cell : ∀ j, j < L.length → W64 (L.getD j .zero).cell
  target : ∀ j, j < L.length → W64 (L.getD j .zero).target
  moves : ∀ j, j < L.length → W64 (L.getD j .zero).moves
  waits : ∀ j, j < L.length → W64 (L.getD j .zero).waits
end Go.Proofs.YteicpjbeihabnaaDoor
