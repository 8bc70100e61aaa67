/-
  The walk of eqTargetS, where both read as the same.
  The walk of eqLayout, where both read as the same.
  A Target with its blocks; marked.
  Lists of Target with their blocks; marked.
  A Layout with its blocks; marked.
  markIntS at any slice.
-/
import Derived.Test.YtijdlbanfdhfnaaGreatDoorJDnTg0
import Derived.BigQuiet
import Derived.Deep.QuietTactic
import Derived.Deep.RegionWith
import Derived.Test.YtijdlbanfdhfnaaGreatDoorJDnFL
import Derived.Test.YtijdlbanfdhfnaaGreatDoorJDnDc2
namespace Go.Proofs.YtijdlbanfdhfnaaGreatDoor
open Go.RowKit

set_option maxHeartbeats 2000000 in
set_option maxRecDepth 1000000 in
theorem eqTgS_same {w : World} {v1 v2 : Value} {L : List Tg} (hs : TgSB L) (h1 : TgS w v1 L) (h2 : TgS w v2 L) :
    Calls Tryz.prog 31 #[v1, v2] w fun e w' => e = .returned (.bool true) ∧ Below w.heap.size w w' := by
  obtain ⟨a1, b1, o1, c1, rfl, ha1, hc1⟩ := h1
  obtain ⟨a2, b2, o2, c2, rfl, ha2, hc2⟩ := h2
  obtain ⟨hs, hz⟩ := hs
  have HC1 := hide hc1
  have HC2 := hide hc2
  have HZ := hide hz
  clear hc1 hc2 hz
  have hne : ((L.length : Int) != (L.length : Int)) = false := by simp
  have hmx : Tryz.prog.follows .mixedOrders = true := by kernel_rfl
  go_enter Tryz.func31, Tryz.ntmps31
  go_wp2
  go_loopw [5] (fun i wr => ∃ k : Nat, k ≤ L.length ∧ i = .int .i64 k ∧ Below w.heap.size w wr) (fun i _ => L.length - (intOf i).toNat)
  case atStart => exact ⟨0, Nat.zero_le _, rfl, Below.refl _ _⟩
  case round =>
    obtain ⟨k, hk, rfl, hb⟩ := hrel
    have HB := hide hb
    by_cases hlt : k < L.length
    · obtain rfl := ha1 (by omega)
      obtain rfl := ha2 (by omega)
      obtain ⟨p0, q1_, p1_⟩ := HC1.out k hlt
      obtain ⟨q0, q2_, p2_⟩ := HC2.out k hlt
      have hzk := HZ.out k hlt
      obtain ⟨d, hd⟩ : ∃ d, L.getD k .zero = d := ⟨_, rfl⟩
      rw [hd] at p1_ p2_ hzk q1_ q2_
      have HE := hide (eqTg_same (w := wr.drew) hzk (p1_.below hb.drew) (p2_.below hb.drew))
      obtain ⟨g0, g1, g2⟩ := q1_.below hb
      obtain ⟨f0, f1, f2⟩ := q2_.below hb
      unfold tgagg at HE
      obtain ⟨x0, x1, x2⟩ := d
      simp only at HE g1 f1 g2 f2
      have hbs := hb.size
      have hlti : (k : Int) < (L.length : Int) := by omega
      clear hb q1_ q2_ p1_ p2_ hd hzk
      go_wp2_with fail
      go_region_with (go_at_call 62; refine HE.out.mono ?_; rintro e w1 ⟨rfl, hb1⟩)
      all_goals have HB1 : Hid (Below w.heap.size w w1) := HB.out.drew.trans (hb1.mono hbs)
      all_goals clear hb1
      all_goals go_wp2
      all_goals
        go_roundw
        case rel => exact ⟨k + 1, by omega, by go_num, HB1.out⟩
        case measure => simp [intOf]; omega
    · have hge : ¬ (k : Int) < (L.length : Int) := by omega
      clear hb
      go_wp2
      go_ret
      exact ⟨rfl, HB.out⟩
end Go.Proofs.YtijdlbanfdhfnaaGreatDoor

namespace Go.Proofs.YtijdlbanfdhfnaaGreatDoor
open Go.RowKit

set_option maxHeartbeats 2000000 in
set_option maxRecDepth 1000000 in
theorem eqLy_same {w : World} {d : Ly} {p2 p3 p4 q2 q3 q4 : Value} (hb : LyB d) (h1 : LyV w d p2 p3 p4) (h2 : LyV w d q2 q3 q4) :
    Calls Tryz.prog 8 #[lyagg d p2 p3 p4, lyagg d q2 q3 q4] w fun e w' => e = .returned (.bool true) ∧ Below w.heap.size w w' := by
  obtain ⟨x0, x1, x2, x3, x4⟩ := d
  have e0 : (x0 != x0) = false := by simp
  have e1 : (x1 != x1) = false := by simp
  have HB := hide hb
  have H1 := hide h1
  have H2 := hide h2
  clear hb h1 h2
  unfold lyagg
  simp only
  obtain ⟨W0, hW0⟩ : ∃ W, (w.alloc (.cells #[.int .i64 x0, .int .i64 x1, p2, p3, p4] 27)).alloc (.cells #[.int .i64 x0, .int .i64 x1, q2, q3, q4] 27) = W := ⟨_, rfl⟩
  have hb0 : Below w.heap.size w W0 := by rw [← hW0]; exact ((Below.refl _ _).alloc (Nat.le_refl _) _).alloc (by simp) _
  have hA : Blk W0 w.heap.size 27 #[.int .i64 x0, .int .i64 x1, p2, p3, p4] := by rw [← hW0]; exact (Blk.new _ _ _).alloc _
  have hC : Blk W0 (w.heap.size + 1) 27 #[.int .i64 x0, .int .i64 x1, q2, q3, q4] := by
    rw [← hW0]
    have := Blk.new (w.alloc (.cells #[.int .i64 x0, .int .i64 x1, p2, p3, p4] 27)) 27 #[.int .i64 x0, .int .i64 x1, q2, q3, q4]
    simpa using this
  have HA0 := hide hA
  have HC0 := hide hC
  have HB0 := hide hb0
  have HW := hide hW0
  clear hA hC hb0 hW0
  go_enter Tryz.func8, Tryz.ntmps8
  go_wp2_with fail
  rw [HW.out]
  clear HW
  refine (eqI_same HB.out.cost (H1.out.cost.below HB0.out) (H2.out.cost.below HB0.out)).mono ?_
  rintro e w2 ⟨rfl, hb2⟩
  have HA2 := hide (HA0.out.below hb2)
  have HC2 := hide (HC0.out.below hb2)
  have HB2 : Hid (Below w.heap.size w w2) := HB0.out.trans (hb2.mono HB0.out.size)
  have a3 := HA2.out.cell 3
  have c3 := HC2.out.cell 3
  have a4 := HA2.out.cell 4
  have c4 := HC2.out.cell 4
  simp only [List.getElem?_toArray, List.getElem?_cons_succ, List.getElem?_cons_zero] at a3 c3 a4 c4
  clear hb2 HA0 HC0 HB0
  go_wp2_with fail
  clear a3 c3 a4 c4
  refine (eqI_same HB.out.exits (H1.out.exits.below HB2.out) (H2.out.exits.below HB2.out)).mono ?_
  rintro e w3 ⟨rfl, hb3⟩
  have HA3 := hide (HA2.out.below hb3)
  have HC3 := hide (HC2.out.below hb3)
  have HB3 : Hid (Below w.heap.size w w3) := HB2.out.trans (hb3.mono HB2.out.size)
  have a4 := HA3.out.cell 4
  have c4 := HC3.out.cell 4
  simp only [List.getElem?_toArray, List.getElem?_cons_succ, List.getElem?_cons_zero] at a4 c4
  clear hb3 HA2 HC2 HB2
  go_wp2_with fail
  clear a4 c4
  refine (eqTgS_same HB.out.targets (H1.out.targets.below HB3.out) (H2.out.targets.below HB3.out)).mono ?_
  rintro e w4 ⟨rfl, hb4⟩
  have HA4 := hide (HA3.out.below hb4)
  have HC4 := hide (HC3.out.below hb4)
  have HB4 : Hid (Below w.heap.size w w4) := HB3.out.trans (hb4.mono HB3.out.size)
  clear hb4 HA3 HC3 HB3
  go_wp2
  go_ret
  exact ⟨rfl, HB4.out⟩
end Go.Proofs.YtijdlbanfdhfnaaGreatDoor

namespace Go.Proofs.YtijdlbanfdhfnaaGreatDoor
open Go.RowKit

/-- It reads as d; its blocks. -/
def TgF (w : World) (d : Tg) (v0 : Value) (bl : List Nat) : Prop := BF w v0 d.name bl
theorem TgF.rd {w : World} {d : Tg} {v0 : Value} {bl : List Nat} (h : TgF w d v0 bl) : TgV w d v0 := ⟨BF.rd h⟩
theorem TgF.keep {w w' : World} {d : Tg} {v0 : Value} {bl : List Nat} (h : TgF w d v0 bl) (hk : ∀ g ∈ bl, w'.heap[g]? = w.heap[g]?) : TgF w' d v0 bl := BF.keep h hk
theorem TgF.below {w w' : World} {d : Tg} {v0 : Value} {bl : List Nat} (h : TgF w d v0 bl) (hk : Below w.heap.size w w') : TgF w' d v0 bl := BF.below h hk
theorem TgF.lt {w : World} {d : Tg} {v0 : Value} {bl : List Nat} (h : TgF w d v0 bl) : ∀ g ∈ bl, g < w.heap.size := BF.lt h
end Go.Proofs.YtijdlbanfdhfnaaGreatDoor

namespace Go.Proofs.YtijdlbanfdhfnaaGreatDoor
open Go.RowKit

/-- A slice of them reads as L; its blocks. -/
def TgSF (w : World) (v : Value) (L : List Tg) (bl : List Nat) : Prop := ∃ a b o c, ∃ (V : Nat → Value) (NB : Nat → List Nat), v = .slice a L.length c ∧ (0 < L.length → a = some ⟨b, o, none⟩) ∧ bl = (if 0 < L.length then [b] else []) ++ ((List.range L.length).map NB).flatten ∧ (∀ j, j < L.length * 3 → w.frozen? ⟨b, o + j, none⟩ = false) ∧ ∀ j, j < L.length → TgC w b (o + j * 3) (L.getD j .zero) (V j) ∧ TgF w (L.getD j .zero) (V j) (NB j)
/-- How many marks one takes, and those before the i-th. -/
def TgN (d : Tg) : Nat := 2 + d.name.size
def TgSn (L : List Tg) : Nat → Nat
  | 0 => 0
  | i + 1 => TgSn L i + TgN (L.getD i .zero)
theorem TgSn_le {L : List Tg} (h : TgSB L) : ∀ i, i ≤ L.length → TgSn L i ≤ i * 1048600
  | 0, _ => Nat.zero_le _
  | i + 1, hi => by
    have h1 := TgSn_le h i (by omega)
    have h2 := (h.each i (by omega)).name
    simp only [TgSn, TgN]
    omega
/-- A slice of them is marked from k on; its blocks. -/
def TgSM (w : World) (v : Value) (L : List Tg) (k : Nat) (bl : List Nat) : Prop := ∃ a b o c, ∃ (V : Nat → Value) (NB : Nat → List Nat), v = .slice a L.length c ∧ (0 < L.length → a = some ⟨b, o, none⟩) ∧ bl = (if 0 < L.length then [b] else []) ++ ((List.range L.length).map NB).flatten ∧ ∀ j, j < L.length → (w.cell? ⟨b, o + j * 3 + 1, none⟩ = some (mkI (k + TgSn L j + (0 + (L.getD j .zero).name.size))) ∧ w.cell? ⟨b, o + j * 3 + 2, none⟩ = some (mkI (k + TgSn L j + (1 + (L.getD j .zero).name.size)))) ∧ w.cell? ⟨b, o + j * 3, none⟩ = some (V j) ∧ BM w (V j) ((L.getD j .zero).name.size) (k + TgSn L j + 0) (NB j)
theorem TgSF.rd {w : World} {v : Value} {L : List Tg} {bl : List Nat} (h : TgSF w v L bl) : TgS w v L := by
  obtain ⟨a, b, o, c, V, NB, h1, h2, _, _, h3⟩ := h
  exact ⟨a, b, o, c, h1, h2, fun j hj => ⟨V j, (h3 j hj).1, (h3 j hj).2.rd⟩⟩
theorem TgSF.slice {w : World} {v : Value} {L : List Tg} {bl : List Nat} (h : TgSF w v L bl) : ∃ a c, v = .slice a L.length c := by
  obtain ⟨a, _, _, c, _, _, h1, _⟩ := h; exact ⟨a, c, h1⟩
theorem TgSF.lt {w : World} {v : Value} {L : List Tg} {bl : List Nat} (h : TgSF w v L bl) : ∀ g ∈ bl, g < w.heap.size := by
  obtain ⟨a, b, o, c, V, NB, h1, h2, rfl, _, h3⟩ := h
  intro g hg
  rcases List.mem_append.1 hg with hg | hg
  · by_cases hz : 0 < L.length
    · rw [if_pos hz] at hg
      obtain rfl := List.mem_singleton.1 hg
      exact World.block_lt_of_cell? _ _ (h3 0 hz).1.name
    · rw [if_neg hz] at hg; cases hg
  · obtain ⟨i, hi, hg⟩ := of_mem_flat hg
    exact (h3 i hi).2.lt g hg
theorem TgSF.keep {w w' : World} {v : Value} {L : List Tg} {bl : List Nat} (h : TgSF w v L bl) (hk : ∀ g ∈ bl, w'.heap[g]? = w.heap[g]?) : TgSF w' v L bl := by
  obtain ⟨a, b, o, c, V, NB, h1, h2, rfl, hf, h3⟩ := h
  have hb : 0 < L.length → w'.heap[b]? = w.heap[b]? := fun hz => hk b (List.mem_append_left _ (by rw [if_pos hz]; exact List.mem_singleton.2 rfl))
  refine ⟨a, b, o, c, V, NB, h1, h2, rfl, fun j hj => ?_, fun j hj => ⟨?_, (h3 j hj).2.keep (fun g hg => hk g (List.mem_append_right _ (mem_flat hj hg)))⟩⟩
  · exact (World.frozen?_of_block (w := w) (a := ⟨b, o + j, none⟩) (hb (by omega))).trans (hf j hj)
  · have hb' := hb (by omega)
    have hc : ∀ j, w'.cell? ⟨b, j, none⟩ = w.cell? ⟨b, j, none⟩ := fun j => World.cell?_of_block (w := w) (a := ⟨b, j, none⟩) hb'
    obtain ⟨q0, q1, q2⟩ := (h3 j hj).1
    exact ⟨(hc _).trans q0, (hc _).trans q1, (hc _).trans q2⟩
theorem TgSF.below {w w' : World} {v : Value} {L : List Tg} {bl : List Nat} (h : TgSF w v L bl) (hb : Below w.heap.size w w') : TgSF w' v L bl := h.keep fun g hg => hb.block g (h.lt g hg)
theorem TgSM.slice {w : World} {v : Value} {L : List Tg} {k : Nat} {bl : List Nat} (h : TgSM w v L k bl) : ∃ a c, v = .slice a L.length c := by
  obtain ⟨a, _, _, c, _, _, h1, _⟩ := h; exact ⟨a, c, h1⟩
theorem TgSM.lt {w : World} {v : Value} {L : List Tg} {k : Nat} {bl : List Nat} (h : TgSM w v L k bl) : ∀ g ∈ bl, g < w.heap.size := by
  obtain ⟨a, b, o, c, V, NB, h1, h2, rfl, h3⟩ := h
  intro g hg
  rcases List.mem_append.1 hg with hg | hg
  · by_cases hz : 0 < L.length
    · rw [if_pos hz] at hg
      obtain rfl := List.mem_singleton.1 hg
      exact World.block_lt_of_cell? _ _ (h3 0 hz).2.1
    · rw [if_neg hz] at hg; cases hg
  · obtain ⟨i, hi, hg⟩ := of_mem_flat hg
    exact (h3 i hi).2.2.lt g hg
theorem TgSM.keep {w w' : World} {v : Value} {L : List Tg} {k : Nat} {bl : List Nat} (h : TgSM w v L k bl) (hk : ∀ g ∈ bl, w'.heap[g]? = w.heap[g]?) : TgSM w' v L k bl := by
  obtain ⟨a, b, o, c, V, NB, h1, h2, rfl, h3⟩ := h
  have hb : 0 < L.length → w'.heap[b]? = w.heap[b]? := fun hz => hk b (List.mem_append_left _ (by rw [if_pos hz]; exact List.mem_singleton.2 rfl))
  refine ⟨a, b, o, c, V, NB, h1, h2, rfl, fun j hj => ?_⟩
  have hb' := hb (by omega)
  have hc : ∀ j, w'.cell? ⟨b, j, none⟩ = w.cell? ⟨b, j, none⟩ := fun j => World.cell?_of_block (w := w) (a := ⟨b, j, none⟩) hb'
  obtain ⟨⟨q1, q2⟩, q, hm⟩ := h3 j hj
  exact ⟨⟨(hc _).trans q1, (hc _).trans q2⟩, (hc _).trans q, hm.keep (fun g hg => hk g (List.mem_append_right _ (mem_flat hj hg)))⟩
theorem TgSM.below {w w' : World} {v : Value} {L : List Tg} {k : Nat} {bl : List Nat} (h : TgSM w v L k bl) (hb : Below w.heap.size w w') : TgSM w' v L k bl := h.keep fun g hg => hb.block g (h.lt g hg)
end Go.Proofs.YtijdlbanfdhfnaaGreatDoor

namespace Go.Proofs.YtijdlbanfdhfnaaGreatDoor
open Go.RowKit

/-- It reads as d; its blocks. -/
def LyF (w : World) (d : Ly) (v2 v3 v4 : Value) (bl : List Nat) : Prop := ∃ bl2 bl3 bl4, bl = bl2 ++ (bl3 ++ (bl4)) ∧ IF w v2 d.cost bl2 ∧ IF w v3 d.exits bl3 ∧ TgSF w v4 d.targets bl4
theorem LyF.rd {w : World} {d : Ly} {v2 v3 v4 : Value} {bl : List Nat} (h : LyF w d v2 v3 v4 bl) : LyV w d v2 v3 v4 := by
  obtain ⟨bl2, bl3, bl4, _, h2, h3, h4⟩ := h
  exact ⟨h2.rd, h3.rd, h4.rd⟩
theorem LyF.keep {w w' : World} {d : Ly} {v2 v3 v4 : Value} {bl : List Nat} (h : LyF w d v2 v3 v4 bl) (hk : ∀ g ∈ bl, w'.heap[g]? = w.heap[g]?) : LyF w' d v2 v3 v4 bl := by
  obtain ⟨bl2, bl3, bl4, rfl, h2, h3, h4⟩ := h
  exact ⟨_, _, _, rfl, h2.keep (fun g hg => hk g (List.mem_append_left _ hg)), h3.keep (fun g hg => hk g (List.mem_append_right _ (List.mem_append_left _ hg))), h4.keep (fun g hg => hk g (List.mem_append_right _ (List.mem_append_right _ (hg))))⟩
theorem LyF.lt {w : World} {d : Ly} {v2 v3 v4 : Value} {bl : List Nat} (h : LyF w d v2 v3 v4 bl) : ∀ g ∈ bl, g < w.heap.size := by
  obtain ⟨bl2, bl3, bl4, rfl, h2, h3, h4⟩ := h
  intro g hg
  simp only [List.mem_append] at hg
  rcases hg with hg | hg | hg
  · exact h2.lt g hg
  · exact h3.lt g hg
  · exact h4.lt g hg
theorem LyF.below {w w' : World} {d : Ly} {v2 v3 v4 : Value} {bl : List Nat} (h : LyF w d v2 v3 v4 bl) (hb : Below w.heap.size w w') : LyF w' d v2 v3 v4 bl := h.keep fun g hg => hb.block g (h.lt g hg)
/-- It is marked from k on; its blocks. -/
def LyM (w : World) (d : Ly) (v2 v3 v4 : Value) (k : Nat) (bl : List Nat) : Prop := ∃ bl2 bl3 bl4, bl = bl2 ++ (bl3 ++ (bl4)) ∧ IM w v2 (d.cost.length) (k) bl2 ∧ IM w v3 (d.exits.length) (k + d.cost.length) bl3 ∧ TgSM w v4 d.targets (k + d.cost.length + d.exits.length) bl4
theorem LyM.keep {w w' : World} {d : Ly} {v2 v3 v4 : Value} {k : Nat} {bl : List Nat} (h : LyM w d v2 v3 v4 k bl) (hk : ∀ g ∈ bl, w'.heap[g]? = w.heap[g]?) : LyM w' d v2 v3 v4 k bl := by
  obtain ⟨bl2, bl3, bl4, rfl, h2, h3, h4⟩ := h
  exact ⟨_, _, _, rfl, h2.keep (fun g hg => hk g (List.mem_append_left _ hg)), h3.keep (fun g hg => hk g (List.mem_append_right _ (List.mem_append_left _ hg))), h4.keep (fun g hg => hk g (List.mem_append_right _ (List.mem_append_right _ (hg))))⟩
theorem LyM.lt {w : World} {d : Ly} {v2 v3 v4 : Value} {k : Nat} {bl : List Nat} (h : LyM w d v2 v3 v4 k bl) : ∀ g ∈ bl, g < w.heap.size := by
  obtain ⟨bl2, bl3, bl4, rfl, h2, h3, h4⟩ := h
  intro g hg
  simp only [List.mem_append] at hg
  rcases hg with hg | hg | hg
  · exact h2.lt g hg
  · exact h3.lt g hg
  · exact h4.lt g hg
theorem LyM.below {w w' : World} {d : Ly} {v2 v3 v4 : Value} {k : Nat} {bl : List Nat} (h : LyM w d v2 v3 v4 k bl) (hb : Below w.heap.size w w') : LyM w' d v2 v3 v4 k bl := h.keep fun g hg => hb.block g (h.lt g hg)
/-- How many marks it takes. -/
def LyNv (d : Ly) : Nat := d.cost.length + d.exits.length + (TgSn d.targets d.targets.length)
end Go.Proofs.YtijdlbanfdhfnaaGreatDoor

namespace Go.Proofs.YtijdlbanfdhfnaaGreatDoor
open Go.RowKit

set_option maxHeartbeats 400000 in
set_option maxRecDepth 1000000 in
theorem markI_w (a0 : Option Addr) (b o n cap k0 : Nat) (w : World) (hn : n ≤ 100000000) (hk0 : k0 ≤ 1000000000000000000) (ha : 0 < n → a0 = some ⟨b, o, none⟩) (hc : ∀ j, j < n → ∃ v, w.cell? ⟨b, o + j, none⟩ = some v) (hf : ∀ j, j < n → w.frozen? ⟨b, o + j, none⟩ = false) :
    Calls Tryz.prog 34 #[.slice a0 n cap, .int .i64 k0] w fun e w' => e = .returned (.int .i64 (k0 + n : Nat)) ∧ Wrt b w w' ∧ (∀ j, j < n → w'.cell? ⟨b, o + j, none⟩ = some (mkI (k0 + j))) ∧ (∀ j, j < o ∨ o + n ≤ j → w'.cell? ⟨b, j, none⟩ = w.cell? ⟨b, j, none⟩) ∧ (n = 0 → w' = w) := by
  have HC := hide hc
  have HF := hide hf
  clear hc hf
  go_enter Tryz.func34, Tryz.ntmps34
  go_wp2
  go_loopw [1, 5] (fun kk i wr => ∃ m : Nat, m ≤ n ∧ i = .int .i64 m ∧ kk = .int .i64 (k0 + m : Nat) ∧ Wrt b w wr ∧ (∀ j, j < m → wr.cell? ⟨b, o + j, none⟩ = some (mkI (k0 + j))) ∧ (∀ j, j < o ∨ o + n ≤ j → wr.cell? ⟨b, j, none⟩ = w.cell? ⟨b, j, none⟩) ∧ (m = 0 → wr = w)) (fun _ i _ => n - (intOf i).toNat)
  case atStart => exact ⟨0, Nat.zero_le _, rfl, rfl, Wrt.refl _ _, fun j hj => absurd hj (Nat.not_lt_zero _), fun _ _ => rfl, fun _ => rfl⟩
  case round =>
    obtain ⟨m, hm, rfl, rfl, hon, hmk, hot, hz0⟩ := hrel
    have HZ := hide hz0
    have HM := hide hmk
    have HO := hide hot
    have HW := hide hon
    clear hmk hot hon hz0
    by_cases hlt : m < n
    · obtain rfl := ha (by omega)
      obtain ⟨v, g1⟩ := HW.out.has _ (HC.out m hlt)
      have g2 := (HW.out.fz ⟨b, o + m, none⟩).trans (HF.out m hlt)
      have EV : Hid (Value.int .i64 ((k0 : Int) + (m : Int)) = mkI (k0 + m)) := by show _ = _; unfold mkI; congr 1
      go_wp2
      rw [EV.out]
      have hcell := fun j => set_hit (u := mkI (k0 + m)) g1 j
      go_roundw
      case rel => exact ⟨m + 1, by omega, by go_num, by go_num, HW.out.setCell g1 _, fun j hj => by
          rw [hcell]
          by_cases e : j = m
          · rw [if_pos (by omega), e]
          · rw [if_neg (by omega)]; exact HM.out j (by omega), fun j hj => by
          rw [hcell, if_neg (by omega)]; exact HO.out j hj, fun h => absurd h (by omega)⟩
      case measure => simp [intOf]; omega
    · have e : m = n := by omega
      subst e
      go_wp2
      go_ret
      exact ⟨rfl, HW.out, HM.out, HO.out, HZ.out⟩

theorem markI_f {w : World} {v : Value} {s : List Int} {bl : List Nat} {k : Nat} (hs : s.length ≤ 100000000) (hk : k ≤ 1000000000000000000) (h : IF w v s bl) :
    Calls Tryz.prog 34 #[v, .int .i64 (k : Nat)] w fun e w' => e = .returned (.int .i64 (k + s.length : Nat)) ∧ IM w' v s.length k bl ∧ Wrs bl w w' := by
  obtain ⟨a, b, o, c, rfl, h2, rfl, h3⟩ := h
  refine (markI_w a b o s.length c k w hs hk h2 (fun j hj => ⟨_, (h3 j hj).1⟩) (fun j hj => (h3 j hj).2)).mono ?_
  rintro e w' ⟨he, hw, hm, _, hz0⟩
  refine ⟨he, ⟨a, b, o, c, rfl, h2, rfl, hm⟩, ⟨hw.os, hw.tape, hw.output, by rw [hw.size]; exact Nat.le_refl _, fun g hg ho => ?_⟩⟩
  by_cases hz : 0 < s.length
  · rw [if_pos hz] at ho
    exact hw.blk g (fun e => ho (List.mem_singleton.2 e))
  · by_cases e : g = b
    · subst e
      rw [hz0 (by omega)]
    · exact hw.blk g e
end Go.Proofs.YtijdlbanfdhfnaaGreatDoor
