/-
  markRobotS, heldRobotS at any slice.
  The walks of eqFleetReport, markFleetReport, heldFleetReport.
-/
import Derived.Test.YteicpjbeihabnaaDoorJRunFleetTbMK
import Derived.BigQuiet
import Derived.BigRegion
import Derived.Deep.QuietTactic
import Derived.Test.YteicpjbeihabnaaDoorJRunFleetRO1
namespace Go.Proofs.YteicpjbeihabnaaDoor
open Go.RowKit

/-- What marks make of a robot. -/
def mkRo (k : Nat) : Ro := ⟨(k : Int), (k : Int) + 1, (k : Int) + 1 + 1, (k : Int) + 1 + 1 + 1, ((k : Int) + 1 + 1 + 1 + 1) % 3 == 0⟩
/-- It holds marks. -/
def RoM (w : World) (v : Value) (n k : Nat) (bl : List Nat) : Prop := ∃ a b o c, v = .slice a n c ∧ (0 < n → a = some ⟨b, o, none⟩) ∧ bl = (if 0 < n then [b] else []) ∧ ∀ j, j < n → RoC w b (o + j * 5) (mkRo (k + j * 5))
theorem RoM.lt {w : World} {v : Value} {n k : Nat} {bl : List Nat} (h : RoM w v n k bl) : ∀ g ∈ bl, g < w.heap.size := by
  obtain ⟨a, b, o, c, h1, h2, rfl, h3⟩ := h
  intro g hg
  by_cases hz : 0 < n
  · rw [if_pos hz] at hg
    obtain rfl := List.mem_singleton.1 hg
    exact World.block_lt_of_cell? _ _ (h3 0 hz).cell
  · rw [if_neg hz] at hg; cases hg
theorem RoM.below {w w' : World} {v : Value} {n k : Nat} {bl : List Nat} (h : RoM w v n k bl) (hb : Below w.heap.size w w') : RoM w' v n k bl := by
  obtain ⟨a, b, o, c, h1, h2, h4, h3⟩ := h
  exact ⟨a, b, o, c, h1, h2, h4, fun j hj => (h3 j hj).below hb⟩
theorem RoC.of_ne {w w' : World} {b p : Nat} {d : Ro} (h : RoC w b p d) (he : ∀ j, j < 5 → w'.cell? ⟨b, p + j, none⟩ = w.cell? ⟨b, p + j, none⟩) : RoC w' b p d := ⟨(he 0 (by omega)).trans h.cell, (he 1 (by omega)).trans h.target, (he 2 (by omega)).trans h.moves, (he 3 (by omega)).trans h.waits, (he 4 (by omega)).trans h.done⟩
theorem RoC.set5 {w : World} {b p : Nat} {r : Ro} (h : RoC w b p r) (x0 x1 x2 x3 : Int) (x4 : Bool) : RoC (((((w.setCell ⟨b, p, none⟩ (.int .i64 x0)).setCell ⟨b, p + 1, none⟩ (.int .i64 x1)).setCell ⟨b, p + 2, none⟩ (.int .i64 x2)).setCell ⟨b, p + 3, none⟩ (.int .i64 x3)).setCell ⟨b, p + 4, none⟩ (.bool x4)) b p ⟨x0, x1, x2, x3, x4⟩ := by
  have ne : ∀ i j : Nat, i ≠ j → (⟨b, p + i, none⟩ : Addr) ≠ ⟨b, p + j, none⟩ := fun i j h e => by injection e with _ e _; omega
  have n0 : ∀ j : Nat, 0 ≠ j → (⟨b, p, none⟩ : Addr) ≠ ⟨b, p + j, none⟩ := fun j h e => by injection e with _ e _; omega
  refine ⟨?_, ?_, ?_, ?_, ?_⟩
  · rw [World.cell?_setCell_other _ _ _ _ (n0 4 (by omega)).symm, World.cell?_setCell_other _ _ _ _ (n0 3 (by omega)).symm, World.cell?_setCell_other _ _ _ _ (n0 2 (by omega)).symm, World.cell?_setCell_other _ _ _ _ (n0 1 (by omega)).symm]
    exact World.cell?_setCell_same _ _ _ h.cell
  · rw [World.cell?_setCell_other _ _ _ _ (ne 4 1 (by omega)), World.cell?_setCell_other _ _ _ _ (ne 3 1 (by omega)), World.cell?_setCell_other _ _ _ _ (ne 2 1 (by omega))]
    exact World.cell?_setCell_same _ _ _ ((World.cell?_setCell_other _ _ _ _ (n0 1 (by omega))).trans h.target)
  · rw [World.cell?_setCell_other _ _ _ _ (ne 4 2 (by omega)), World.cell?_setCell_other _ _ _ _ (ne 3 2 (by omega))]
    exact World.cell?_setCell_same _ _ _ ((World.cell?_setCell_other _ _ _ _ (ne 1 2 (by omega))).trans ((World.cell?_setCell_other _ _ _ _ (n0 2 (by omega))).trans h.moves))
  · rw [World.cell?_setCell_other _ _ _ _ (ne 4 3 (by omega))]
    exact World.cell?_setCell_same _ _ _ ((World.cell?_setCell_other _ _ _ _ (ne 2 3 (by omega))).trans ((World.cell?_setCell_other _ _ _ _ (ne 1 3 (by omega))).trans ((World.cell?_setCell_other _ _ _ _ (n0 3 (by omega))).trans h.waits)))
  · exact World.cell?_setCell_same _ _ _ ((World.cell?_setCell_other _ _ _ _ (ne 3 4 (by omega))).trans ((World.cell?_setCell_other _ _ _ _ (ne 2 4 (by omega))).trans ((World.cell?_setCell_other _ _ _ _ (ne 1 4 (by omega))).trans ((World.cell?_setCell_other _ _ _ _ (n0 4 (by omega))).trans h.done))))
theorem five_other {w : World} {b p q : Nat} (hq : q < p ∨ p + 5 ≤ q) (y0 y1 y2 y3 y4 : Value) : (((((w.setCell ⟨b, p, none⟩ y0).setCell ⟨b, p + 1, none⟩ y1).setCell ⟨b, p + 2, none⟩ y2).setCell ⟨b, p + 3, none⟩ y3).setCell ⟨b, p + 4, none⟩ y4).cell? ⟨b, q, none⟩ = w.cell? ⟨b, q, none⟩ := by
  have ne : ∀ i : Nat, i < 5 → (⟨b, p + i, none⟩ : Addr) ≠ ⟨b, q, none⟩ := fun i h e => by injection e with _ e _; omega
  rw [World.cell?_setCell_other _ _ _ _ (ne 4 (by omega)), World.cell?_setCell_other _ _ _ _ (ne 3 (by omega)), World.cell?_setCell_other _ _ _ _ (ne 2 (by omega)), World.cell?_setCell_other _ _ _ _ (ne 1 (by omega))]
  exact World.cell?_setCell_other _ _ _ _ (ne 0 (by omega))

set_option maxHeartbeats 2000000 in
set_option maxRecDepth 1000000 in
theorem markRo_f {w : World} {v : Value} {L : List Ro} {bl : List Nat} {k : Nat} (hs : L.length ≤ 100000000) (hk : k ≤ 1000000000000000000) (h : RoF w v L bl) :
    Calls Tryd.prog 31 #[v, .int .i64 (k : Nat)] w fun e w' => e = .returned (.int .i64 (k + L.length * 5 : Nat)) ∧ RoM w' v L.length k bl ∧ Wrs bl w w' := by
  obtain ⟨a, b, o, c, rfl, ha, rfl, hf, hc⟩ := h
  have HC := hide hc
  have HF := hide hf
  obtain ⟨n, hn⟩ : ∃ n, L.length = n := ⟨_, rfl⟩
  rw [hn] at hs ha HC HF ⊢
  obtain ⟨bl, hbl⟩ : ∃ x, (if 0 < n then [b] else []) = x := ⟨_, rfl⟩
  rw [hbl]
  have HBL := hide hbl
  clear hc hf hn hbl
  go_enter Tryd.func31, Tryd.ntmps31
  go_wp2
  go_loopw [1, 5] (fun kk i wr => ∃ m : Nat, m ≤ n ∧ i = .int .i64 m ∧ kk = .int .i64 (k + m * 5 : Nat) ∧ Wrs bl w wr ∧ (∀ j, j < m → RoC wr b (o + j * 5) (mkRo (k + j * 5))) ∧ (∀ j, m ≤ j → j < n → RoC wr b (o + j * 5) (L.getD j .zero)) ∧ (∀ j, wr.frozen? ⟨b, j, none⟩ = w.frozen? ⟨b, j, none⟩)) (fun _ i _ => n - (intOf i).toNat)
  case atStart => exact ⟨0, Nat.zero_le _, rfl, rfl, Wrs.refl _ _, fun j hj => absurd hj (Nat.not_lt_zero _), fun j _ hj => HC.out j hj, fun _ => rfl⟩
  case round =>
    obtain ⟨m, hm, rfl, rfl, hon, hmk, hot, hfz⟩ := hrel
    rename World => V
    have HM := hide hmk
    have HO := hide hot
    have HW := hide hon
    have HFZ := hide hfz
    clear hmk hot hon hfz
    by_cases hlt : m < n
    · obtain rfl := ha (by omega)
      have hro := HO.out m (Nat.le_refl _) hlt
      obtain ⟨r, hr⟩ : ∃ r, L.getD m .zero = r := ⟨_, rfl⟩
      rw [hr] at hro
      have HRO := hide hro
      obtain ⟨g0, g1, g2, g3, g4⟩ := hro
      have f0 := (HFZ.out (o + m * 5)).trans (HF.out (m * 5) (by omega))
      have f1 := (HFZ.out (o + m * 5 + 1)).trans (HF.out (m * 5 + 1) (by omega))
      have f2 := (HFZ.out (o + m * 5 + 2)).trans (HF.out (m * 5 + 2) (by omega))
      have f3 := (HFZ.out (o + m * 5 + 3)).trans (HF.out (m * 5 + 3) (by omega))
      have f4 := (HFZ.out (o + m * 5 + 4)).trans (HF.out (m * 5 + 4) (by omega))
      obtain ⟨K, hK⟩ : ∃ K, k + m * 5 = K := ⟨_, rfl⟩
      have HK := hide hK
      have hKb : K ≤ 2000000000000000000 := by omega
      rw [hK]
      clear hr hK
      have hmi : (m : Int) < (n : Int) := by omega
      go_wp2
      go_roundw
      case rel =>
        have hmem : b ∈ bl := by rw [← HBL.out, if_pos (by omega)]; exact List.mem_singleton.2 rfl
        refine ⟨m + 1, by omega, by go_num, ?_, ((((HW.out.set hmem _).set hmem _).set hmem _).set hmem _).set hmem _, fun j hj => ?_, fun j h1 h2 => ?_, fun j => ?_⟩
        · rw [← HK.out]
          congr 1
          omega
        · by_cases e : j = m
          · subst e
            rw [HK.out]
            exact HRO.out.set5 _ _ _ _ _
          · have h3 := HM.out j (by omega)
            exact h3.of_ne fun q hq => five_other (by omega) _ _ _ _ _
        · have h3 := HO.out j (by omega) h2
          exact h3.of_ne fun q hq => five_other (by omega) _ _ _ _ _
        · rw [World.frozen?_setCell, World.frozen?_setCell, World.frozen?_setCell, World.frozen?_setCell, World.frozen?_setCell]
          exact HFZ.out j
      case measure => simp [intOf]; omega
    · have e : m = n := by omega
      subst e
      go_wp2
      go_ret
      exact ⟨rfl, ⟨a, b, o, c, rfl, ha, HBL.out.symm, HM.out⟩, HW.out⟩

set_option maxHeartbeats 2000000 in
set_option maxRecDepth 1000000 in
theorem heldRo_f {w : World} {v : Value} {n k : Nat} {bl : List Nat} (hs : n ≤ 100000000) (hk : k ≤ 1000000000000000000) (h : RoM w v n k bl) :
    Calls Tryd.prog 32 #[v, .int .i64 (k : Nat)] w fun e w' => e = .returned (.int .i64 (k + n * 5 : Nat)) ∧ w' = w := by
  obtain ⟨a, b, o, c, rfl, ha, rfl, hc⟩ := h
  have HC := hide hc
  clear hc
  go_enter Tryd.func32, Tryd.ntmps32
  go_wp2
  go_loop [1, 5] (fun kk i => ∃ m : Nat, m ≤ n ∧ i = .int .i64 m ∧ kk = .int .i64 (k + m * 5 : Nat)) (fun _ i => n - (intOf i).toNat)
  case atStart => exact ⟨0, Nat.zero_le _, rfl, rfl⟩
  case round =>
    obtain ⟨m, hm, rfl, rfl⟩ := hrel
    by_cases hlt : m < n
    · obtain rfl := ha (by omega)
      have hmi : (m : Int) < (n : Int) := by omega
      obtain ⟨g0, g1, g2, g3, g4⟩ := HC.out m hlt
      obtain ⟨K, hK⟩ : ∃ K, k + m * 5 = K := ⟨_, rfl⟩
      have HK := hide hK
      have hKb : K ≤ 2000000000000000000 := by omega
      rw [hK] at g0 g1 g2 g3 g4 ⊢
      unfold mkRo at g0 g1 g2 g3 g4
      simp only at g0 g1 g2 g3 g4
      clear hK
      have e0 : ((K : Int) != (K : Int)) = false := by simp
      have e1 : ((K : Int) + 1 != (K : Int) + 1) = false := by simp
      have e2 : ((K : Int) + 1 + 1 != (K : Int) + 1 + 1) = false := by simp
      have e3 : ((K : Int) + 1 + 1 + 1 != (K : Int) + 1 + 1 + 1) = false := by simp
      obtain ⟨x, hx⟩ : ∃ x, (((K : Int) + 1 + 1 + 1 + 1) % 3 == 0) = x := ⟨_, rfl⟩
      rw [hx] at g4
      have e4 : (x != x) = false := by cases x <;> rfl
      go_wp2
      go_round
      case rel => exact ⟨m + 1, by omega, by go_num, by rw [← HK.out]; congr 1; omega⟩
      case measure => simp [intOf]; omega
    · have e : m = n := by omega
      subst e
      go_wp2
      go_ret
      exact ⟨rfl, rfl⟩
end Go.Proofs.YteicpjbeihabnaaDoor

namespace Go.Proofs.YteicpjbeihabnaaDoor
open Go.RowKit

set_option maxHeartbeats 1000000 in
set_option maxRecDepth 1000000 in
theorem eqFl_same {w : World} {v1 v2 : Value} {L : List Ro} {c t : Int} (hs : L.length ≤ 1048576) (h1 : RoS w v1 L) (h2 : RoS w v2 L) :
    Calls Tryd.prog 35 #[.agg #[.int .i64 c, .int .i64 t, v1], .agg #[.int .i64 c, .int .i64 t, v2]] w fun e w' => e = .returned (.bool true) ∧ Below w.heap.size w w' := by
  have HE := hide (fun V (hV : Below w.heap.size w V) => eqRo_same (w := V) hs (h1.below hV) (h2.below hV))
  obtain ⟨a1, c1, rfl⟩ := h1.slice
  obtain ⟨a2, c2, rfl⟩ := h2.slice
  have tc : (c != c) = false := by simp
  have tt : (t != t) = false := by simp
  clear h1 h2
  obtain ⟨W0, hW0⟩ : ∃ W, (w.alloc (.cells #[.int .i64 c, .int .i64 t, .slice a1 L.length c1] 57)).alloc (.cells #[.int .i64 c, .int .i64 t, .slice a2 L.length c2] 57) = W := ⟨_, rfl⟩
  have hB0 : Below w.heap.size w W0 := by rw [← hW0]; exact ((Below.refl _ _).alloc (Nat.le_refl _) _).alloc (by simp) _
  have hA0 : Blk W0 w.heap.size 57 #[.int .i64 c, .int .i64 t, .slice a1 L.length c1] := by rw [← hW0]; exact (Blk.new _ _ _).alloc _
  have hA1 : Blk W0 (w.heap.size + 1) 57 #[.int .i64 c, .int .i64 t, .slice a2 L.length c2] := by
    rw [← hW0]
    have e : (w.alloc (.cells #[.int .i64 c, .int .i64 t, .slice a1 L.length c1] 57)).heap.size = w.heap.size + 1 := by simp
    rw [← e]
    exact Blk.new _ _ _
  have z0 := hA0.cell 0
  have z1 := hA0.cell 1
  have z2 := hA0.cell 2
  have y0 := hA1.cell 0
  have y1 := hA1.cell 1
  have y2 := hA1.cell 2
  simp only [List.getElem?_toArray, List.getElem?_cons_succ, List.getElem?_cons_zero] at z0 z1 z2 y0 y1 y2
  have HB := hide hB0
  have HEW := hide (HE.out W0 hB0)
  have hW := hW0
  clear hW0 hB0 hA0 hA1
  go_enter Tryd.func35, Tryd.ntmps35
  go_wp2_with fail
  refine HEW.out.mono ?_
  rintro e w2 ⟨rfl, hb2⟩
  have HB2 : Hid (Below w.heap.size w w2) := HB.out.trans (hb2.mono HB.out.size)
  clear hb2
  go_wp2
  go_ret
  exact ⟨rfl, HB2.out⟩

set_option maxHeartbeats 1000000 in
set_option maxRecDepth 1000000 in
theorem markFl_f {w : World} {v : Value} {L : List Ro} {bl : List Nat} {k : Nat} {c t : Int} (hs : L.length ≤ 100000000) (hk : k ≤ 1000000000000000000) (h : RoF w v L bl) :
    Calls Tryd.prog 36 #[.agg #[.int .i64 c, .int .i64 t, v], .int .i64 (k : Nat)] w fun e w' => e = .returned (.int .i64 (k + L.length * 5 : Nat)) ∧ RoM w' v L.length k bl ∧ Wrs bl w w' := by
  have HE := hide (fun V (hV : Below w.heap.size w V) => markRo_f (w := V) hs hk (h.below hV))
  obtain ⟨a1, c1, rfl⟩ := h.slice
  clear h
  obtain ⟨W0, hW0⟩ : ∃ W, w.alloc (.cells #[.int .i64 c, .int .i64 t, .slice a1 L.length c1] 57) = W := ⟨_, rfl⟩
  have hB0 : Below w.heap.size w W0 := by rw [← hW0]; exact (Below.refl _ _).alloc (Nat.le_refl _) _
  have hA0 : Blk W0 w.heap.size 57 #[.int .i64 c, .int .i64 t, .slice a1 L.length c1] := by rw [← hW0]; exact Blk.new _ _ _
  have z0 := hA0.cell 0
  have z1 := hA0.cell 1
  have z2 := hA0.cell 2
  simp only [List.getElem?_toArray, List.getElem?_cons_succ, List.getElem?_cons_zero] at z0 z1 z2
  have HW0 : Hid (Wrs bl w W0) := Wrs.of_below hB0
  have HEW := hide (HE.out W0 hB0)
  have hW := hW0
  clear hW0 hB0 hA0
  obtain ⟨km, hkm⟩ : ∃ km, k + L.length * 5 = km := ⟨_, rfl⟩
  rw [hkm] at HEW ⊢
  have hkb : km ≤ 2000000000000000000 := by omega
  clear hkm
  go_enter Tryd.func36, Tryd.ntmps36
  go_wp2_with fail
  refine HEW.out.mono ?_
  rintro e w2 ⟨rfl, hm2, hw2⟩
  have HM2 := hide hm2
  have HW2 : Hid (Wrs bl w w2) := HW0.out.trans hw2
  clear hm2 hw2
  go_wp2
  go_ret
  exact ⟨rfl, HM2.out, HW2.out⟩

set_option maxHeartbeats 1000000 in
set_option maxRecDepth 1000000 in
theorem heldFl_f {w : World} {a1 : Option Addr} {c1 n k : Nat} {bl : List Nat} {c t : Int} (hs : n ≤ 100000000) (hk : k ≤ 1000000000000000000) (h : RoM w (.slice a1 n c1) n k bl) :
    Calls Tryd.prog 37 #[.agg #[.int .i64 c, .int .i64 t, .slice a1 n c1], .int .i64 (k : Nat)] w fun e w' => e = .returned (.int .i64 (k + n * 5 : Nat)) ∧ Below w.heap.size w w' := by
  have HE := hide (fun V (hV : Below w.heap.size w V) => heldRo_f (w := V) hs hk (h.below hV))
  clear h
  obtain ⟨W0, hW0⟩ : ∃ W, w.alloc (.cells #[.int .i64 c, .int .i64 t, .slice a1 n c1] 57) = W := ⟨_, rfl⟩
  have hB0 : Below w.heap.size w W0 := by rw [← hW0]; exact (Below.refl _ _).alloc (Nat.le_refl _) _
  have hA0 : Blk W0 w.heap.size 57 #[.int .i64 c, .int .i64 t, .slice a1 n c1] := by rw [← hW0]; exact Blk.new _ _ _
  have z0 := hA0.cell 0
  have z1 := hA0.cell 1
  have z2 := hA0.cell 2
  simp only [List.getElem?_toArray, List.getElem?_cons_succ, List.getElem?_cons_zero] at z0 z1 z2
  have HB := hide hB0
  have HEW := hide (HE.out W0 hB0)
  have hW := hW0
  clear hW0 hB0 hA0
  obtain ⟨km, hkm⟩ : ∃ km, k + n * 5 = km := ⟨_, rfl⟩
  rw [hkm] at HEW ⊢
  have hkb : km ≤ 2000000000000000000 := by omega
  have tk : decide ((km : Int) < 0) = false := decide_eq_false (by omega)
  clear hkm
  go_enter Tryd.func37, Tryd.ntmps37
  go_wp2_with fail
  refine HEW.out.mono ?_
  rintro e w2 ⟨rfl, hw2⟩
  subst hw2
  go_wp2
  go_ret
  exact ⟨rfl, HB.out⟩
end Go.Proofs.YteicpjbeihabnaaDoor
