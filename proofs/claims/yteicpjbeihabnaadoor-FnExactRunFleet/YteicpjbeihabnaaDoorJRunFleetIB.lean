/-
  toByteS, eqByteS in short words.
  The walk of szByteS.
  Bytes: toByteS, szByteS in the words of all kinds.
  The walk of toTarget.
-/
import Derived.Test.YteicpjbeihabnaaDoorJRunFleetIIS2
import Derived.Test.YteicpjbeihabnaaDoorJRunFleetB0
import Derived.Test.YteicpjbeihabnaaDoorJRunFleetIIS0
import Derived.Laws.MakeOwn
namespace Go.Proofs.YteicpjbeihabnaaDoor
open Go.RowKit

/-- A copy of bytes in a block of its own, none of it frozen. -/
structure BN (w : World) (g : Nat) (s : ByteArray) : Prop where
  lt : g < w.heap.size
  cell : ∀ j, j < s.size → w.cell? ⟨g, j, none⟩ = some (bts s j)
  frozen : ∀ j, w.frozen? ⟨g, j, none⟩ = false
theorem BN.bs {w : World} {g : Nat} {s : ByteArray} (h : BN w g s) (c : Nat) : BS w (.slice (some ⟨g, 0, none⟩) s.size c) s :=
  ⟨_, g, 0, c, rfl, fun _ => rfl, fun j hj => by rw [Nat.zero_add]; exact h.cell j hj⟩
theorem BN.below {w w' : World} {g : Nat} {s : ByteArray} (h : BN w g s) (hb : Below w.heap.size w w') : BN w' g s :=
  ⟨by have := hb.size; have := h.lt; omega, fun j hj => cell_kept (h.cell j hj) hb, fun j => by rw [hb.frozen (p := ⟨g, j, none⟩) h.lt]; exact h.frozen j⟩

theorem toB_bs {w : World} {v : Value} {s : ByteArray} (hs : s.size ≤ 1048576) (h : BS w v s) :
    Calls Tryd.prog 12 #[v] w fun e w' => e = .returned (.slice (some ⟨w.heap.size, 0, none⟩) s.size s.size) ∧ BN w' w.heap.size s ∧ Below w.heap.size w w' := by
  obtain ⟨a, b, o, c, rfl, ha, hc⟩ := h
  exact (toB_any a b o c s w hs ha hc).mono fun e w' ⟨h1, h2, h3, _⟩ => ⟨h1, ⟨h2.lt, fun j hj => h2.cell hj, h2.frozen⟩, h3⟩

theorem eqB_bs {w : World} {v1 v2 : Value} {s t : ByteArray} (hs : s.size ≤ 1048576) (ht : t.size ≤ 1048576) (h1 : BS w v1 s) (h2 : BS w v2 t) :
    Calls Tryd.prog 15 #[v1, v2] w fun e w' => e = .returned (.bool (decide (s = t))) ∧ Below w.heap.size w w' := by
  obtain ⟨a1, b1, o1, c1, rfl, ha1, hc1⟩ := h1
  obtain ⟨a2, b2, o2, c2, rfl, ha2, hc2⟩ := h2
  exact (eqB_any a1 a2 b1 o1 c1 b2 o2 c2 s t w hs ht ha1 ha2 hc1 hc2).mono fun _ _ ⟨h1, n, h2⟩ => ⟨h1, by rw [h2]; exact below_drewN (Below.refl _ _) n⟩
theorem eqB_self {w : World} {v1 v2 : Value} {s : ByteArray} (hs : s.size ≤ 1048576) (h1 : BS w v1 s) (h2 : BS w v2 s) :
    Calls Tryd.prog 15 #[v1, v2] w fun e w' => e = .returned (.bool true) ∧ Below w.heap.size w w' := by
  have H := eqB_bs hs hs h1 h2
  rw [decide_eq_true (rfl : s = s)] at H
  exact H
end Go.Proofs.YteicpjbeihabnaaDoor

namespace Go.Proofs.YteicpjbeihabnaaDoor
open Go.RowKit

set_option maxHeartbeats 400000 in
set_option maxRecDepth 1000000 in
theorem szB_any (a : Option Addr) (n c : Nat) (left : Int) (w : World) (h0 : 0 ≤ left) (hl : left ≤ 1048576) (hn : (n : Int) ≤ 9223372036854775807) :
    Calls Tryd.prog 81 #[.slice a n c, .int .i64 left] w fun e w' => e = .returned (.int .i64 (szl n left)) ∧ w' = w := by
  have e1 : IntKind.i64.wrap (left - (n : Int)) = left - n := by rw [IntKind.wrap_i64]; omega
  by_cases c1 : left - (n : Int) < 0
  · have HZ : Hid (szl n left = -1) := by show _ = _; unfold szl; rw [if_pos c1]
    have d1 : decide (left - (n : Int) < 0) = true := decide_eq_true c1
    go_enter Tryd.func81, Tryd.ntmps81
    go_wp2
    go_ret
    exact ⟨by rw [HZ.out]; rfl, by trivial⟩
  · have HZ : Hid (szl n left = left - n) := by show _ = _; unfold szl; rw [if_neg c1]
    have d1 : decide (left - (n : Int) < 0) = false := decide_eq_false c1
    go_enter Tryd.func81, Tryd.ntmps81
    go_wp2
    go_ret
    exact ⟨by rw [HZ.out]; first | rfl | exact ret_int (by omega), by trivial⟩

end Go.Proofs.YteicpjbeihabnaaDoor

namespace Go.Proofs.YteicpjbeihabnaaDoor
open Go.RowKit

theorem toB_cp {w : World} {v : Value} {s : ByteArray} (hs : s.size ≤ 1048576) (h : BS w v s) :
    Calls Tryd.prog 12 #[v] w fun e w' => ∃ v', e = .returned v' ∧ (∀ G, G < w.heap.size → BO w' G v' s) ∧ Below w.heap.size w w' :=
  (toB_bs hs h).mono fun e w' ⟨h1, h2, h3⟩ => ⟨_, h1, fun G hG => ⟨w.heap.size, hG, h2.lt, rfl, h2.frozen, fun j hj => by rw [Nat.zero_add]; exact h2.cell j hj⟩, h3⟩
theorem szB_r {w : World} {v : Value} {s : ByteArray} {left : Int} (h0 : 0 ≤ left) (hl : left ≤ 1048576) (hn : (s.size : Int) ≤ 9223372036854775807) (h : BS w v s) :
    Calls Tryd.prog 81 #[v, .int .i64 left] w fun e w' => ∃ r, e = .returned (.int .i64 r) ∧ -1 ≤ r ∧ r ≤ left ∧ (0 ≤ r → s.size ≤ 1048576) ∧ Below w.heap.size w w' := by
  obtain ⟨a, _, _, c, rfl, _, _⟩ := h
  obtain ⟨k1, k2, k3⟩ := szl_le s.size left h0
  exact (szB_any a s.size c left w h0 hl hn).mono fun e w' ⟨h1, h2⟩ => ⟨_, h1, k1, k2, fun h => by have := k3 h; omega, by rw [h2]; exact Below.refl _ _⟩
end Go.Proofs.YteicpjbeihabnaaDoor

namespace Go.Proofs.YteicpjbeihabnaaDoor
open Go.RowKit

set_option maxHeartbeats 2000000 in
set_option maxRecDepth 1000000 in
theorem toTg_any (d : Tg) (v0 : Value) (w : World) (hb : TgB d) (h : TgV w d v0) :
    Calls Tryd.prog 66 #[tgagg d v0] w fun e w' => ∃ v0', e = .returned (tgagg d v0') ∧ (∀ G, G < w.heap.size → TgO w' G d v0') ∧ Below w.heap.size w w' := by
  obtain ⟨x0, x1, x2⟩ := d
  have HH := hide h
  have hk0 := hb.name
  simp only at hk0
  unfold tgagg
  simp only
  obtain ⟨W0, hW0⟩ : ∃ W, ((w.alloc (.cells #[v0, .int .i64 x1, .int .i64 x2] 92)).alloc (.cells #[.slice none 0 0, .int .i64 0, .int .i64 0] 66)).alloc (.cells #[.slice none 0 0, .int .i64 0, .int .i64 0] 66) = W := ⟨_, rfl⟩
  have hb0 : Below w.heap.size w W0 := by
    rw [← hW0]; exact (((Below.refl _ _).alloc (Nat.le_refl _) _).alloc (by simp) _).alloc (by simp; omega) _
  have hA : Blk W0 w.heap.size 92 #[v0, .int .i64 x1, .int .i64 x2] := by
    rw [← hW0]; exact ((Blk.new _ _ _).alloc _).alloc _
  have hO : Blk W0 (w.heap.size + 1 + 1) 66 #[.slice none 0 0, .int .i64 0, .int .i64 0] := by
    rw [← hW0]
    have := Blk.new ((w.alloc (.cells #[v0, .int .i64 x1, .int .i64 x2] 92)).alloc (.cells #[.slice none 0 0, .int .i64 0, .int .i64 0] 66)) 66 #[.slice none 0 0, .int .i64 0, .int .i64 0]
    simpa using this
  have hR : Blk W0 (w.heap.size + 1) 66 #[.slice none 0 0, .int .i64 0, .int .i64 0] := by
    rw [← hW0]
    have := (Blk.new (w.alloc (.cells #[v0, .int .i64 x1, .int .i64 x2] 92)) 66 #[.slice none 0 0, .int .i64 0, .int .i64 0]).alloc (.cells #[.slice none 0 0, .int .i64 0, .int .i64 0] 66)
    simpa using this
  have HR0 := hide hR
  have HB0 := hide hb0
  have HA0 := hide hA
  have HO0 := hide hO
  have HW := hide hW0
  clear h hb hb0 hA hO hR hW0
  go_enter Tryd.func66, Tryd.ntmps66
  go_wp2_with fail
  rw [HW.out]
  clear HW
  refine (toB_cp (w := W0) (v := v0) hk0 (HH.out.name.below HB0.out)).mono ?_
  rintro e w2 ⟨u2, rfl, hs2, hb2⟩
  have hs2' := hs2 (w.heap.size + 1 + 1) HO0.out.lt
  obtain ⟨g0, k0, rfl⟩ := hs2'.slice
  have HS0_2 := hide hs2'
  have HA2 := hide (HA0.out.below hb2)
  have HO2 := hide (HO0.out.below hb2)
  have HR2 := hide (HR0.out.below hb2)
  have HB2 : Hid (Below w.heap.size w w2) := HB0.out.trans (hb2.mono HB0.out.size)
  have a1 := HA2.out.cell 1
  have a2 := HA2.out.cell 2
  have c0 := HO2.out.cell 0
  have d0 := HO2.out.frozen 0
  have r0 := HR2.out.cell 0
  have s0 := HR2.out.frozen 0
  have c1 := HO2.out.cell 1
  have d1 := HO2.out.frozen 1
  have r1 := HR2.out.cell 1
  have s1 := HR2.out.frozen 1
  have c2 := HO2.out.cell 2
  have d2 := HO2.out.frozen 2
  have r2 := HR2.out.cell 2
  have s2 := HR2.out.frozen 2
  simp only [List.getElem?_toArray, List.getElem?_cons_succ, List.getElem?_cons_zero] at a1 a2 c0 c1 c2 r0 r1 r2
  clear hs2 hs2' hb2 HA0 HO0 HB0 HR0
  have HN : Hid (TgO w2 (w.heap.size + 1 + 1) ⟨x0, x1, x2⟩ (.slice (some ⟨g0, 0, none⟩) x0.size k0)) := ⟨HS0_2.out⟩
  go_wp2
  (try simp only [Exit.inBlock, Exit.then])
  refine bodyPost_ret (results_cell_row rfl _ _ (w.heap.size + 1) 66 #[.slice (some ⟨g0, 0, none⟩) x0.size k0, .int .i64 x1, .int .i64 x2] (0, 0) _ rfl ?hg Tryd.underlying66 rfl (by kernel_rfl)) rfl ?_
  case hg => exact ((((((HR2.out.other 0 _ (by omega)).other 1 _ (by omega)).other 2 _ (by omega)).set 0 _).set 1 _).set 2 _)
  refine ⟨_, rfl, fun G hG => TgO.lower (G := w.heap.size + 1 + 1) ?_ (by omega), ?_⟩
  · exact ((((((HN.out.setAt (by omega)).setAt (by omega)).setAt (by omega)).setAt (by omega)).setAt (by omega)).setAt (by omega))
  · exact ((((((HB2.out.setCell (by show w.heap.size ≤ w.heap.size + 1 + 1; omega) _).setCell (by show w.heap.size ≤ w.heap.size + 1 + 1; omega) _).setCell (by show w.heap.size ≤ w.heap.size + 1 + 1; omega) _).setCell (by show w.heap.size ≤ w.heap.size + 1; omega) _).setCell (by show w.heap.size ≤ w.heap.size + 1; omega) _).setCell (by show w.heap.size ≤ w.heap.size + 1; omega) _)
end Go.Proofs.YteicpjbeihabnaaDoor
