/-
  The walk of laws.FnExactBuildGraph, out of what impl.BuildGraph and spec.BuildGraph answer.
-/
import Derived.Test.YtpoanbpgpgflcaaDoorJBgTgS3
import Derived.Test.YtpoanbpgpgflcaaDoorJBgTgS3
import Derived.Test.YtpoanbpgpgflcaaDoorJBgLyT
import Derived.Test.YtpoanbpgpgflcaaDoorJBgTgSMK
import Derived.Test.YtpoanbpgpgflcaaDoorJBgGr0
import Derived.Test.YtpoanbpgpgflcaaDoorJBgGrMK
import Derived.Test.YtpoanbpgpgflcaaDoorJBgGrMK
import Derived.BigQuiet
import Derived.Deep.QuietTactic
import Derived.Deep.RegionWith
namespace Go.Proofs.YtpoanbpgpgflcaaDoor
open Go.RowKit

set_option maxHeartbeats 4000000 in
set_option maxRecDepth 1000000 in
theorem lawBg (f : Ly → Gr) (fc : Ly → Int) (Q : World → Prop) (hQ : ∀ w w', Q w → Below w.heap.size w w' → Q w') (hf : ∀ d, LyB d → GrB (f d))
    (HS0 : ∀ d v2 v3 v4 w, LyB d → Q w → LyV w d v2 v3 v4 → Calls Tryd.prog 5 #[lyagg d v2 v3 v4] w fun e w' => ∃ p1 p2 p3 p4, e = .returned (.tuple #[gragg (f d) p1 p2 p3 p4, .int .i64 (fc d)]) ∧ GrV w' (f d) p1 p2 p3 p4 ∧ Below w.heap.size w w')
    (HI0 : ∀ d v2 v3 v4 w, LyB d → LyL d → Q w → LyV w d v2 v3 v4 → Calls Tryd.prog 7 #[lyagg d v2 v3 v4] w fun e w' => ∃ p1 p2 p3 p4 bl, e = .returned (.tuple #[gragg (f d) p1 p2 p3 p4, .int .i64 (fc d)]) ∧ GrF w' (f d) p1 p2 p3 p4 bl ∧ Fr w w' bl ∧ Below w.heap.size w w')
    (d : Ly) (v2 v3 v4 : Value) (w : World) (hd : LyL d) (hq : Q w) (h : LyV w d v2 v3 v4) :
    Calls Tryd.prog 3 #[lyagg d v2 v3 v4] w fun e w' => e = .returned (.bool true) ∧ Below w.heap.size w w' := by
  obtain ⟨a2, c2, hv2⟩ := h.cost.slice
  obtain ⟨a3, c3, hv3⟩ := h.exits.slice
  obtain ⟨a4, c4, hv4⟩ := h.targets.slice
  subst hv2 hv3 hv4
  have HQ := hide (fun w2 (hb2 : Below w.heap.size w w2) => hQ w w2 hq hb2)
  have HSZ := hide (fun w2 (hb2 : Below w.heap.size w w2) => szLy_r (w := w2) (left := 1048576) (by omega) (by omega) hd (h.below hb2))
  have HTO := hide (fun w2 (hb : LyB d) (hb2 : Below w.heap.size w w2) => toLy_f d _ _ _ w2 hb (h.below hb2))
  have HS := hide (fun v2 v3 v4 w2 (hb : LyB d) (hw : Below w.heap.size w w2) (h2 : LyV w2 d v2 v3 v4) => HS0 d v2 v3 v4 w2 hb (HQ.out w2 hw) h2)
  have HI := hide (fun v2 v3 v4 w2 (hb : LyB d) (hw : Below w.heap.size w w2) (h2 : LyV w2 d v2 v3 v4) => HI0 d v2 v3 v4 w2 hb hd (HQ.out w2 hw) h2)
  have HE := hide (fun p2 p3 p4 q2 q3 q4 w2 hb h1 h2 => eqLy_same (w := w2) (d := d) (p2 := p2) (p3 := p3) (p4 := p4) (q2 := q2) (q3 := q3) (q4 := q4) hb h1 h2)
  have HF := hide (hf d)
  obtain ⟨r, hr⟩ : ∃ r, f d = r := ⟨_, rfl⟩
  obtain ⟨cd, hcd⟩ : ∃ c, fc d = c := ⟨_, rfl⟩
  rw [hr] at HF
  simp only [hr, hcd] at HS HI
  have HER := hide (fun p1 p2 p3 p4 q1 q2 q3 q4 w2 hb h1 h2 => eqGr_same (w := w2) (d := r) (p1 := p1) (p2 := p2) (p3 := p3) (p4 := p4) (q1 := q1) (q2 := q2) (q3 := q3) (q4 := q4) hb h1 h2)
  have tcd : (cd != cd) = false := by simp
  clear h hd HS0 HI0 hf hr hcd hQ hq
  obtain ⟨x0, x1, x2, x3, x4⟩ := d
  obtain ⟨m0, m1, m2, m3, m4⟩ := r
  unfold lyagg at HSZ HTO HS HI HE ⊢
  unfold gragg at HS HI HER
  simp only at HSZ HTO HS HI HE HER ⊢
  obtain ⟨W0, hW0⟩ : ∃ W, w.alloc (.cells #[.int .i64 x0, .int .i64 x1, .slice a2 (x2.length) c2, .slice a3 (x3.length) c3, .slice a4 (x4.length) c4] 25) = W := ⟨_, rfl⟩
  have HB0 : Hid (Below w.heap.size w W0) := by rw [← hW0]; exact (Below.refl _ _).alloc (Nat.le_refl _) _
  have HA0 : Hid (Blk W0 w.heap.size 25 #[.int .i64 x0, .int .i64 x1, .slice a2 (x2.length) c2, .slice a3 (x3.length) c3, .slice a4 (x4.length) c4]) := by rw [← hW0]; exact Blk.new _ _ _
  have HW := hide hW0
  clear hW0
  go_enter Tryd.func3, Tryd.ntmps3
  go_wp2_with fail
  rw [HW.out]
  refine (HSZ.out _ HB0.out).mono ?_
  rintro e w1 ⟨r1, rfl, hm, hr, ho, hb1⟩
  have HA1 := hide (HA0.out.below hb1)
  have HB1 : Hid (Below w.heap.size w w1) := HB0.out.trans (hb1.mono HB0.out.size)
  have HOK := hide ho
  clear hb1 ho HA0 HB0 HW HSZ
  by_cases hr0 : r1 < 0
  · have t0 : decide (r1 < 0) = true := decide_eq_true hr0
    go_wp2
    go_ret
    exact ⟨rfl, HB1.out⟩
  have t0 : decide (r1 < 0) = false := decide_eq_false hr0
  have HBD := hide (HOK.out (by omega))
  have HSM := hide (HF.out HBD.out)
  clear HOK HF
  have z0 := HA1.out.cell 0
  have z1 := HA1.out.cell 1
  have z2 := HA1.out.cell 2
  have z3 := HA1.out.cell 3
  have z4 := HA1.out.cell 4
  simp only [List.getElem?_toArray, List.getElem?_cons_succ, List.getElem?_cons_zero] at z0 z1 z2 z3 z4
  go_wp2_with fail
  refine (HTO.out _ HBD.out HB1.out).mono ?_
  rintro e w2 ⟨u2, u3, u4, bla, rfl, ho2, hr2, hb2⟩
  have HB2 : Hid (Below w.heap.size w w2) := HB1.out.trans (hb2.mono HB1.out.size)
  have hv2 := ho2.rd
  obtain ⟨g2a, k2a, rfl⟩ := hv2.cost.slice
  obtain ⟨g3a, k3a, rfl⟩ := hv2.exits.slice
  obtain ⟨g4a, k4a, rfl⟩ := hv2.targets.slice
  have HO2 := hide ho2
  have HA2 := hide (HA1.out.below hb2)
  clear ho2 hr2 hv2 hb2 HA1
  clear z0 z1 z2 z3 z4
  go_wp2_with fail
  refine (HS.out _ _ _ _ HBD.out HB2.out HO2.out.rd).mono ?_
  rintro e w3 ⟨p1, p2, p3, p4, rfl, h0, hb3⟩
  obtain ⟨ap1, cp1, rfl⟩ := h0.start.slice
  obtain ⟨ap2, cp2, rfl⟩ := h0.to.slice
  obtain ⟨ap3, cp3, rfl⟩ := h0.dir.slice
  obtain ⟨ap4, cp4, rfl⟩ := h0.cost.slice
  obtain ⟨W3, hW3⟩ : ∃ W, w3.alloc (.cells #[.int .i64 m0, .slice ap1 (m1.length) cp1, .slice ap2 (m2.length) cp2, .slice ap3 (m3.length) cp3, .slice ap4 (m4.length) cp4] 28) = W := ⟨_, rfl⟩
  have hb3' : Below w3.heap.size w3 W3 := by rw [← hW3]; exact (Below.refl _ _).alloc (Nat.le_refl _) _
  have hb23 : Below w2.heap.size w2 W3 := hb3.trans (hb3'.mono hb3.size)
  have HR3 := hide (h0.below hb3')
  have HB3 : Hid (Below w.heap.size w W3) := HB2.out.trans (hb23.mono HB2.out.size)
  have HY3 : Hid (Blk W3 w3.heap.size 28 #[.int .i64 m0, .slice ap1 (m1.length) cp1, .slice ap2 (m2.length) cp2, .slice ap3 (m3.length) cp3, .slice ap4 (m4.length) cp4]) := by rw [← hW3]; exact Blk.new _ _ _
  have HA3 := hide (HA2.out.below hb23)
  obtain ⟨B3, hB3⟩ : ∃ B, w3.heap.size = B := ⟨_, rfl⟩
  have hlt23 : w.heap.size < B3 := by rw [← hB3]; exact Nat.lt_of_lt_of_le HA2.out.lt hb3.size
  rw [hB3] at HY3
  have HLT3 : Hid (w.heap.size < B3 ∧ B3 < W3.heap.size) := ⟨hlt23, HY3.out.lt⟩
  have HW := hide hW3
  have HBB := hide hB3
  clear h0 hb3 hb3' hb23 hW3 hB3 HA2 HO2 HB2 hlt23
  have z0 := HA3.out.cell 0
  have z1 := HA3.out.cell 1
  have z2 := HA3.out.cell 2
  have z3 := HA3.out.cell 3
  have z4 := HA3.out.cell 4
  simp only [List.getElem?_toArray, List.getElem?_cons_succ, List.getElem?_cons_zero] at z0 z1 z2 z3 z4
  rw [← HW.out] at z0 z1 z2 z3 z4
  have hne3 : w3.heap.size ≠ w.heap.size := by have h1 := HLT3.out; have h3 := HBB.out; omega
  have hne3' : w.heap.size ≠ w3.heap.size := fun e => hne3 e.symm
  go_wp2_with fail
  rw [HW.out]
  try rw [HBB.out]
  clear HW
  refine (HTO.out _ HBD.out HB3.out).mono ?_
  rintro e w4 ⟨u2, u3, u4, blb, rfl, ho4, hr4, hb4⟩
  try rw [HBB.out]
  clear HBB
  have HB4 : Hid (Below w.heap.size w w4) := HB3.out.trans (hb4.mono HB3.out.size)
  have hv4 := ho4.rd
  obtain ⟨g2b, k2b, rfl⟩ := hv4.cost.slice
  obtain ⟨g3b, k3b, rfl⟩ := hv4.exits.slice
  obtain ⟨g4b, k4b, rfl⟩ := hv4.targets.slice
  have HO4 := hide ho4
  have HF4 := hide hr4
  have HA4 := hide (HA3.out.below hb4)
  have HY4 := hide (HY3.out.below hb4)
  have HZ4 : Hid (W3.heap.size ≤ w4.heap.size) := hb4.size
  have HK4 : Hid (Below W3.heap.size W3 w4) := hb4
  clear ho4 hr4 hv4 hb4 hne3 hne3' HA3 HY3
  clear z0 z1 z2 z3 z4
  obtain ⟨W5, hW5⟩ : ∃ W, w4.alloc (.cells #[.int .i64 x0, .int .i64 x1, .slice g2b (x2.length) k2b, .slice g3b (x3.length) k3b, .slice g4b (x4.length) k4b] 33) = W := ⟨_, rfl⟩
  have hb5 : Below w4.heap.size w4 W5 := by rw [← hW5]; exact (Below.refl _ _).alloc (Nat.le_refl _) _
  have HB5 : Hid (Below w.heap.size w W5) := HB4.out.trans (hb5.mono HB4.out.size)
  have HK5 : Hid (Below W3.heap.size W3 W5) := HK4.out.trans (hb5.mono HK4.out.size)
  have HX5 : Hid (Blk W5 w4.heap.size 33 #[.int .i64 x0, .int .i64 x1, .slice g2b (x2.length) k2b, .slice g3b (x3.length) k3b, .slice g4b (x4.length) k4b]) := by rw [← hW5]; exact Blk.new _ _ _
  have HA5 := hide (HA4.out.below hb5)
  have HY5 := hide (HY4.out.below hb5)
  have HO5 := hide (HO4.out.below hb5)
  obtain ⟨B5, hB5⟩ : ∃ B, w4.heap.size = B := ⟨_, rfl⟩
  have HS5 : Hid (W5.heap.size = B5 + 1) := by show _ = _; rw [← hW5, World.size_alloc, hB5]
  have HFX : Hid (blb.Nodup ∧ (∀ g ∈ blb, W3.heap.size ≤ g) ∧ ∀ g ∈ blb, g < B5) := ⟨HF4.out.nd, HF4.out.lo, fun g hg => by rw [← hB5]; exact HF4.out.hi g hg⟩
  have HW := hide hW5
  have HBB := hide hB5
  have HB35 : Hid (W3.heap.size ≤ B5) := by show _ ≤ _; rw [← hB5]; exact HZ4.out
  rw [hB5] at HX5
  clear hb5 hW5 hB5
  go_wp2_with fail
  rw [HW.out, HBB.out]
  refine (HI.out _ _ _ _ HBD.out HB5.out HO5.out.rd).mono ?_
  clear HA4 HO4 HW HBB HF4 HK4 HZ4 HY4
  rintro e w6 ⟨q1, q2, q3, q4, blg, rfl, hg6, hf6, hb6⟩
  have hv6 := hg6.rd
  obtain ⟨ag1, cg1, rfl⟩ := hv6.start.slice
  obtain ⟨ag2, cg2, rfl⟩ := hv6.to.slice
  obtain ⟨ag3, cg3, rfl⟩ := hv6.dir.slice
  obtain ⟨ag4, cg4, rfl⟩ := hv6.cost.slice
  obtain ⟨W6, hW6⟩ : ∃ W, w6.alloc (.cells #[.int .i64 m0, .slice ag1 (m1.length) cg1, .slice ag2 (m2.length) cg2, .slice ag3 (m3.length) cg3, .slice ag4 (m4.length) cg4] 28) = W := ⟨_, rfl⟩
  have hb6' : Below w6.heap.size w6 W6 := by rw [← hW6]; exact (Below.refl _ _).alloc (Nat.le_refl _) _
  have hb56 : Below W5.heap.size W5 W6 := hb6.trans (hb6'.mono hb6.size)
  have HG6 := hide (hg6.below hb6')
  obtain ⟨B6, hB6⟩ : ∃ B, w6.heap.size = B := ⟨_, rfl⟩
  have HFG : Hid (blg.Nodup ∧ (∀ g ∈ blg, B5 < g) ∧ ∀ g ∈ blg, g < B6) := ⟨hf6.nd, fun g hg => by have h1 := hf6.lo g hg; have h2 := HS5.out; omega, fun g hg => by rw [← hB6]; exact hf6.hi g hg⟩
  have HZ56 : Hid (B5 < B6) := by have h1 := HS5.out; have h2 := hb6.size; show _ < _; omega
  have HX6 := hide (HX5.out.below hb56)
  have HA6 := hide (HA5.out.below hb56)
  have HY6 := hide (HY5.out.below hb56)
  have HO6 := hide (HO5.out.below hb56)
  have HU6 : Hid (Blk W6 w6.heap.size 28 #[.int .i64 m0, .slice ag1 (m1.length) cg1, .slice ag2 (m2.length) cg2, .slice ag3 (m3.length) cg3, .slice ag4 (m4.length) cg4]) := by rw [← hW6]; exact Blk.new _ _ _
  rw [hB6] at HU6
  have HB6 : Hid (Below w.heap.size w W6) := HB5.out.trans (hb56.mono HB5.out.size)
  have HK6 : Hid (Below W3.heap.size W3 W6) := HK5.out.trans (hb56.mono HK5.out.size)
  have HW := hide hW6
  have HBB := hide hB6
  clear hg6 hf6 hb6 hb6' hb56 hW6 hB6 hv6 HX5 HA5 HO5 HB5 HK5 HS5 HY5
  have y0 := HY6.out.cell 0
  have y1 := HY6.out.cell 1
  have y2 := HY6.out.cell 2
  have y3 := HY6.out.cell 3
  have y4 := HY6.out.cell 4
  simp only [List.getElem?_toArray, List.getElem?_cons_succ, List.getElem?_cons_zero] at y0 y1 y2 y3 y4
  rw [← HW.out] at y0 y1 y2 y3 y4
  have hne6 : B3 ≠ w6.heap.size := by have h1 := HLT3.out; have h2 := HZ56.out; have h3 := HB35.out; have h4 := HBB.out; omega
  go_wp2_with fail
  rw [HW.out, HBB.out]
  clear HW HBB
  refine (HER.out _ _ _ _ _ _ _ _ _ HSM.out HG6.out.rd (HR3.out.below HK6.out)).mono ?_
  rintro e w7 ⟨rfl, hb7⟩
  have HG7 := hide (HG6.out.below hb7)
  have HX7 := hide (HX6.out.below hb7)
  have HA7 := hide (HA6.out.below hb7)
  have HY7 := hide (HY6.out.below hb7)
  have HU7 := hide (HU6.out.below hb7)
  have HO7 := hide (HO6.out.below hb7)
  have HB7 : Hid (Below w.heap.size w w7) := HB6.out.trans (hb7.mono HB6.out.size)
  have HK7 : Hid (Below W3.heap.size W3 w7) := HK6.out.trans (hb7.mono HK6.out.size)
  clear hb7 HG6 HX6 HA6 HO6 HB6 HK6 HY6 HU6 hne6
  clear y0 y1 y2 y3 y4
  have z0 := HA7.out.cell 0
  have z1 := HA7.out.cell 1
  have z2 := HA7.out.cell 2
  have z3 := HA7.out.cell 3
  have z4 := HA7.out.cell 4
  simp only [List.getElem?_toArray, List.getElem?_cons_succ, List.getElem?_cons_zero] at z0 z1 z2 z3 z4
  have y0 := HX7.out.cell 0
  have y1 := HX7.out.cell 1
  have y2 := HX7.out.cell 2
  have y3 := HX7.out.cell 3
  have y4 := HX7.out.cell 4
  simp only [List.getElem?_toArray, List.getElem?_cons_succ, List.getElem?_cons_zero] at y0 y1 y2 y3 y4
  have HTO7 := hide (HTO.out w7.drew HBD.out HB7.out.drew)
  have hmx : Tryd.prog.follows .mixedOrders = true := by kernel_rfl
  have HK : Hid (∀ w8, Below w7.drew.heap.size w7.drew w8 → Below w7.heap.size w7 w8 ∧ LyV w8 ⟨x0, x1, x2, x3, x4⟩ (.slice g2b (x2.length) k2b) (.slice g3b (x3.length) k3b) (.slice g4b (x4.length) k4b) ∧ w8.cell? ⟨B5, 0, none⟩ = some (.int .i64 x0) ∧ w8.cell? ⟨B5, 1, none⟩ = some (.int .i64 x1) ∧ w8.cell? ⟨B5, 2, none⟩ = some (.slice g2b (x2.length) k2b) ∧ w8.cell? ⟨B5, 3, none⟩ = some (.slice g3b (x3.length) k3b) ∧ w8.cell? ⟨B5, 4, none⟩ = some (.slice g4b (x4.length) k4b)) := fun w8 hb8 => by
    have hbx : Below w7.heap.size w7 w8 := (Below.refl _ _).drew.trans hb8
    exact ⟨hbx, HO7.out.rd.below hbx, cell_kept y0 hbx, cell_kept y1 hbx, cell_kept y2 hbx, cell_kept y3 hbx, cell_kept y4 hbx⟩
  go_wp2_with fail
  go_region_with (first
    | (go_at_call 6; refine HTO7.out.mono ?_; rintro e w8 ⟨u2, u3, u4, blc, rfl, ho8, hr8, hb8⟩; obtain ⟨hk1, hk2, n0, n1, n2, n3, n4⟩ := HK.out w8 hb8; have HB8 := hide hk1; have HV8 := hide hk2; have ho8' := ho8.rd; obtain ⟨g2c, k2c, rfl⟩ := ho8'.cost.slice; obtain ⟨g3c, k3c, rfl⟩ := ho8'.exits.slice; obtain ⟨g4c, k4c, rfl⟩ := ho8'.targets.slice; have HO8 := hide ho8'; clear ho8 ho8' hr8 hb8 hk1 hk2)
    | (go_at_call 9; refine (HE.out _ _ _ _ _ _ _ HBD.out HV8.out HO8.out).mono ?_; rintro e w9 ⟨rfl, hb9⟩; have HB9 := hide (HB8.out.trans (hb9.mono HB8.out.size)); clear hb9))
  all_goals
    have HA9 := hide (HA7.out.below HB9.out)
    have HX9 := hide (HX7.out.below HB9.out)
    have HY9 := hide (HY7.out.below HB9.out)
    have HU9 := hide (HU7.out.below HB9.out)
    have HO9 := hide (HO7.out.below HB9.out)
    have HG9 := hide (HG7.out.below HB9.out)
    have HW9 : Hid (Below w.heap.size w w9) := HB7.out.trans (HB9.out.mono HB7.out.size)
    have HK9 : Hid (Below W3.heap.size W3 w9) := HK7.out.trans (HB9.out.mono HK7.out.size)
    clear n0 n1 n2 n3 n4 y0 y1 y2 y3 y4 z0 z1 z2 z3 z4 HB9 HB8 HV8 HO8 HK HTO7 HA7 HX7 HO7 HG7 HB7 HK7 HY7 HU7
    have y0 := HX9.out.cell 0
    have y1 := HX9.out.cell 1
    have y2 := HX9.out.cell 2
    have y3 := HX9.out.cell 3
    have y4 := HX9.out.cell 4
    simp only [List.getElem?_toArray, List.getElem?_cons_succ, List.getElem?_cons_zero] at y0 y1 y2 y3 y4
    go_wp2_with fail
    change Calls Tryd.prog 10 #[lyagg ⟨x0, x1, x2, x3, x4⟩ (.slice g2b (x2.length) k2b) (.slice g3b (x3.length) k3b) (.slice g4b (x4.length) k4b), .int .i64 ((1 : Nat) : Int)] w9 _
    refine (markLy_f (w := w9) (k := 1) HBD.out (by omega) HO9.out HFX.out.1).mono ?_
    rintro e w10 ⟨rfl, _, hw10⟩
    obtain ⟨kx, hkx⟩ : ∃ kx, 1 + LyNv ⟨x0, x1, x2, x3, x4⟩ = kx := ⟨_, rfl⟩
    rw [hkx]
    have tx : decide ((kx : Int) < 0) = false := decide_eq_false (by omega)
    have HK10 : Hid (Below W3.heap.size W3 w10) := HK9.out.trans (hw10.below HFX.out.2.1 HK9.out.size)
    have HW10 : Hid (Below w.heap.size w w10) := HW9.out.trans (hw10.below (fun g hg => by have h1 := HFX.out.2.1 g hg; have h2 := HLT3.out; omega) HW9.out.size)
    have HG10 := hide (HG9.out.keep (fun g hg => hw10.blk g (HG9.out.lt g hg) (fun hm => by have h1 := HFX.out.2.2 g hm; have h2 := HFG.out.2.1 g hg; omega)))
    have HA10 : Hid (Blk w10 w.heap.size 25 #[.int .i64 x0, .int .i64 x1, .slice a2 (x2.length) c2, .slice a3 (x3.length) c3, .slice a4 (x4.length) c4]) := (hw10.blk _ HA9.out.lt (fun hm => by have h1 := HFX.out.2.1 _ hm; have h2 := HLT3.out; omega)).trans HA9.out
    have HY10 : Hid (Blk w10 B3 28 #[.int .i64 m0, .slice ap1 (m1.length) cp1, .slice ap2 (m2.length) cp2, .slice ap3 (m3.length) cp3, .slice ap4 (m4.length) cp4]) := (hw10.blk _ HY9.out.lt (fun hm => by have h1 := HFX.out.2.1 _ hm; have h2 := HLT3.out; omega)).trans HY9.out
    have HU10 : Hid (Blk w10 B6 28 #[.int .i64 m0, .slice ag1 (m1.length) cg1, .slice ag2 (m2.length) cg2, .slice ag3 (m3.length) cg3, .slice ag4 (m4.length) cg4]) := (hw10.blk _ HU9.out.lt (fun hm => by have h1 := HFX.out.2.2 _ hm; have h2 := HZ56.out; omega)).trans HU9.out
    clear hw10 hkx y0 y1 y2 y3 y4 HA9 HX9 HO9 HG9 HW9 HK9 HY9 HU9
    have z0 := HU10.out.cell 0
    have z1 := HU10.out.cell 1
    have z2 := HU10.out.cell 2
    have z3 := HU10.out.cell 3
    have z4 := HU10.out.cell 4
    simp only [List.getElem?_toArray, List.getElem?_cons_succ, List.getElem?_cons_zero] at z0 z1 z2 z3 z4
    have y0 := HY10.out.cell 0
    have y1 := HY10.out.cell 1
    have y2 := HY10.out.cell 2
    have y3 := HY10.out.cell 3
    have y4 := HY10.out.cell 4
    simp only [List.getElem?_toArray, List.getElem?_cons_succ, List.getElem?_cons_zero] at y0 y1 y2 y3 y4
    go_wp2_with fail
    refine (HER.out _ _ _ _ _ _ _ _ _ HSM.out HG10.out.rd (HR3.out.below HK10.out)).mono ?_
    rintro e w11 ⟨rfl, hb11⟩
    have HG11 := hide (HG10.out.below hb11)
    have HA11 := hide (HA10.out.below hb11)
    have HY11 := hide (HY10.out.below hb11)
    have HU11 := hide (HU10.out.below hb11)
    have HW11 : Hid (Below w.heap.size w w11) := HW10.out.trans (hb11.mono HW10.out.size)
    have HK11 : Hid (Below W3.heap.size W3 w11) := HK10.out.trans (hb11.mono HK10.out.size)
    clear hb11 tx HG10 HA10 HW10 HK10 HY10 HU10
    clear z0 z1 z2 z3 z4 y0 y1 y2 y3 y4
    have z0 := HU11.out.cell 0
    have z1 := HU11.out.cell 1
    have z2 := HU11.out.cell 2
    have z3 := HU11.out.cell 3
    have z4 := HU11.out.cell 4
    simp only [List.getElem?_toArray, List.getElem?_cons_succ, List.getElem?_cons_zero] at z0 z1 z2 z3 z4
    go_wp2_with fail
    change Calls Tryd.prog 11 #[gragg ⟨m0, m1, m2, m3, m4⟩ (.slice ag1 (m1.length) cg1) (.slice ag2 (m2.length) cg2) (.slice ag3 (m3.length) cg3) (.slice ag4 (m4.length) cg4), .int .i64 ((1 : Nat) : Int)] w11 _
    refine (markGr_f (w := w11) (k := 1) HSM.out (by omega) HG11.out HFG.out.1).mono ?_
    rintro e w12 ⟨rfl, hm12, hw12⟩
    have HM12 := hide hm12
    obtain ⟨km, hkm⟩ : ∃ km, 1 + GrNv ⟨m0, m1, m2, m3, m4⟩ = km := ⟨_, rfl⟩
    rw [hkm]
    have HKM := hide hkm
    have tm : decide ((km : Int) < 0) = false := decide_eq_false (by omega)
    have te : ((km : Int) != (km : Int)) = false := by simp
    have HK12 : Hid (Below W3.heap.size W3 w12) := HK11.out.trans (hw12.below (fun g hg => by have h1 := HFG.out.2.1 g hg; have h2 := HB35.out; omega) HK11.out.size)
    have HW12 : Hid (Below w.heap.size w w12) := HW11.out.trans (hw12.below (fun g hg => by have h1 := HFG.out.2.1 g hg; have h2 := HB35.out; have h3 := HLT3.out; omega) HW11.out.size)
    have HA12 : Hid (Blk w12 w.heap.size 25 #[.int .i64 x0, .int .i64 x1, .slice a2 (x2.length) c2, .slice a3 (x3.length) c3, .slice a4 (x4.length) c4]) := (hw12.blk _ HA11.out.lt (fun hm => by have h1 := HFG.out.2.1 _ hm; have h2 := HB35.out; have h3 := HLT3.out; omega)).trans HA11.out
    have HY12 : Hid (Blk w12 B3 28 #[.int .i64 m0, .slice ap1 (m1.length) cp1, .slice ap2 (m2.length) cp2, .slice ap3 (m3.length) cp3, .slice ap4 (m4.length) cp4]) := (hw12.blk _ HY11.out.lt (fun hm => by have h1 := HFG.out.2.1 _ hm; have h2 := HB35.out; have h3 := HLT3.out; omega)).trans HY11.out
    have HU12 : Hid (Blk w12 B6 28 #[.int .i64 m0, .slice ag1 (m1.length) cg1, .slice ag2 (m2.length) cg2, .slice ag3 (m3.length) cg3, .slice ag4 (m4.length) cg4]) := (hw12.blk _ HU11.out.lt (fun hm => by have h1 := HFG.out.2.2 _ hm; omega)).trans HU11.out
    clear hm12 hw12 hkm HG11 HA11 HW11 HK11 HY11 HU11
    clear z0 z1 z2 z3 z4
    have HH12 : Hid (∀ wz, Below w12.heap.size w12 wz → Calls Tryd.prog 12 #[gragg ⟨m0, m1, m2, m3, m4⟩ (.slice ag1 (m1.length) cg1) (.slice ag2 (m2.length) cg2) (.slice ag3 (m3.length) cg3) (.slice ag4 (m4.length) cg4), .int .i64 ((1 : Nat) : Int)] wz fun e w' => e = .returned (.int .i64 (km : Nat)) ∧ Below wz.heap.size wz w') := fun wz hz => by
      have := heldGr_f (w := wz) (k := 1) HSM.out (by omega) (HM12.out.below hz)
      rw [HKM.out] at this
      exact this
    have z0 := HU12.out.cell 0
    have z1 := HU12.out.cell 1
    have z2 := HU12.out.cell 2
    have z3 := HU12.out.cell 3
    have z4 := HU12.out.cell 4
    simp only [List.getElem?_toArray, List.getElem?_cons_succ, List.getElem?_cons_zero] at z0 z1 z2 z3 z4
    go_wp2_with fail
    change Calls Tryd.prog 12 #[gragg ⟨m0, m1, m2, m3, m4⟩ (.slice ag1 (m1.length) cg1) (.slice ag2 (m2.length) cg2) (.slice ag3 (m3.length) cg3) (.slice ag4 (m4.length) cg4), .int .i64 ((1 : Nat) : Int)] w12 _
    refine (HH12.out _ (Below.refl _ _)).mono ?_
    rintro e wq ⟨rfl, hwq⟩
    have HDQ := hide hwq
    have HWQ : Hid (Below w.heap.size w wq) := HW12.out.trans (hwq.mono HW12.out.size)
    have HAQ := hide (HA12.out.below hwq)
    clear hwq
    clear z0 z1 z2 z3 z4
    have z0 := HAQ.out.cell 0
    have z1 := HAQ.out.cell 1
    have z2 := HAQ.out.cell 2
    have z3 := HAQ.out.cell 3
    have z4 := HAQ.out.cell 4
    simp only [List.getElem?_toArray, List.getElem?_cons_succ, List.getElem?_cons_zero] at z0 z1 z2 z3 z4
    go_wp2_with fail
    refine (HTO.out _ HBD.out HWQ.out).mono ?_
    rintro e w13 ⟨u2, u3, u4, bld, rfl, ho13, _, hb13⟩
    have HW13 : Hid (Below w.heap.size w w13) := HWQ.out.trans (hb13.mono HWQ.out.size)
    have hv13 := ho13.rd
    obtain ⟨g2d, k2d, rfl⟩ := hv13.cost.slice
    obtain ⟨g3d, k3d, rfl⟩ := hv13.exits.slice
    obtain ⟨g4d, k4d, rfl⟩ := hv13.targets.slice
    have HV13 := hide hv13
    have HD13 : Hid (Below w12.heap.size w12 w13) := HDQ.out.trans (hb13.mono HDQ.out.size)
    clear ho13 hv13 hb13 HAQ
    clear z0 z1 z2 z3 z4
    go_wp2_with fail
    refine (HI.out _ _ _ _ HBD.out HW13.out HV13.out).mono ?_
    rintro e w14 ⟨h1, h2, h3, h4, blh, rfl, hg14, _, hb14⟩
    have hv14 := hg14.rd
    obtain ⟨ah1, ch1, rfl⟩ := hv14.start.slice
    obtain ⟨ah2, ch2, rfl⟩ := hv14.to.slice
    obtain ⟨ah3, ch3, rfl⟩ := hv14.dir.slice
    obtain ⟨ah4, ch4, rfl⟩ := hv14.cost.slice
    obtain ⟨W14, hW14⟩ : ∃ W, w14.alloc (.cells #[.int .i64 m0, .slice ah1 (m1.length) ch1, .slice ah2 (m2.length) ch2, .slice ah3 (m3.length) ch3, .slice ah4 (m4.length) ch4] 28) = W := ⟨_, rfl⟩
    have hb14' : Below w14.heap.size w14 W14 := by rw [← hW14]; exact (Below.refl _ _).alloc (Nat.le_refl _) _
    have HV14 := hide (hv14.below hb14')
    have HLT14 : Hid (B3 < w14.heap.size) := (HY12.out.below (HD13.out.trans (hb14.mono HD13.out.size))).lt
    have HD14 : Hid (Below w12.heap.size w12 W14) := (HD13.out.trans (hb14.mono HD13.out.size)).trans (hb14'.mono (HD13.out.trans (hb14.mono HD13.out.size)).size)
    have HK14 : Hid (Below W3.heap.size W3 W14) := HK12.out.trans (HD14.out.mono HK12.out.size)
    have HU14 := hide (HU12.out.below HD14.out)
    have HY14 := hide (HY12.out.below HD14.out)
    obtain ⟨B14, hB14⟩ : ∃ B, w14.heap.size = B := ⟨_, rfl⟩
    have HW := hide hW14
    have HBB := hide hB14
    clear hg14 hb14 hb14' hv14 hW14 hB14 HD13 HV13 HU12 HY12
    have y0 := HY14.out.cell 0
    have y1 := HY14.out.cell 1
    have y2 := HY14.out.cell 2
    have y3 := HY14.out.cell 3
    have y4 := HY14.out.cell 4
    simp only [List.getElem?_toArray, List.getElem?_cons_succ, List.getElem?_cons_zero] at y0 y1 y2 y3 y4
    rw [← HW.out] at y0 y1 y2 y3 y4
    have hne14 : B3 ≠ w14.heap.size := by have h1 := HLT14.out; omega
    go_wp2_with fail
    rw [HW.out, HBB.out]
    clear HW HBB
    refine (HER.out _ _ _ _ _ _ _ _ _ HSM.out HV14.out (HR3.out.below HK14.out)).mono ?_
    rintro e w15 ⟨rfl, hb15⟩
    have HD15 : Hid (Below w12.heap.size w12 w15) := HD14.out.trans (hb15.mono HD14.out.size)
    have HU15 := hide (HU14.out.below hb15)
    have HW15 : Hid (Below w.heap.size w w15) := HW12.out.trans (HD15.out.mono HW12.out.size)
    clear hb15 HD14 HU14 HY14 HV14 HK14
    clear y0 y1 y2 y3 y4
    have z0 := HU15.out.cell 0
    have z1 := HU15.out.cell 1
    have z2 := HU15.out.cell 2
    have z3 := HU15.out.cell 3
    have z4 := HU15.out.cell 4
    simp only [List.getElem?_toArray, List.getElem?_cons_succ, List.getElem?_cons_zero] at z0 z1 z2 z3 z4
    go_wp2_with fail
    change Calls Tryd.prog 12 #[gragg ⟨m0, m1, m2, m3, m4⟩ (.slice ag1 (m1.length) cg1) (.slice ag2 (m2.length) cg2) (.slice ag3 (m3.length) cg3) (.slice ag4 (m4.length) cg4), .int .i64 ((1 : Nat) : Int)] w15 _
    refine (HH12.out _ HD15.out).mono ?_
    rintro e wz ⟨rfl, hwz⟩
    have HWZ : Hid (Below w.heap.size w wz) := HW15.out.trans (hwz.mono HW15.out.size)
    clear hwz
    go_wp2
    go_ret
    exact ⟨rfl, HWZ.out⟩
end Go.Proofs.YtpoanbpgpgflcaaDoor
