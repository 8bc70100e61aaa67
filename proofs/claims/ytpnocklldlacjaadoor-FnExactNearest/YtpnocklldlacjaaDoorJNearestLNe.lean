/-
  The walk of laws.FnExactNearest, out of what impl.Nearest and spec.Nearest answer.
-/
import Derived.Test.YtpnocklldlacjaaDoorJNearestTK
import Derived.Test.YtpnocklldlacjaaDoorJNearestTb1
import Derived.Test.YtpnocklldlacjaaDoorJNearestTb2
import Derived.Test.YtpnocklldlacjaaDoorJNearestTb3
import Derived.BigQuiet
import Derived.Deep.QuietTactic
import Derived.Deep.RegionWith
namespace Go.Proofs.YtpnocklldlacjaaDoor
open Go.RowKit

set_option maxHeartbeats 2000000 in
set_option maxRecDepth 1000000 in
theorem lawNe (kd ce : Int) (Q : Tb → World → Prop) (hQ : ∀ d w w', Q d w → Below w.heap.size w w' → Q d w')
    (HS0 : ∀ d v2 v3 v4 w, TbB d → Q d w → TbV w d v2 v3 v4 → Calls Tryd.prog 12 #[tbagg d v2 v3 v4, .int .i64 kd, .int .i64 ce] w fun e w' => NrRes d kd ce e ∧ Below w.heap.size w w')
    (HI0 : ∀ d v2 v3 v4 w, TbB d → Q d w → TbV w d v2 v3 v4 → Calls Tryd.prog 13 #[tbagg d v2 v3 v4, .int .i64 kd, .int .i64 ce] w fun e w' => NrRes d kd ce e ∧ Below w.heap.size w w')
    (d : Tb) (v2 v3 v4 : Value) (w : World) (hd : TbL d) (hq : Q d w) (h : TbV w d v2 v3 v4) :
    Calls Tryd.prog 4 #[tbagg d v2 v3 v4, .int .i64 kd, .int .i64 ce] w fun e w' => e = .returned (.bool true) ∧ Below w.heap.size w w' := by
  obtain ⟨a2, c2, hv2⟩ := h.targets.slice
  obtain ⟨a3, c3, hv3⟩ := h.dist.slice
  obtain ⟨a4, c4, hv4⟩ := h.hop.slice
  subst hv2 hv3 hv4
  have HQ := hide (fun w2 (hb2 : Below w.heap.size w w2) => hQ d w w2 hq hb2)
  have HSZ := hide (fun w2 (hb2 : Below w.heap.size w w2) => szTb_r (w := w2) (left := 1048576) (by omega) (by omega) hd (h.below hb2))
  have HTO := hide (fun w2 (hb : TbB d) (hb2 : Below w.heap.size w w2) => toTb_any d _ _ _ w2 hb (h.below hb2))
  have HS := hide (fun v2 v3 v4 w2 (hb : TbB d) (hb2 : Below w.heap.size w w2) (h2 : TbV w2 d v2 v3 v4) => HS0 d v2 v3 v4 w2 hb (HQ.out w2 hb2) h2)
  have HI := hide (fun v2 v3 v4 w2 (hb : TbB d) (hb2 : Below w.heap.size w w2) (h2 : TbV w2 d v2 v3 v4) => HI0 d v2 v3 v4 w2 hb (HQ.out w2 hb2) h2)
  have HE := hide (fun p2 p3 p4 q2 q3 q4 w2 hb h1 h2 => eqTb_same (w := w2) (d := d) (p2 := p2) (p3 := p3) (p4 := p4) (q2 := q2) (q3 := q3) (q4 := q4) hb h1 h2)
  clear h hd hq HS0 HI0 hQ
  obtain ⟨x0, x1, x2, x3, x4⟩ := d
  unfold tbagg at HSZ HTO HS HI HE ⊢
  simp only at HSZ HTO HS HI HE ⊢
  obtain ⟨W0, hW0⟩ : ∃ W, w.alloc (.cells #[.int .i64 x0, .int .i64 x1, .slice a2 (x2.length) c2, .slice a3 (x3.length) c3, .slice a4 (x4.length) c4] 25) = W := ⟨_, rfl⟩
  have HB0 : Hid (Below w.heap.size w W0) := by rw [← hW0]; exact (Below.refl _ _).alloc (Nat.le_refl _) _
  have HA0 : Hid (Blk W0 w.heap.size 25 #[.int .i64 x0, .int .i64 x1, .slice a2 (x2.length) c2, .slice a3 (x3.length) c3, .slice a4 (x4.length) c4]) := by rw [← hW0]; exact Blk.new _ _ _
  have HW := hide hW0
  clear hW0
  go_enter Tryd.func4, Tryd.ntmps4
  go_wp2_with fail
  rw [HW.out]
  refine (HSZ.out _ HB0.out).mono ?_
  rintro e w1 ⟨r, rfl, hm, hr, ho, hb1⟩
  have HA1 := hide (HA0.out.below hb1)
  have HB1 : Hid (Below w.heap.size w w1) := HB0.out.trans (hb1.mono HB0.out.size)
  have HOK := hide ho
  clear hb1 ho HA0 HB0 HW HSZ
  by_cases hr0 : r < 0
  · have t0 : decide (r < 0) = true := decide_eq_true hr0
    go_wp2
    go_ret
    exact ⟨rfl, HB1.out⟩
  have t0 : decide (r < 0) = false := decide_eq_false hr0
  have HBD := hide (HOK.out (by omega))
  clear HOK
  have z0 := HA1.out.cell 0
  have z1 := HA1.out.cell 1
  have z2 := HA1.out.cell 2
  have z3 := HA1.out.cell 3
  have z4 := HA1.out.cell 4
  simp only [List.getElem?_toArray, List.getElem?_cons_succ, List.getElem?_cons_zero] at z0 z1 z2 z3 z4
  go_wp2_with fail
  refine (HTO.out _ HBD.out HB1.out).mono ?_
  rintro e w2 ⟨u2, u3, u4, rfl, ho2, hb2⟩
  have HB2 : Hid (Below w.heap.size w w2) := HB1.out.trans (hb2.mono HB1.out.size)
  have ho2' := ho2 w.heap.size HA1.out.lt
  obtain ⟨g2a, k2a, rfl⟩ := ho2'.targets.slice
  obtain ⟨g3a, k3a, rfl⟩ := ho2'.dist.slice
  obtain ⟨g4a, k4a, rfl⟩ := ho2'.hop.slice
  have HO2 := hide ho2'
  have HA2 := hide (HA1.out.below hb2)
  clear ho2 ho2' hb2 HA1
  clear z0 z1 z2 z3 z4
  go_wp2_with fail
  refine (HS.out _ _ _ _ HBD.out HB2.out HO2.out.rd).mono ?_
  rintro e w3 ⟨⟨r1, r2, rfl, hi1⟩, hb3⟩
  have HI1 := hide hi1
  have HA3 := hide (HA2.out.below hb3)
  have HB3 : Hid (Below w.heap.size w w3) := HB2.out.trans (hb3.mono HB2.out.size)
  clear hi1 hb3 HA2 HO2
  have z0 := HA3.out.cell 0
  have z1 := HA3.out.cell 1
  have z2 := HA3.out.cell 2
  have z3 := HA3.out.cell 3
  have z4 := HA3.out.cell 4
  simp only [List.getElem?_toArray, List.getElem?_cons_succ, List.getElem?_cons_zero] at z0 z1 z2 z3 z4
  go_wp2_with fail
  refine (HTO.out _ HBD.out HB3.out).mono ?_
  rintro e w4 ⟨u2, u3, u4, rfl, ho4, hb4⟩
  have HB4 : Hid (Below w.heap.size w w4) := HB3.out.trans (hb4.mono HB3.out.size)
  have ho4' := ho4 w.heap.size HA3.out.lt
  obtain ⟨g2b, k2b, rfl⟩ := ho4'.targets.slice
  obtain ⟨g3b, k3b, rfl⟩ := ho4'.dist.slice
  obtain ⟨g4b, k4b, rfl⟩ := ho4'.hop.slice
  have HO4 := hide ho4'
  have HA4 := hide (HA3.out.below hb4)
  clear ho4 ho4' hb4 HA3
  clear z0 z1 z2 z3 z4
  obtain ⟨W5, hW5⟩ : ∃ W, w4.alloc (.cells #[.int .i64 x0, .int .i64 x1, .slice (some ⟨g2b, 0, none⟩) (x2.length) k2b, .slice (some ⟨g3b, 0, none⟩) (x3.length) k3b, .slice (some ⟨g4b, 0, none⟩) (x4.length) k4b] 30) = W := ⟨_, rfl⟩
  have hb5 : Below w4.heap.size w4 W5 := by rw [← hW5]; exact (Below.refl _ _).alloc (Nat.le_refl _) _
  have HB5 : Hid (Below w.heap.size w W5) := HB4.out.trans (hb5.mono HB4.out.size)
  have HX5 : Hid (Blk W5 w4.heap.size 30 #[.int .i64 x0, .int .i64 x1, .slice (some ⟨g2b, 0, none⟩) (x2.length) k2b, .slice (some ⟨g3b, 0, none⟩) (x3.length) k3b, .slice (some ⟨g4b, 0, none⟩) (x4.length) k4b]) := by rw [← hW5]; exact Blk.new _ _ _
  have HA5 := hide (HA4.out.below hb5)
  have HO5 := hide (HO4.out.below hb5)
  obtain ⟨B5, hB5⟩ : ∃ B, w4.heap.size = B := ⟨_, rfl⟩
  have HW := hide hW5
  have HBB := hide hB5
  rw [hB5] at HX5
  clear hb5 hW5 hB5
  go_wp2_with fail
  rw [HW.out, HBB.out]
  refine (HI.out _ _ _ _ HBD.out HB5.out HO5.out.rd).mono ?_
  clear HA4 HO4 HW HBB
  rintro e w6 ⟨⟨r3, r4, rfl, hi2⟩, hb6⟩
  have HX6 := hide (HX5.out.below hb6)
  have HA6 := hide (HA5.out.below hb6)
  have HO6 := hide (HO5.out.below hb6)
  have HB6 : Hid (Below w.heap.size w w6) := HB5.out.trans (hb6.mono HB5.out.size)
  obtain ⟨rfl, rfl⟩ := hi2.one HI1.out
  have t1 : (r3 != r3) = false := by rw [bne_eq_false_iff_eq]
  have t2 : (r4 != r4) = false := by rw [bne_eq_false_iff_eq]
  clear hi2 hb6 HI1 HX5 HA5 HO5
  have z0 := HA6.out.cell 0
  have z1 := HA6.out.cell 1
  have z2 := HA6.out.cell 2
  have z3 := HA6.out.cell 3
  have z4 := HA6.out.cell 4
  simp only [List.getElem?_toArray, List.getElem?_cons_succ, List.getElem?_cons_zero] at z0 z1 z2 z3 z4
  have y0 := HX6.out.cell 0
  have y1 := HX6.out.cell 1
  have y2 := HX6.out.cell 2
  have y3 := HX6.out.cell 3
  have y4 := HX6.out.cell 4
  simp only [List.getElem?_toArray, List.getElem?_cons_succ, List.getElem?_cons_zero] at y0 y1 y2 y3 y4
  have HTO7 := hide (HTO.out w6.drew HBD.out HB6.out.drew)
  have hmx : Tryd.prog.follows .mixedOrders = true := by kernel_rfl
  have HK : Hid (∀ w8, Below w6.drew.heap.size w6.drew w8 → Below w.heap.size w w8 ∧ TbV w8 ⟨x0, x1, x2, x3, x4⟩ (.slice (some ⟨g2b, 0, none⟩) (x2.length) k2b) (.slice (some ⟨g3b, 0, none⟩) (x3.length) k3b) (.slice (some ⟨g4b, 0, none⟩) (x4.length) k4b) ∧ w.heap.size < w6.drew.heap.size ∧ w8.cell? ⟨B5, 0, none⟩ = some (.int .i64 x0) ∧ w8.cell? ⟨B5, 1, none⟩ = some (.int .i64 x1) ∧ w8.cell? ⟨B5, 2, none⟩ = some (.slice (some ⟨g2b, 0, none⟩) (x2.length) k2b) ∧ w8.cell? ⟨B5, 3, none⟩ = some (.slice (some ⟨g3b, 0, none⟩) (x3.length) k3b) ∧ w8.cell? ⟨B5, 4, none⟩ = some (.slice (some ⟨g4b, 0, none⟩) (x4.length) k4b)) := fun w8 hb8 => by
    have hbx : Below w6.heap.size w6 w8 := (Below.refl _ _).drew.trans hb8
    exact ⟨HB6.out.drew.trans (hb8.mono HB6.out.size), HO6.out.rd.below hbx, HA6.out.lt, cell_kept y0 hbx, cell_kept y1 hbx, cell_kept y2 hbx, cell_kept y3 hbx, cell_kept y4 hbx⟩
  clear HTO HO6 HA6 HX6 HS HI
  go_wp2_with fail
  go_region_with (first
    | (go_at_call 9; refine HTO7.out.mono ?_; rintro e w8 ⟨u2, u3, u4, rfl, ho8, hb8⟩; obtain ⟨hk1, hk2, hk3, n0, n1, n2, n3, n4⟩ := HK.out w8 hb8; have HB8 := hide hk1; have HV8 := hide hk2; have ho8' := ho8 _ hk3; obtain ⟨g2c, k2c, rfl⟩ := ho8'.targets.slice; obtain ⟨g3c, k3c, rfl⟩ := ho8'.dist.slice; obtain ⟨g4c, k4c, rfl⟩ := ho8'.hop.slice; have HO8 := hide ho8'; clear ho8 ho8' hb8 hk1 hk2 hk3)
    | (go_at_call 11; refine (HE.out _ _ _ _ _ _ _ HBD.out HV8.out HO8.out.rd).mono ?_; rintro e w9 ⟨rfl, hb9⟩; have HB9 := hide (HB8.out.trans (hb9.mono HB8.out.size)); clear hb9))
  all_goals go_wp2
  all_goals go_ret
  all_goals exact ⟨rfl, HB9.out⟩
end Go.Proofs.YtpnocklldlacjaaDoor
