/-
  The walk of laws.FnExactValidFleet, out of what impl.ValidFleet and spec.ValidFleet answer.
-/
import Derived.Test.YteicpjbeihabnaaDoorJValidFleetRO1
import Derived.Test.YteicpjbeihabnaaDoorJValidFleetRO2
import Derived.Test.YteicpjbeihabnaaDoorJValidFleetRO2
import Derived.Test.YteicpjbeihabnaaDoorJValidFleetTb1
import Derived.Test.YteicpjbeihabnaaDoorJValidFleetTb2
import Derived.Test.YteicpjbeihabnaaDoorJValidFleetTb2
import Derived.BigQuiet
import Derived.Deep.QuietTactic
import Derived.Deep.RegionWith
namespace Go.Proofs.YteicpjbeihabnaaDoor
open Go.RowKit

set_option maxHeartbeats 2000000 in
set_option maxRecDepth 1000000 in
theorem lawVF (Ok : Tb → List Ro → Prop) (Q : Tb → List Ro → World → Prop) (hQ : ∀ d L w w', Q d L w → Below w.heap.size w w' → Q d L w')
    (HS0 : ∀ d v2 v3 v4 L u w, TbB d → L.length ≤ 1048576 → Q d L w → TbV w d v2 v3 v4 → RoS w u L → Calls Tryd.prog 25 #[tbagg d v2 v3 v4, u] w fun e w' => Ans (Ok d L) e ∧ Below w.heap.size w w')
    (HI0 : ∀ d v2 v3 v4 L u w, TbB d → L.length ≤ 1048576 → Q d L w → TbV w d v2 v3 v4 → RoS w u L → Calls Tryd.prog 27 #[tbagg d v2 v3 v4, u] w fun e w' => Ans (Ok d L) e ∧ Below w.heap.size w w')
    (d : Tb) (v2 v3 v4 : Value) (s : List Ro) (u : Value) (w : World) (hd : TbL d) (hls : RoL s) (hq : Q d s w) (h : TbV w d v2 v3 v4) (hu : RoS w u s) :
    Calls Tryd.prog 6 #[tbagg d v2 v3 v4, u] w fun e w' => e = .returned (.bool true) ∧ Below w.heap.size w w' := by
  obtain ⟨a2, c2, hv2⟩ := h.targets.slice
  obtain ⟨a3, c3, hv3⟩ := h.dist.slice
  obtain ⟨a4, c4, hv4⟩ := h.hop.slice
  subst hv2 hv3 hv4
  have HTI := hide (fun w2 (hl20 : s.length ≤ 1048576) (hb2 : Below w.heap.size w w2) => toRo_f (w := w2) hl20 (hu.below hb2))
  have HEI := hide (fun p q w2 (hl20 : s.length ≤ 1048576) (h1 : RoS w2 p s) (h2 : RoS w2 q s) => eqRo_same (w := w2) hl20 h1 h2)
  have HZI := hide (fun w2 (left : Int) (h0 : 0 ≤ left) (hl : left ≤ 1048576) (hb2 : Below w.heap.size w w2) => szRo_r (w := w2) h0 hl hls.len (hu.below hb2))
  obtain ⟨au, cu, hu'⟩ := hu.slice
  subst hu'
  have HQ := hide (fun w2 (hb2 : Below w.heap.size w w2) => hQ d s w w2 hq hb2)
  have HSZ := hide (fun w2 (hb2 : Below w.heap.size w w2) => szTb_r (w := w2) (left := 1048576) (by omega) (by omega) hd (h.below hb2))
  have HTO := hide (fun w2 (hb : TbB d) (hb2 : Below w.heap.size w w2) => toTb_any d _ _ _ w2 hb (h.below hb2))
  have HS := hide (fun v2 v3 v4 u w2 (hb : TbB d) (hl20 : s.length ≤ 1048576) (hb2 : Below w.heap.size w w2) (h2 : TbV w2 d v2 v3 v4) (h3 : RoS w2 u s) => HS0 d v2 v3 v4 s u w2 hb hl20 (HQ.out w2 hb2) h2 h3)
  have HI := hide (fun v2 v3 v4 u w2 (hb : TbB d) (hl20 : s.length ≤ 1048576) (hb2 : Below w.heap.size w w2) (h2 : TbV w2 d v2 v3 v4) (h3 : RoS w2 u s) => HI0 d v2 v3 v4 s u w2 hb hl20 (HQ.out w2 hb2) h2 h3)
  have HE := hide (fun p2 p3 p4 q2 q3 q4 w2 hb h1 h2 => eqTb_same (w := w2) (d := d) (p2 := p2) (p3 := p3) (p4 := p4) (q2 := q2) (q3 := q3) (q4 := q4) hb h1 h2)
  clear h hd hq HS0 HI0 hQ hu hls
  obtain ⟨x0, x1, x2, x3, x4⟩ := d
  unfold tbagg at HSZ HTO HS HI HE ⊢
  simp only at HSZ HTO HS HI HE ⊢
  obtain ⟨W0, hW0⟩ : ∃ W, w.alloc (.cells #[.int .i64 x0, .int .i64 x1, .slice a2 (x2.length) c2, .slice a3 (x3.length) c3, .slice a4 (x4.length) c4] 25) = W := ⟨_, rfl⟩
  have HB0 : Hid (Below w.heap.size w W0) := by rw [← hW0]; exact (Below.refl _ _).alloc (Nat.le_refl _) _
  have HA0 : Hid (Blk W0 w.heap.size 25 #[.int .i64 x0, .int .i64 x1, .slice a2 (x2.length) c2, .slice a3 (x3.length) c3, .slice a4 (x4.length) c4]) := by rw [← hW0]; exact Blk.new _ _ _
  have HW := hide hW0
  clear hW0
  go_enter Tryd.func6, Tryd.ntmps6
  go_wp2_with fail
  rw [HW.out]
  refine (HSZ.out _ HB0.out).mono ?_
  rintro e w1 ⟨r, rfl, hm, hr, ho, hb1⟩
  have HA1 := hide (HA0.out.below hb1)
  have HB1 : Hid (Below w.heap.size w w1) := HB0.out.trans (hb1.mono HB0.out.size)
  have HOK := hide ho
  clear hb1 ho HA0 HB0 HW HSZ
  by_cases hr0 : r < 0
  · have t0 : decide (r < 0) = true := decide_eq_true hr0
    go_wp2
    go_ret
    exact ⟨rfl, HB1.out⟩
  have t0 : decide (r < 0) = false := decide_eq_false hr0
  have HBD := hide (HOK.out (by omega))
  clear HOK
  go_wp2_with fail
  refine (HZI.out w1 r (by omega) hr HB1.out).mono ?_
  rintro e w1b ⟨rz, rfl, hmz, hrz, hoz, hb1b⟩
  have HA1b := hide (HA1.out.below hb1b)
  have HB1b : Hid (Below w.heap.size w w1b) := HB1.out.trans (hb1b.mono HB1.out.size)
  have HOZ := hide hoz
  clear hb1b hoz HA1 HB1 HZI
  by_cases hrz0 : rz < 0
  · have tz0 : decide (rz < 0) = true := decide_eq_true hrz0
    go_wp2
    go_ret
    exact ⟨rfl, HB1b.out⟩
  have tz0 : decide (rz < 0) = false := decide_eq_false hrz0
  have hl20 := HOZ.out (by omega)
  clear HOZ
  have z0 := HA1b.out.cell 0
  have z1 := HA1b.out.cell 1
  have z2 := HA1b.out.cell 2
  have z3 := HA1b.out.cell 3
  have z4 := HA1b.out.cell 4
  simp only [List.getElem?_toArray, List.getElem?_cons_succ, List.getElem?_cons_zero] at z0 z1 z2 z3 z4
  go_wp2_with fail
  refine (HTO.out _ HBD.out HB1b.out).mono ?_
  rintro e w2 ⟨u2, u3, u4, rfl, ho2, hb2⟩
  have HB2 : Hid (Below w.heap.size w w2) := HB1b.out.trans (hb2.mono HB1b.out.size)
  have ho2' := ho2 w.heap.size HA1b.out.lt
  obtain ⟨g2a, k2a, rfl⟩ := ho2'.targets.slice
  obtain ⟨g3a, k3a, rfl⟩ := ho2'.dist.slice
  obtain ⟨g4a, k4a, rfl⟩ := ho2'.hop.slice
  have HO2 := hide ho2'
  have HA2 := hide (HA1b.out.below hb2)
  clear ho2 ho2' hb2 HA1b
  clear z0 z1 z2 z3 z4
  go_wp2_with fail
  refine (HTI.out _ hl20 HB2.out).mono ?_
  rintro e w2b ⟨uf, blf, rfl, hif, _, hbf⟩
  obtain ⟨af, cf, rfl⟩ := hif.slice
  have HB2b : Hid (Below w.heap.size w w2b) := HB2.out.trans (hbf.mono HB2.out.size)
  have HA2b := hide (HA2.out.below hbf)
  have HO2b := hide (HO2.out.rd.below hbf)
  have HIF := hide hif.rd
  clear hif hbf HA2 HO2 HB2
  go_wp2_with fail
  refine (HS.out _ _ _ _ _ HBD.out hl20 HB2b.out HO2b.out HIF.out).mono ?_
  rintro e w3 ⟨⟨b1, rfl, hi1⟩, hb3⟩
  have HI1 := hide hi1
  clear hi1
  have HA3 := hide (HA2b.out.below hb3)
  have HB3 : Hid (Below w.heap.size w w3) := HB2b.out.trans (hb3.mono HB2b.out.size)
  clear hb3 HA2b HO2b HIF
  have z0 := HA3.out.cell 0
  have z1 := HA3.out.cell 1
  have z2 := HA3.out.cell 2
  have z3 := HA3.out.cell 3
  have z4 := HA3.out.cell 4
  simp only [List.getElem?_toArray, List.getElem?_cons_succ, List.getElem?_cons_zero] at z0 z1 z2 z3 z4
  go_wp2_with fail
  refine (HTO.out _ HBD.out HB3.out).mono ?_
  rintro e w4 ⟨u2, u3, u4, rfl, ho4, hb4⟩
  have HB4 : Hid (Below w.heap.size w w4) := HB3.out.trans (hb4.mono HB3.out.size)
  have ho4' := ho4 w.heap.size HA3.out.lt
  obtain ⟨g2b, k2b, rfl⟩ := ho4'.targets.slice
  obtain ⟨g3b, k3b, rfl⟩ := ho4'.dist.slice
  obtain ⟨g4b, k4b, rfl⟩ := ho4'.hop.slice
  have HO4 := hide ho4'
  have HA4 := hide (HA3.out.below hb4)
  clear ho4 ho4' hb4 HA3
  clear z0 z1 z2 z3 z4
  obtain ⟨W5, hW5⟩ : ∃ W, w4.alloc (.cells #[.int .i64 x0, .int .i64 x1, .slice (some ⟨g2b, 0, none⟩) (x2.length) k2b, .slice (some ⟨g3b, 0, none⟩) (x3.length) k3b, .slice (some ⟨g4b, 0, none⟩) (x4.length) k4b] 31) = W := ⟨_, rfl⟩
  have hb5 : Below w4.heap.size w4 W5 := by rw [← hW5]; exact (Below.refl _ _).alloc (Nat.le_refl _) _
  have HB5 : Hid (Below w.heap.size w W5) := HB4.out.trans (hb5.mono HB4.out.size)
  have HX5 : Hid (Blk W5 w4.heap.size 31 #[.int .i64 x0, .int .i64 x1, .slice (some ⟨g2b, 0, none⟩) (x2.length) k2b, .slice (some ⟨g3b, 0, none⟩) (x3.length) k3b, .slice (some ⟨g4b, 0, none⟩) (x4.length) k4b]) := by rw [← hW5]; exact Blk.new _ _ _
  have HA5 := hide (HA4.out.below hb5)
  have HO5 := hide (HO4.out.below hb5)
  obtain ⟨B5, hB5⟩ : ∃ B, w4.heap.size = B := ⟨_, rfl⟩
  have HW := hide hW5
  have HBB := hide hB5
  rw [hB5] at HX5
  clear hb5 hW5 hB5
  go_wp2_with fail
  rw [HW.out, HBB.out]
  refine (HTI.out _ hl20 HB5.out).mono ?_
  clear HA4 HO4 HW HBB
  rintro e w5b ⟨ux, blx, rfl, hix, _, hbx⟩
  obtain ⟨ax, cx, rfl⟩ := hix.slice
  have HX5b := hide (HX5.out.below hbx)
  have HA5b := hide (HA5.out.below hbx)
  have HO5b := hide (HO5.out.below hbx)
  have HIX5 := hide hix.rd
  have HB5b : Hid (Below w.heap.size w w5b) := HB5.out.trans (hbx.mono HB5.out.size)
  clear hix hbx HX5 HA5 HO5 HB5
  have y0 := HX5b.out.cell 0
  have y1 := HX5b.out.cell 1
  have y2 := HX5b.out.cell 2
  have y3 := HX5b.out.cell 3
  have y4 := HX5b.out.cell 4
  simp only [List.getElem?_toArray, List.getElem?_cons_succ, List.getElem?_cons_zero] at y0 y1 y2 y3 y4
  go_wp2_with fail
  refine (HI.out _ _ _ _ _ HBD.out hl20 HB5b.out HO5b.out.rd HIX5.out).mono ?_
  clear y0 y1 y2 y3 y4
  rintro e w6 ⟨⟨b2, rfl, hi2⟩, hb6⟩
  have hbb : b2 = b1 := by
    have := hi2.trans HI1.out.symm
    cases b1 <;> cases b2 <;> simp_all
  subst hbb
  have t1 : (b2 != b2) = false := by cases b2 <;> rfl
  clear hi2 HI1
  have HIX6 := hide (HIX5.out.below hb6)
  have HX6 := hide (HX5b.out.below hb6)
  have HA6 := hide (HA5b.out.below hb6)
  have HO6 := hide (HO5b.out.below hb6)
  have HB6 : Hid (Below w.heap.size w w6) := HB5b.out.trans (hb6.mono HB5b.out.size)
  clear hb6 HX5b HA5b HO5b HIX5
  have z0 := HA6.out.cell 0
  have z1 := HA6.out.cell 1
  have z2 := HA6.out.cell 2
  have z3 := HA6.out.cell 3
  have z4 := HA6.out.cell 4
  simp only [List.getElem?_toArray, List.getElem?_cons_succ, List.getElem?_cons_zero] at z0 z1 z2 z3 z4
  have y0 := HX6.out.cell 0
  have y1 := HX6.out.cell 1
  have y2 := HX6.out.cell 2
  have y3 := HX6.out.cell 3
  have y4 := HX6.out.cell 4
  simp only [List.getElem?_toArray, List.getElem?_cons_succ, List.getElem?_cons_zero] at y0 y1 y2 y3 y4
  have HTO7 := hide (HTO.out w6.drew HBD.out HB6.out.drew)
  have hmx : Tryd.prog.follows .mixedOrders = true := by kernel_rfl
  have HK : Hid (∀ w8, Below w6.drew.heap.size w6.drew w8 → Below w6.heap.size w6 w8 ∧ Below w.heap.size w w8 ∧ TbV w8 ⟨x0, x1, x2, x3, x4⟩ (.slice (some ⟨g2b, 0, none⟩) (x2.length) k2b) (.slice (some ⟨g3b, 0, none⟩) (x3.length) k3b) (.slice (some ⟨g4b, 0, none⟩) (x4.length) k4b) ∧ w.heap.size < w6.drew.heap.size ∧ w8.cell? ⟨B5, 0, none⟩ = some (.int .i64 x0) ∧ w8.cell? ⟨B5, 1, none⟩ = some (.int .i64 x1) ∧ w8.cell? ⟨B5, 2, none⟩ = some (.slice (some ⟨g2b, 0, none⟩) (x2.length) k2b) ∧ w8.cell? ⟨B5, 3, none⟩ = some (.slice (some ⟨g3b, 0, none⟩) (x3.length) k3b) ∧ w8.cell? ⟨B5, 4, none⟩ = some (.slice (some ⟨g4b, 0, none⟩) (x4.length) k4b)) := fun w8 hb8 => by
    have hbx : Below w6.heap.size w6 w8 := (Below.refl _ _).drew.trans hb8
    exact ⟨hbx, HB6.out.drew.trans (hb8.mono HB6.out.size), HO6.out.rd.below hbx, HA6.out.lt, cell_kept y0 hbx, cell_kept y1 hbx, cell_kept y2 hbx, cell_kept y3 hbx, cell_kept y4 hbx⟩
  clear HTO HO6 HA6 HX6 HS HI
  go_wp2_with fail
  go_region_with (first
    | (go_at_call 11; refine HTO7.out.mono ?_; rintro e w8 ⟨u2, u3, u4, rfl, ho8, hb8⟩; obtain ⟨hk0, hk1, hk2, hk3, n0, n1, n2, n3, n4⟩ := HK.out w8 hb8; have HB68 := hide hk0; have HB8 := hide hk1; have HV8 := hide hk2; have ho8' := ho8 _ hk3; obtain ⟨g2c, k2c, rfl⟩ := ho8'.targets.slice; obtain ⟨g3c, k3c, rfl⟩ := ho8'.dist.slice; obtain ⟨g4c, k4c, rfl⟩ := ho8'.hop.slice; have HO8 := hide ho8'; clear ho8 ho8' hb8 hk0 hk1 hk2 hk3)
    | (go_at_call 14; refine (HE.out _ _ _ _ _ _ _ HBD.out HV8.out HO8.out.rd).mono ?_; rintro e w9 ⟨rfl, hb9⟩; have HB9 := hide (HB8.out.trans (hb9.mono HB8.out.size)); have HB69 := hide (HB68.out.trans (hb9.mono HB68.out.size)); clear hb9))
  all_goals
    have HIX9 := hide (HIX6.out.below HB69.out)
    go_wp2_with fail
    refine (HTI.out _ hl20 HB9.out).mono ?_
    rintro e w9a ⟨uz, blz, rfl, hiz, _, hbz⟩
    obtain ⟨az, cz, rfl⟩ := hiz.slice
    have HBZ : Hid (Below w.heap.size w w9a) := HB9.out.trans (hbz.mono HB9.out.size)
    have HIZ := hide hiz.rd
    have HIX9a := hide (HIX9.out.below hbz)
    clear hiz hbz
    go_wp2_with fail
    refine (HEI.out _ _ _ hl20 HIX9a.out HIZ.out).mono ?_
    rintro e w9b ⟨rfl, hbe⟩
    have HBE : Hid (Below w.heap.size w w9b) := HBZ.out.trans (hbe.mono HBZ.out.size)
    clear hbe
    go_wp2
    go_ret
    exact ⟨rfl, HBE.out⟩
end Go.Proofs.YteicpjbeihabnaaDoor
