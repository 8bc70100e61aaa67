/-
  The walk of laws.FnExactRunFleet, out of what impl.RunFleet and spec.RunFleet answer.
-/
import Derived.Test.YteicpjbeihabnaaDoorJRunFleetTgS3
import Derived.Test.YteicpjbeihabnaaDoorJRunFleetTgS3
import Derived.Test.YteicpjbeihabnaaDoorJRunFleetTbT
import Derived.Test.YteicpjbeihabnaaDoorJRunFleetTbMK
import Derived.Test.YteicpjbeihabnaaDoorJRunFleetRO1
import Derived.Test.YteicpjbeihabnaaDoorJRunFleetRO1
import Derived.Test.YteicpjbeihabnaaDoorJRunFleetRO1
import Derived.Test.YteicpjbeihabnaaDoorJRunFleetROM
import Derived.Test.YteicpjbeihabnaaDoorJRunFleetROM
import Derived.BigQuiet
import Derived.Deep.QuietTactic
import Derived.Deep.RegionWith
namespace Go.Proofs.YteicpjbeihabnaaDoor
open Go.RowKit

/-- What stands in memory while the law goes on. -/
structure RnSt (W w w3 : World) (cl ci : Array Value) (B5 : Nat) (d : Tb) (v2 v3 v4 : Value) (bt : List Nat) (ux : Value) (s : List Ro) (bx : List Nat) (gv : Value) (r : List Ro) (bg : List Nat) : Prop where
  la : Blk W w.heap.size 25 cl
  xa : Blk W B5 31 ci
  tb : TbF W d v2 v3 v4 bt
  rx : RoF W ux s bx
  rg : RoF W gv r bg
  bw : Below w.heap.size w W
  b3 : Below w3.heap.size w3 W
theorem RnSt.below {W W' w w3 : World} {cl ci : Array Value} {B5 : Nat} {d : Tb} {v2 v3 v4 : Value} {bt : List Nat} {ux : Value} {s : List Ro} {bx : List Nat} {gv : Value} {r : List Ro} {bg : List Nat} (h : RnSt W w w3 cl ci B5 d v2 v3 v4 bt ux s bx gv r bg) (hb : Below W.heap.size W W') : RnSt W' w w3 cl ci B5 d v2 v3 v4 bt ux s bx gv r bg :=
  ⟨h.la.below hb, h.xa.below hb, h.tb.below hb, h.rx.below hb, h.rg.below hb, h.bw.trans (hb.mono h.bw.size), h.b3.trans (hb.mono h.b3.size)⟩

set_option maxHeartbeats 4000000 in
set_option maxRecDepth 1000000 in
theorem lawRn (tk : Int) (f : Tb → List Ro → List Ro) (fc ft : Tb → List Ro → Int) (Q : Tb → List Ro → World → Prop) (hQ : ∀ d L w w', Q d L w → Below w.heap.size w w' → Q d L w') (hf : ∀ d L, TbB d → L.length ≤ 1048576 → (f d L).length ≤ 1048576)
    (HS0 : ∀ d v2 v3 v4 L u w, TbB d → L.length ≤ 1048576 → Q d L w → TbV w d v2 v3 v4 → RoS w u L → Nn u → Calls Tryd.prog 33 #[tbagg d v2 v3 v4, u, .int .i64 tk] w fun e w' => ∃ v, e = .returned (.agg #[.int .i64 (fc d L), .int .i64 (ft d L), v]) ∧ RoS w' v (f d L) ∧ Below w.heap.size w w')
    (HI0 : ∀ d v2 v3 v4 L u w, TbB d → L.length ≤ 1048576 → Q d L w → TbV w d v2 v3 v4 → RoS w u L → Calls Tryd.prog 34 #[tbagg d v2 v3 v4, u, .int .i64 tk] w fun e w' => ∃ v bl, e = .returned (.agg #[.int .i64 (fc d L), .int .i64 (ft d L), v]) ∧ RoF w' v (f d L) bl ∧ Fr w w' bl ∧ Below w.heap.size w w')
    (d : Tb) (v2 v3 v4 : Value) (s : List Ro) (u : Value) (w : World) (hd : TbL d) (hls : RoL s) (hq : Q d s w) (h : TbV w d v2 v3 v4) (hu : RoS w u s) :
    Calls Tryd.prog 8 #[tbagg d v2 v3 v4, u, .int .i64 tk] w fun e w' => e = .returned (.bool true) ∧ Below w.heap.size w w' := by
  obtain ⟨a2, c2, hv2⟩ := h.targets.slice
  obtain ⟨a3, c3, hv3⟩ := h.dist.slice
  obtain ⟨a4, c4, hv4⟩ := h.hop.slice
  subst hv2 hv3 hv4
  have HTI := hide (fun w2 (hl20 : s.length ≤ 1048576) (hb2 : Below w.heap.size w w2) => toRo_g (w := w2) hl20 (hu.below hb2))
  have HZI := hide (fun w2 (left : Int) (h0 : 0 ≤ left) (hl : left ≤ 1048576) (hb2 : Below w.heap.size w w2) => szRo_r (w := w2) h0 hl hls.len (hu.below hb2))
  obtain ⟨au, cu, hu'⟩ := hu.slice
  subst hu'
  have HQ := hide (fun w2 (hb2 : Below w.heap.size w w2) => hQ d s w w2 hq hb2)
  have HSZ := hide (fun w2 (hb2 : Below w.heap.size w w2) => szTb_r (w := w2) (left := 1048576) (by omega) (by omega) hd (h.below hb2))
  have HTO := hide (fun w2 (hb : TbB d) (hb2 : Below w.heap.size w w2) => toTb_f d _ _ _ w2 hb (h.below hb2))
  have HS := hide (fun v2 v3 v4 u w2 (hb : TbB d) (hl20 : s.length ≤ 1048576) (hb2 : Below w.heap.size w w2) (h2 : TbV w2 d v2 v3 v4) (h3 : RoS w2 u s) (h4 : Nn u) => HS0 d v2 v3 v4 s u w2 hb hl20 (HQ.out w2 hb2) h2 h3 h4)
  have HI := hide (fun v2 v3 v4 u w2 (hb : TbB d) (hl20 : s.length ≤ 1048576) (hb2 : Below w.heap.size w w2) (h2 : TbV w2 d v2 v3 v4) (h3 : RoS w2 u s) => HI0 d v2 v3 v4 s u w2 hb hl20 (HQ.out w2 hb2) h2 h3)
  have HE := hide (fun p2 p3 p4 q2 q3 q4 w2 hb h1 h2 => eqTb_same (w := w2) (d := d) (p2 := p2) (p3 := p3) (p4 := p4) (q2 := q2) (q3 := q3) (q4 := q4) hb h1 h2)
  have HF := hide (hf d s)
  obtain ⟨r, hr⟩ : ∃ r, f d s = r := ⟨_, rfl⟩
  obtain ⟨cd, hcd⟩ : ∃ c, fc d s = c := ⟨_, rfl⟩
  obtain ⟨td, htd⟩ : ∃ c, ft d s = c := ⟨_, rfl⟩
  rw [hr] at HF
  simp only [hr, hcd, htd] at HS HI
  clear h hd hq HS0 HI0 hQ hf hu hls hr hcd htd
  obtain ⟨x0, x1, x2, x3, x4⟩ := d
  unfold tbagg at HSZ HTO HS HI HE ⊢
  simp only at HSZ HTO HS HI HE ⊢
  obtain ⟨W0, hW0⟩ : ∃ W, w.alloc (.cells #[.int .i64 x0, .int .i64 x1, .slice a2 (x2.length) c2, .slice a3 (x3.length) c3, .slice a4 (x4.length) c4] 25) = W := ⟨_, rfl⟩
  have HB0 : Hid (Below w.heap.size w W0) := by rw [← hW0]; exact (Below.refl _ _).alloc (Nat.le_refl _) _
  have HA0 : Hid (Blk W0 w.heap.size 25 #[.int .i64 x0, .int .i64 x1, .slice a2 (x2.length) c2, .slice a3 (x3.length) c3, .slice a4 (x4.length) c4]) := by rw [← hW0]; exact Blk.new _ _ _
  have HW := hide hW0
  clear hW0
  go_enter Tryd.func8, Tryd.ntmps8
  go_wp2_with fail
  rw [HW.out]
  refine (HSZ.out _ HB0.out).mono ?_
  rintro e w1 ⟨r1, rfl, hm, hr, ho, hb1⟩
  have HA1 := hide (HA0.out.below hb1)
  have HB1 : Hid (Below w.heap.size w w1) := HB0.out.trans (hb1.mono HB0.out.size)
  have HOK := hide ho
  clear hb1 ho HA0 HB0 HW HSZ
  by_cases hr0 : r1 < 0
  · have t0 : decide (r1 < 0) = true := decide_eq_true hr0
    go_wp2
    go_ret
    exact ⟨rfl, HB1.out⟩
  have t0 : decide (r1 < 0) = false := decide_eq_false hr0
  have HBD := hide (HOK.out (by omega))
  clear HOK
  go_wp2_with fail
  refine (HZI.out w1 r1 (by omega) hr HB1.out).mono ?_
  rintro e w1b ⟨rz, rfl, hmz, hrz, hoz, hb1b⟩
  have HA1b := hide (HA1.out.below hb1b)
  have HB1b : Hid (Below w.heap.size w w1b) := HB1.out.trans (hb1b.mono HB1.out.size)
  have HOZ := hide hoz
  clear hb1b hoz HA1 HB1 HZI
  by_cases hrz0 : rz < 0
  · have tz0 : decide (rz < 0) = true := decide_eq_true hrz0
    go_wp2
    go_ret
    exact ⟨rfl, HB1b.out⟩
  have tz0 : decide (rz < 0) = false := decide_eq_false hrz0
  have hl20 := HOZ.out (by omega)
  have HSM := hide (HF.out HBD.out hl20)
  clear HOZ HF
  have z0 := HA1b.out.cell 0
  have z1 := HA1b.out.cell 1
  have z2 := HA1b.out.cell 2
  have z3 := HA1b.out.cell 3
  have z4 := HA1b.out.cell 4
  simp only [List.getElem?_toArray, List.getElem?_cons_succ, List.getElem?_cons_zero] at z0 z1 z2 z3 z4
  go_wp2_with fail
  refine (HTO.out _ HBD.out HB1b.out).mono ?_
  rintro e w2 ⟨u2, u3, u4, bla, rfl, ho2, hr2, hb2⟩
  have HB2 : Hid (Below w.heap.size w w2) := HB1b.out.trans (hb2.mono HB1b.out.size)
  have hv2 := ho2.rd
  obtain ⟨g2a, k2a, rfl⟩ := hv2.targets.slice
  obtain ⟨g3a, k3a, rfl⟩ := hv2.dist.slice
  obtain ⟨g4a, k4a, rfl⟩ := hv2.hop.slice
  have HO2 := hide hv2
  have HA2 := hide (HA1b.out.below hb2)
  clear ho2 hr2 hv2 hb2 HA1b
  clear z0 z1 z2 z3 z4
  go_wp2_with fail
  refine (HTI.out _ hl20 HB2.out).mono ?_
  rintro e w2b ⟨uf, blf, rfl, hif, hnf, _, hbf⟩
  obtain ⟨af, cf, rfl⟩ := hif.slice
  have HB2b : Hid (Below w.heap.size w w2b) := HB2.out.trans (hbf.mono HB2.out.size)
  have HA2b := hide (HA2.out.below hbf)
  have HO2b := hide (HO2.out.below hbf)
  have HIF := hide hif.rd
  have HNF := hide hnf
  clear hif hbf hnf HA2 HO2 HB2
  go_wp2_with fail
  refine (HS.out _ _ _ _ _ HBD.out hl20 HB2b.out HO2b.out HIF.out HNF.out).mono ?_
  rintro e w3 ⟨v0, rfl, h0, hb3⟩
  obtain ⟨a0, c0, rfl⟩ := h0.slice
  have HR3 := hide h0
  have HWZ : Hid (w.heap.size < w3.heap.size) := Nat.lt_of_lt_of_le HA2b.out.lt hb3.size
  have HA3 := hide (HA2b.out.below hb3)
  have HB3 : Hid (Below w.heap.size w w3) := HB2b.out.trans (hb3.mono HB2b.out.size)
  clear h0 hb3 HA2b HO2b HIF HNF
  obtain ⟨w3b, hw3b⟩ : ∃ W, w3.alloc (.cells #[.int .i64 cd, .int .i64 td, .slice a0 r.length c0] 57) = W := ⟨_, rfl⟩
  have hbb : Below w3.heap.size w3 w3b := by rw [← hw3b]; exact (Below.refl _ _).alloc (Nat.le_refl _) _
  have HWB0 : Hid (Blk w3b w3.heap.size 57 #[.int .i64 cd, .int .i64 td, .slice a0 r.length c0]) := by rw [← hw3b]; exact Blk.new _ _ _
  have HW3b := hide hw3b
  have HR3b := hide (HR3.out.below hbb)
  have HA3b := hide (HA3.out.below hbb)
  have HB3b : Hid (Below w.heap.size w w3b) := HB3.out.trans (hbb.mono HB3.out.size)
  have HWZb : Hid (w.heap.size < w3b.heap.size) := Nat.lt_of_lt_of_le HWZ.out hbb.size
  obtain ⟨B3, hB3⟩ : ∃ B, w3.heap.size = B := ⟨_, rfl⟩
  rw [hB3] at HWB0
  have HBN3 := hide hB3
  have HB3w : Hid (w.heap.size < B3) := by show _ < _; rw [← hB3]; exact HWZ.out
  have HA3c := hide (HA3.out.alloc (.cells #[.int .i64 cd, .int .i64 td, .slice a0 r.length c0] 57))
  clear hw3b hbb hB3 HR3 HA3 HB3 HWZ
  have z0 := HA3c.out.cell 0
  have z1 := HA3c.out.cell 1
  have z2 := HA3c.out.cell 2
  have z3 := HA3c.out.cell 3
  have z4 := HA3c.out.cell 4
  simp only [List.getElem?_toArray, List.getElem?_cons_succ, List.getElem?_cons_zero] at z0 z1 z2 z3 z4
  go_wp2_with fail
  rw [HW3b.out, HBN3.out]
  refine (HTO.out _ HBD.out HB3b.out).mono ?_
  rintro e w4 ⟨u2, u3, u4, blb, rfl, ho4, hr4, hb4⟩
  have HB4 : Hid (Below w.heap.size w w4) := HB3b.out.trans (hb4.mono HB3b.out.size)
  have hv4 := ho4.rd
  obtain ⟨g2b, k2b, rfl⟩ := hv4.targets.slice
  obtain ⟨g3b, k3b, rfl⟩ := hv4.dist.slice
  obtain ⟨g4b, k4b, rfl⟩ := hv4.hop.slice
  have HO4 := hide ho4
  have HF4 := hide hr4
  have HA4 := hide (HA3b.out.below hb4)
  have HZ4 : Hid (w3b.heap.size ≤ w4.heap.size) := hb4.size
  have HK4 : Hid (Below w3b.heap.size w3b w4) := hb4
  clear ho4 hr4 hv4 hb4 HA3b
  clear z0 z1 z2 z3 z4
  obtain ⟨W5, hW5⟩ : ∃ W, w4.alloc (.cells #[.int .i64 x0, .int .i64 x1, .slice g2b (x2.length) k2b, .slice g3b (x3.length) k3b, .slice g4b (x4.length) k4b] 31) = W := ⟨_, rfl⟩
  have hb5 : Below w4.heap.size w4 W5 := by rw [← hW5]; exact (Below.refl _ _).alloc (Nat.le_refl _) _
  have HB5 : Hid (Below w.heap.size w W5) := HB4.out.trans (hb5.mono HB4.out.size)
  have HK5 : Hid (Below w3b.heap.size w3b W5) := HK4.out.trans (hb5.mono HK4.out.size)
  have HX5 : Hid (Blk W5 w4.heap.size 31 #[.int .i64 x0, .int .i64 x1, .slice g2b (x2.length) k2b, .slice g3b (x3.length) k3b, .slice g4b (x4.length) k4b]) := by rw [← hW5]; exact Blk.new _ _ _
  have HA5 := hide (HA4.out.below hb5)
  have HO5 := hide (HO4.out.below hb5)
  obtain ⟨B5, hB5⟩ : ∃ B, w4.heap.size = B := ⟨_, rfl⟩
  have HS5 : Hid (W5.heap.size = B5 + 1) := by show _ = _; rw [← hW5, World.size_alloc, hB5]
  have HFX : Hid (blb.Nodup ∧ (∀ g ∈ blb, w3b.heap.size ≤ g) ∧ ∀ g ∈ blb, g < B5) := ⟨HF4.out.nd, HF4.out.lo, fun g hg => by rw [← hB5]; exact HF4.out.hi g hg⟩
  have HW := hide hW5
  have HBB := hide hB5
  have HB35 : Hid (w3b.heap.size ≤ B5) := by show _ ≤ _; rw [← hB5]; exact HZ4.out
  rw [hB5] at HX5
  clear hb5 hW5 hB5
  go_wp2_with fail
  rw [HW.out, HBB.out]
  refine (HTI.out _ hl20 HB5.out).mono ?_
  clear HA4 HO4 HW HBB HF4 HK4 HZ4
  rintro e w5b ⟨ux, blx, rfl, hix, _, hfx, hbx⟩
  obtain ⟨ax, cx, rfl⟩ := hix.slice
  have HX5b := hide (HX5.out.below hbx)
  have HA5b := hide (HA5.out.below hbx)
  have HO5b := hide (HO5.out.below hbx)
  have HIX5 := hide hix
  have HB5b : Hid (Below w.heap.size w w5b) := HB5.out.trans (hbx.mono HB5.out.size)
  have HK5b : Hid (Below w3b.heap.size w3b w5b) := HK5.out.trans (hbx.mono HK5.out.size)
  obtain ⟨Z5, hZ5⟩ : ∃ B, w5b.heap.size = B := ⟨_, rfl⟩
  have HFR : Hid (∀ g ∈ blx, B5 < g ∧ g < Z5) := fun g hg => ⟨by have h1 := hfx.lo g hg; have h2 := HS5.out; omega, by rw [← hZ5]; exact hfx.hi g hg⟩
  have HBZ5 : Hid (B5 < Z5) := by show _ < _; rw [← hZ5]; exact HX5b.out.lt
  have HZ5 := hide hZ5
  clear hix hbx hfx hZ5 HX5 HA5 HO5 HB5 HK5 HS5
  have y0 := HX5b.out.cell 0
  have y1 := HX5b.out.cell 1
  have y2 := HX5b.out.cell 2
  have y3 := HX5b.out.cell 3
  have y4 := HX5b.out.cell 4
  simp only [List.getElem?_toArray, List.getElem?_cons_succ, List.getElem?_cons_zero] at y0 y1 y2 y3 y4
  go_wp2_with fail
  refine (HI.out _ _ _ _ _ HBD.out hl20 HB5b.out HO5b.out.rd HIX5.out.rd).mono ?_
  clear y0 y1 y2 y3 y4
  rintro e w6 ⟨vg, blg, rfl, hg6, hf6, hb6⟩
  obtain ⟨ag, cg, rfl⟩ := hg6.slice
  have HFG : Hid (blg.Nodup ∧ ∀ g ∈ blg, Z5 ≤ g) := ⟨hf6.nd, fun g hg => by rw [← HZ5.out]; exact hf6.lo g hg⟩
  have ST6 : Hid (RnSt w6 w w3b #[.int .i64 x0, .int .i64 x1, .slice a2 (x2.length) c2, .slice a3 (x3.length) c3, .slice a4 (x4.length) c4] #[.int .i64 x0, .int .i64 x1, .slice g2b (x2.length) k2b, .slice g3b (x3.length) k3b, .slice g4b (x4.length) k4b] B5 ⟨x0, x1, x2, x3, x4⟩ (.slice g2b (x2.length) k2b) (.slice g3b (x3.length) k3b) (.slice g4b (x4.length) k4b) blb (.slice ax s.length cx) s blx (.slice ag r.length cg) r blg) :=
    ⟨HA5b.out.below hb6, HX5b.out.below hb6, HO5b.out.below hb6, HIX5.out.below hb6, hg6, HB5b.out.trans (hb6.mono HB5b.out.size), HK5b.out.trans (hb6.mono HK5b.out.size)⟩
  have HZ56 : Hid (Z5 ≤ w6.heap.size) := by show _ ≤ _; rw [← HZ5.out]; exact hb6.size
  clear hg6 hf6 hb6 HX5b HA5b HO5b HIX5 HB5b HK5b HZ5 HB1b HB3b HB4
  obtain ⟨w6b, hw6b⟩ : ∃ W, w6.alloc (.cells #[.int .i64 cd, .int .i64 td, .slice ag r.length cg] 57) = W := ⟨_, rfl⟩
  have hb6b : Below w6.heap.size w6 w6b := by rw [← hw6b]; exact (Below.refl _ _).alloc (Nat.le_refl _) _
  have HGB0 : Hid (Blk w6b w6.heap.size 57 #[.int .i64 cd, .int .i64 td, .slice ag r.length cg]) := by rw [← hw6b]; exact Blk.new _ _ _
  have hwb6 := (HWB0.out.below ST6.out.b3).alloc (.cells #[.int .i64 cd, .int .i64 td, .slice ag r.length cg] 57)
  have c0a := hwb6.cell 0
  have c1a := hwb6.cell 1
  have c2a := hwb6.cell 2
  simp only [List.getElem?_toArray, List.getElem?_cons_succ, List.getElem?_cons_zero] at c0a c1a c2a
  have HGL : Hid (∀ g ∈ blg, g < w6.heap.size) := fun g hg => ST6.out.rg.lt g hg
  have HW6b := hide hw6b
  have ST6b := hide (ST6.out.below hb6b)
  obtain ⟨B6, hB6⟩ : ∃ B, w6.heap.size = B := ⟨_, rfl⟩
  rw [hB6] at HGB0 HGL
  have HBN6 := hide hB6
  have HZ6 : Hid (Z5 ≤ B6) := by show _ ≤ _; rw [← hB6]; exact HZ56.out
  clear hb6b hwb6 hB6 ST6 hw6b
  go_wp2_with fail
  rw [HW6b.out]
  try rw [HBN6.out]
  refine (eqFl_same (w := w6b) HSM.out ST6b.out.rg.rd (HR3b.out.below ST6b.out.b3)).mono ?_
  rintro e w7 ⟨rfl, hb7⟩
  have ST7 := hide (ST6b.out.below hb7)
  have HGB7 := hide (HGB0.out.below hb7)
  clear hb7 ST6b HGB0 c0a c1a c2a HW6b HBN6
  have z0 := ST7.out.la.cell 0
  have z1 := ST7.out.la.cell 1
  have z2 := ST7.out.la.cell 2
  have z3 := ST7.out.la.cell 3
  have z4 := ST7.out.la.cell 4
  simp only [List.getElem?_toArray, List.getElem?_cons_succ, List.getElem?_cons_zero] at z0 z1 z2 z3 z4
  have y0 := ST7.out.xa.cell 0
  have y1 := ST7.out.xa.cell 1
  have y2 := ST7.out.xa.cell 2
  have y3 := ST7.out.xa.cell 3
  have y4 := ST7.out.xa.cell 4
  simp only [List.getElem?_toArray, List.getElem?_cons_succ, List.getElem?_cons_zero] at y0 y1 y2 y3 y4
  have HTO7 := hide (HTO.out w7.drew HBD.out ST7.out.bw.drew)
  have hmx : Tryd.prog.follows .mixedOrders = true := by kernel_rfl
  have HK : Hid (∀ w8, Below w7.drew.heap.size w7.drew w8 → Below w7.heap.size w7 w8 ∧ TbV w8 ⟨x0, x1, x2, x3, x4⟩ (.slice g2b (x2.length) k2b) (.slice g3b (x3.length) k3b) (.slice g4b (x4.length) k4b) ∧ w8.cell? ⟨B5, 0, none⟩ = some (.int .i64 x0) ∧ w8.cell? ⟨B5, 1, none⟩ = some (.int .i64 x1) ∧ w8.cell? ⟨B5, 2, none⟩ = some (.slice g2b (x2.length) k2b) ∧ w8.cell? ⟨B5, 3, none⟩ = some (.slice g3b (x3.length) k3b) ∧ w8.cell? ⟨B5, 4, none⟩ = some (.slice g4b (x4.length) k4b)) := fun w8 hb8 => by
    have hbx : Below w7.heap.size w7 w8 := (Below.refl _ _).drew.trans hb8
    exact ⟨hbx, ST7.out.tb.rd.below hbx, cell_kept y0 hbx, cell_kept y1 hbx, cell_kept y2 hbx, cell_kept y3 hbx, cell_kept y4 hbx⟩
  go_wp2_with fail
  go_region_with (first
    | (go_at_call 11; refine HTO7.out.mono ?_; rintro e w8 ⟨u2, u3, u4, blc, rfl, ho8, hr8, hb8⟩; obtain ⟨hk1, hk2, n0, n1, n2, n3, n4⟩ := HK.out w8 hb8; have HB8 := hide hk1; have HV8 := hide hk2; have ho8' := ho8.rd; obtain ⟨g2c, k2c, rfl⟩ := ho8'.targets.slice; obtain ⟨g3c, k3c, rfl⟩ := ho8'.dist.slice; obtain ⟨g4c, k4c, rfl⟩ := ho8'.hop.slice; have HO8 := hide ho8'; clear ho8 ho8' hr8 hb8 hk1 hk2)
    | (go_at_call 14; refine (HE.out _ _ _ _ _ _ _ HBD.out HV8.out HO8.out).mono ?_; rintro e w9 ⟨rfl, hb9⟩; have HB9 := hide (HB8.out.trans (hb9.mono HB8.out.size)); clear hb9))
  all_goals
    have ST9 := hide (ST7.out.below HB9.out)
    have HGB9 := hide (HGB7.out.below HB9.out)
    clear n0 n1 n2 n3 n4 y0 y1 y2 y3 y4 z0 z1 z2 z3 z4 HB9 HB8 HV8 HO8 HK HTO7 ST7
    go_wp2_with fail
    refine (HTI.out _ hl20 ST9.out.bw).mono ?_
    rintro e w9a ⟨uz, blz, rfl, hiz, _, _, hbz⟩
    obtain ⟨az, cz, rfl⟩ := hiz.slice
    have ST9a := hide (ST9.out.below hbz)
    have HIZ := hide hiz.rd
    have HGB9a := hide (HGB9.out.below hbz)
    clear hiz hbz ST9
    go_wp2_with fail
    refine (eqRo_same (w := w9a) hl20 ST9a.out.rx.rd HIZ.out).mono ?_
    rintro e w9b ⟨rfl, hbe⟩
    have ST9b := hide (ST9a.out.below hbe)
    have HGB9b := hide (HGB9a.out.below hbe)
    clear hbe ST9a HIZ
    have y0 := ST9b.out.xa.cell 0
    have y1 := ST9b.out.xa.cell 1
    have y2 := ST9b.out.xa.cell 2
    have y3 := ST9b.out.xa.cell 3
    have y4 := ST9b.out.xa.cell 4
    simp only [List.getElem?_toArray, List.getElem?_cons_succ, List.getElem?_cons_zero] at y0 y1 y2 y3 y4
    go_wp2_with fail
    change Calls Tryd.prog 21 #[tbagg ⟨x0, x1, x2, x3, x4⟩ (.slice g2b (x2.length) k2b) (.slice g3b (x3.length) k3b) (.slice g4b (x4.length) k4b), .int .i64 ((1 : Nat) : Int)] w9b _
    refine (markTb_f (w := w9b) (k := 1) HBD.out (by omega) ST9b.out.tb HFX.out.1).mono ?_
    rintro e w10 ⟨rfl, _, hw10⟩
    have hkb : 1 + TbNv ⟨x0, x1, x2, x3, x4⟩ ≤ 1000000000000000000 := by
      have q1 := TgSn_le HBD.out.targets _ (Nat.le_refl _)
      have q2 := IISn_le HBD.out.dist _ (Nat.le_refl _)
      have q3 := IISn_le HBD.out.hop _ (Nat.le_refl _)
      have l1 := HBD.out.targets.len
      have l2 := HBD.out.dist.len
      have l3 := HBD.out.hop.len
      unfold TbNv
      simp only at q1 q2 q3 l1 l2 l3 ⊢
      omega
    obtain ⟨kx, hkx⟩ : ∃ kx, 1 + TbNv ⟨x0, x1, x2, x3, x4⟩ = kx := ⟨_, rfl⟩
    rw [hkx] at hkb ⊢
    have HK10 : Hid (Below w3b.heap.size w3b w10) := ST9b.out.b3.trans (hw10.below HFX.out.2.1 ST9b.out.b3.size)
    have HW10 : Hid (Below w.heap.size w w10) := ST9b.out.bw.trans (hw10.below (fun g hg => by have h1 := HFX.out.2.1 g hg; have h2 := HWZb.out; omega) ST9b.out.bw.size)
    have HG10 := hide (ST9b.out.rg.keep (fun g hg => hw10.blk g (ST9b.out.rg.lt g hg) (fun hm => by have h1 := HFX.out.2.2 g hm; have h2 := HFG.out.2 g hg; have h3 := HBZ5.out; omega)))
    have HX10 := hide (ST9b.out.rx.keep (fun g hg => hw10.blk g (ST9b.out.rx.lt g hg) (fun hm => by have h1 := HFX.out.2.2 g hm; have h2 := (HFR.out g hg).1; omega)))
    have HA10 : Hid (Blk w10 w.heap.size 25 #[.int .i64 x0, .int .i64 x1, .slice a2 (x2.length) c2, .slice a3 (x3.length) c3, .slice a4 (x4.length) c4]) := (hw10.blk _ ST9b.out.la.lt (fun hm => by have h1 := HFX.out.2.1 _ hm; have h2 := HWZb.out; omega)).trans ST9b.out.la
    have HGBa : Hid (Blk w10 B6 57 #[.int .i64 cd, .int .i64 td, .slice ag r.length cg]) := (hw10.blk _ HGB9b.out.lt (fun hm => by have h1 := HFX.out.2.2 _ hm; have h2 := HBZ5.out; have h3 := HZ6.out; omega)).trans HGB9b.out
    clear hw10 hkx y0 y1 y2 y3 y4 ST9b
    go_wp2_with fail
    refine (markRo_f (w := w10) (k := kx) (by omega) hkb HX10.out).mono ?_
    rintro e w10b ⟨rfl, _, hwb⟩
    obtain ⟨ky, hky⟩ : ∃ ky, kx + s.length * 5 = ky := ⟨_, rfl⟩
    rw [hky]
    have tx : decide ((ky : Int) < 0) = false := decide_eq_false (by omega)
    have HK10b : Hid (Below w3b.heap.size w3b w10b) := HK10.out.trans (hwb.below (fun g hg => by have h1 := (HFR.out g hg).1; have h2 := HB35.out; omega) HK10.out.size)
    have HW10b : Hid (Below w.heap.size w w10b) := HW10.out.trans (hwb.below (fun g hg => by have h1 := (HFR.out g hg).1; have h2 := HB35.out; have h3 := HWZb.out; omega) HW10.out.size)
    have HG10b := hide (HG10.out.keep (fun g hg => hwb.blk g (HG10.out.lt g hg) (fun hm => by have h1 := (HFR.out g hm).2; have h2 := HFG.out.2 g hg; omega)))
    have HA10b : Hid (Blk w10b w.heap.size 25 #[.int .i64 x0, .int .i64 x1, .slice a2 (x2.length) c2, .slice a3 (x3.length) c3, .slice a4 (x4.length) c4]) := (hwb.blk _ HA10.out.lt (fun hm => by have h1 := (HFR.out _ hm).1; have h2 := HB35.out; have h3 := HWZb.out; omega)).trans HA10.out
    have HGBb : Hid (Blk w10b B6 57 #[.int .i64 cd, .int .i64 td, .slice ag r.length cg]) := (hwb.blk _ HGBa.out.lt (fun hm => by have h1 := (HFR.out _ hm).2; have h3 := HZ6.out; omega)).trans HGBa.out
    clear hwb hky hkb HX10 HG10 HA10 HW10 HK10
    have HGB10 : Hid (Blk w10b B6 57 #[.int .i64 cd, .int .i64 td, .slice ag r.length cg]) := HGBb.out
    have hwb10 := HWB0.out.below HK10b.out
    have c0a := hwb10.cell 0
    have c1a := hwb10.cell 1
    have c2a := hwb10.cell 2
    have d0a := HGB10.out.cell 0
    have d1a := HGB10.out.cell 1
    have d2a := HGB10.out.cell 2
    simp only [List.getElem?_toArray, List.getElem?_cons_succ, List.getElem?_cons_zero] at c0a c1a c2a d0a d1a d2a
    clear hwb10
    go_wp2_with fail
    refine (eqFl_same (w := w10b) HSM.out HG10b.out.rd (HR3b.out.below HK10b.out)).mono ?_
    rintro e w11 ⟨rfl, hb11⟩
    have HG11 := hide (HG10b.out.below hb11)
    have HA11 := hide (HA10b.out.below hb11)
    have HGB11 := hide (HGB10.out.below hb11)
    have HW11 : Hid (Below w.heap.size w w11) := HW10b.out.trans (hb11.mono HW10b.out.size)
    have HK11 : Hid (Below w3b.heap.size w3b w11) := HK10b.out.trans (hb11.mono HK10b.out.size)
    clear hb11 tx HG10b HA10b HW10b HK10b HGB10 HGBb c0a c1a c2a d0a d1a d2a
    have d0a := HGB11.out.cell 0
    have d1a := HGB11.out.cell 1
    have d2a := HGB11.out.cell 2
    simp only [List.getElem?_toArray, List.getElem?_cons_succ, List.getElem?_cons_zero] at d0a d1a d2a
    go_wp2_with fail
    change Calls Tryd.prog 36 #[.agg #[.int .i64 cd, .int .i64 td, .slice ag r.length cg], .int .i64 ((1 : Nat) : Int)] w11 _
    refine (markFl_f (w := w11) (k := 1) (by have := HSM.out; omega) (by omega) HG11.out).mono ?_
    rintro e w12 ⟨rfl, hm12, hw12⟩
    have HM12 := hide hm12
    obtain ⟨km, hkm⟩ : ∃ km, 1 + r.length * 5 = km := ⟨_, rfl⟩
    rw [hkm]
    have HKM := hide hkm
    have tm : decide ((km : Int) < 0) = false := decide_eq_false (by omega)
    have te : ((km : Int) != (km : Int)) = false := by simp
    have HK12 : Hid (Below w3b.heap.size w3b w12) := HK11.out.trans (hw12.below (fun g hg => by have h1 := HFG.out.2 g hg; have h2 := HB35.out; have h3 := HBZ5.out; omega) HK11.out.size)
    have HW12 : Hid (Below w.heap.size w w12) := HW11.out.trans (hw12.below (fun g hg => by have h1 := HFG.out.2 g hg; have h2 := HB35.out; have h3 := HWZb.out; have h4 := HBZ5.out; omega) HW11.out.size)
    have HA12 : Hid (Blk w12 w.heap.size 25 #[.int .i64 x0, .int .i64 x1, .slice a2 (x2.length) c2, .slice a3 (x3.length) c3, .slice a4 (x4.length) c4]) := (hw12.blk _ HA11.out.lt (fun hm => by have h1 := HFG.out.2 _ hm; have h2 := HB35.out; have h3 := HWZb.out; have h4 := HBZ5.out; omega)).trans HA11.out
    have HGB12 : Hid (Blk w12 B6 57 #[.int .i64 cd, .int .i64 td, .slice ag r.length cg]) := (hw12.blk _ HGB11.out.lt (fun hm => by have h1 := HGL.out _ hm; omega)).trans HGB11.out
    clear hm12 hw12 hkm HG11 HA11 HW11 HK11 HGB11 d0a d1a d2a
    have HH12 : Hid (∀ wz, Below w12.heap.size w12 wz → Calls Tryd.prog 37 #[.agg #[.int .i64 cd, .int .i64 td, .slice ag r.length cg], .int .i64 ((1 : Nat) : Int)] wz fun e w' => e = .returned (.int .i64 (km : Nat)) ∧ Below wz.heap.size wz w') := fun wz hz => by
      have := heldFl_f (w := wz) (k := 1) (c := cd) (t := td) (by have := HSM.out; omega) (by omega) (HM12.out.below hz)
      rw [HKM.out] at this
      exact this
    have d0a := HGB12.out.cell 0
    have d1a := HGB12.out.cell 1
    have d2a := HGB12.out.cell 2
    simp only [List.getElem?_toArray, List.getElem?_cons_succ, List.getElem?_cons_zero] at d0a d1a d2a
    go_wp2_with fail
    change Calls Tryd.prog 37 #[.agg #[.int .i64 cd, .int .i64 td, .slice ag r.length cg], .int .i64 ((1 : Nat) : Int)] w12 _
    refine (HH12.out _ (Below.refl _ _)).mono ?_
    rintro e w12b ⟨rfl, hb12⟩
    have HD12 := hide hb12
    have HW12b : Hid (Below w.heap.size w w12b) := HW12.out.trans (hb12.mono HW12.out.size)
    have HA12b := hide (HA12.out.below hb12)
    clear hb12 d0a d1a d2a HA12
    have z0 := HA12b.out.cell 0
    have z1 := HA12b.out.cell 1
    have z2 := HA12b.out.cell 2
    have z3 := HA12b.out.cell 3
    have z4 := HA12b.out.cell 4
    simp only [List.getElem?_toArray, List.getElem?_cons_succ, List.getElem?_cons_zero] at z0 z1 z2 z3 z4
    go_wp2_with fail
    refine (HTO.out _ HBD.out HW12b.out).mono ?_
    rintro e w13 ⟨u2, u3, u4, bld, rfl, ho13, _, hb13⟩
    have HW13 : Hid (Below w.heap.size w w13) := HW12b.out.trans (hb13.mono HW12b.out.size)
    have hv13 := ho13.rd
    obtain ⟨g2d, k2d, rfl⟩ := hv13.targets.slice
    obtain ⟨g3d, k3d, rfl⟩ := hv13.dist.slice
    obtain ⟨g4d, k4d, rfl⟩ := hv13.hop.slice
    have HV13 := hide hv13
    have HD13 : Hid (Below w12.heap.size w12 w13) := HD12.out.trans (hb13.mono HD12.out.size)
    clear ho13 hv13 hb13 z0 z1 z2 z3 z4
    go_wp2_with fail
    refine (HTI.out _ hl20 HW13.out).mono ?_
    rintro e w13b ⟨ue, ble, rfl, hie, _, _, hbe⟩
    obtain ⟨ae, ce, rfl⟩ := hie.slice
    have HW13b : Hid (Below w.heap.size w w13b) := HW13.out.trans (hbe.mono HW13.out.size)
    have HD13b : Hid (Below w12.heap.size w12 w13b) := HD13.out.trans (hbe.mono HD13.out.size)
    have HV13b := hide (HV13.out.below hbe)
    have HIE := hide hie.rd
    clear hie hbe HV13 HD13 HW13
    go_wp2_with fail
    refine (HI.out _ _ _ _ _ HBD.out hl20 HW13b.out HV13b.out HIE.out).mono ?_
    rintro e w14 ⟨vh, blh, rfl, hg14, _, hb14⟩
    obtain ⟨ah, ch, rfl⟩ := hg14.slice
    have HG14 := hide hg14
    have HD14 : Hid (Below w12.heap.size w12 w14) := HD13b.out.trans (hb14.mono HD13b.out.size)
    clear hg14 hb14 HD13b HV13b HIE
    obtain ⟨w14b, hw14b⟩ : ∃ W, w14.alloc (.cells #[.int .i64 cd, .int .i64 td, .slice ah r.length ch] 57) = W := ⟨_, rfl⟩
    have hb14b : Below w14.heap.size w14 w14b := by rw [← hw14b]; exact (Below.refl _ _).alloc (Nat.le_refl _) _
    have hwb14 := (HWB0.out.below (HK12.out.trans (HD14.out.mono HK12.out.size))).alloc (.cells #[.int .i64 cd, .int .i64 td, .slice ah r.length ch] 57)
    have c0a := hwb14.cell 0
    have c1a := hwb14.cell 1
    have c2a := hwb14.cell 2
    simp only [List.getElem?_toArray, List.getElem?_cons_succ, List.getElem?_cons_zero] at c0a c1a c2a
    have HW14b := hide hw14b
    have HD14b : Hid (Below w12.heap.size w12 w14b) := HD14.out.trans (hb14b.mono HD14.out.size)
    have HG14b := hide (HG14.out.below hb14b)
    clear hb14b hwb14 hw14b HG14 HD14
    go_wp2_with fail
    rw [HW14b.out]
    refine (eqFl_same (w := w14b) HSM.out HG14b.out.rd (HR3b.out.below (HK12.out.trans (HD14b.out.mono HK12.out.size)))).mono ?_
    rintro e w15 ⟨rfl, hb15⟩
    have HD15 : Hid (Below w12.heap.size w12 w15) := HD14b.out.trans (hb15.mono HD14b.out.size)
    have HW15 : Hid (Below w.heap.size w w15) := HW12.out.trans (HD15.out.mono HW12.out.size)
    clear hb15 HD14b HG14b c0a c1a c2a HW14b
    have hgb15 := HGB12.out.below HD15.out
    have d0a := hgb15.cell 0
    have d1a := hgb15.cell 1
    have d2a := hgb15.cell 2
    simp only [List.getElem?_toArray, List.getElem?_cons_succ, List.getElem?_cons_zero] at d0a d1a d2a
    clear hgb15
    go_wp2_with fail
    change Calls Tryd.prog 37 #[.agg #[.int .i64 cd, .int .i64 td, .slice ag r.length cg], .int .i64 ((1 : Nat) : Int)] w15 _
    refine (HH12.out _ HD15.out).mono ?_
    rintro e w16 ⟨rfl, hb16⟩
    have HW16 : Hid (Below w.heap.size w w16) := HW15.out.trans (hb16.mono HW15.out.size)
    clear hb16
    go_wp2
    go_ret
    exact ⟨rfl, HW16.out⟩
end Go.Proofs.YteicpjbeihabnaaDoor
