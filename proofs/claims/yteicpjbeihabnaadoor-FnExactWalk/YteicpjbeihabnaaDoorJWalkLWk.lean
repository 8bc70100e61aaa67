/-
  The walk of laws.FnExactWalk, out of what impl.Walk and spec.Walk answer.
-/
import Derived.Test.YteicpjbeihabnaaDoorJWalkTgS3
import Derived.Test.YteicpjbeihabnaaDoorJWalkTb3
import Derived.Test.YteicpjbeihabnaaDoorJWalkTbT
import Derived.Test.YteicpjbeihabnaaDoorJWalkTbMK
import Derived.Test.YteicpjbeihabnaaDoorJWalkIN2
import Derived.Test.YteicpjbeihabnaaDoorJWalkMKI
import Derived.Test.YteicpjbeihabnaaDoorJWalkTbMK
import Derived.BigQuiet
import Derived.Deep.QuietTactic
import Derived.Deep.RegionWith
namespace Go.Proofs.YteicpjbeihabnaaDoor
open Go.RowKit

set_option maxHeartbeats 4000000 in
set_option maxRecDepth 1000000 in
theorem lawWk (tg ce : Int) (f : Tb → List Int) (fc : Tb → Int) (Q : Tb → World → Prop) (hQ : ∀ d w w', Q d w → Below w.heap.size w w' → Q d w') (hf : ∀ d, TbB d → (f d).length ≤ 1048576)
    (HS0 : ∀ d v2 v3 v4 w, TbB d → Q d w → TbV w d v2 v3 v4 → Calls Tryd.prog 18 #[tbagg d v2 v3 v4, .int .i64 tg, .int .i64 ce] w fun e w' => ∃ v, e = .returned (.tuple #[v, .int .i64 (fc d)]) ∧ IS w' v (f d) ∧ Below w.heap.size w w')
    (HI0 : ∀ d v2 v3 v4 w, TbB d → Q d w → TbV w d v2 v3 v4 → Calls Tryd.prog 19 #[tbagg d v2 v3 v4, .int .i64 tg, .int .i64 ce] w fun e w' => ∃ v bl, e = .returned (.tuple #[v, .int .i64 (fc d)]) ∧ IF w' v (f d) bl ∧ Fr w w' bl ∧ Below w.heap.size w w')
    (d : Tb) (v2 v3 v4 : Value) (w : World) (hd : TbL d) (hq : Q d w) (h : TbV w d v2 v3 v4) :
    Calls Tryd.prog 5 #[tbagg d v2 v3 v4, .int .i64 tg, .int .i64 ce] w fun e w' => e = .returned (.bool true) ∧ Below w.heap.size w w' := by
  obtain ⟨a2, c2, hv2⟩ := h.targets.slice
  obtain ⟨a3, c3, hv3⟩ := h.dist.slice
  obtain ⟨a4, c4, hv4⟩ := h.hop.slice
  subst hv2 hv3 hv4
  have HQ := hide (fun w2 (hb2 : Below w.heap.size w w2) => hQ d w w2 hq hb2)
  have HSZ := hide (fun w2 (hb2 : Below w.heap.size w w2) => szTb_r (w := w2) (left := 1048576) (by omega) (by omega) hd (h.below hb2))
  have HTO := hide (fun w2 (hb : TbB d) (hb2 : Below w.heap.size w w2) => toTb_f d _ _ _ w2 hb (h.below hb2))
  have HS := hide (fun v2 v3 v4 w2 (hb : TbB d) (hb2 : Below w.heap.size w w2) (h2 : TbV w2 d v2 v3 v4) => HS0 d v2 v3 v4 w2 hb (HQ.out w2 hb2) h2)
  have HI := hide (fun v2 v3 v4 w2 (hb : TbB d) (hb2 : Below w.heap.size w w2) (h2 : TbV w2 d v2 v3 v4) => HI0 d v2 v3 v4 w2 hb (HQ.out w2 hb2) h2)
  have HE := hide (fun p2 p3 p4 q2 q3 q4 w2 hb h1 h2 => eqTb_same (w := w2) (d := d) (p2 := p2) (p3 := p3) (p4 := p4) (q2 := q2) (q3 := q3) (q4 := q4) hb h1 h2)
  have HF := hide (hf d)
  obtain ⟨r, hr⟩ : ∃ r, f d = r := ⟨_, rfl⟩
  obtain ⟨cd, hcd⟩ : ∃ c, fc d = c := ⟨_, rfl⟩
  rw [hr] at HF
  simp only [hr, hcd] at HS HI
  have tcd : (cd != cd) = false := by simp
  clear hcd
  clear h hd hq HS0 HI0 hQ hf hr
  obtain ⟨x0, x1, x2, x3, x4⟩ := d
  unfold tbagg at HSZ HTO HS HI HE ⊢
  simp only at HSZ HTO HS HI HE ⊢
  obtain ⟨W0, hW0⟩ : ∃ W, w.alloc (.cells #[.int .i64 x0, .int .i64 x1, .slice a2 (x2.length) c2, .slice a3 (x3.length) c3, .slice a4 (x4.length) c4] 25) = W := ⟨_, rfl⟩
  have HB0 : Hid (Below w.heap.size w W0) := by rw [← hW0]; exact (Below.refl _ _).alloc (Nat.le_refl _) _
  have HA0 : Hid (Blk W0 w.heap.size 25 #[.int .i64 x0, .int .i64 x1, .slice a2 (x2.length) c2, .slice a3 (x3.length) c3, .slice a4 (x4.length) c4]) := by rw [← hW0]; exact Blk.new _ _ _
  have HW := hide hW0
  clear hW0
  go_enter Tryd.func5, Tryd.ntmps5
  go_wp2_with fail
  rw [HW.out]
  refine (HSZ.out _ HB0.out).mono ?_
  rintro e w1 ⟨r1, rfl, hm, hr, ho, hb1⟩
  have HA1 := hide (HA0.out.below hb1)
  have HB1 : Hid (Below w.heap.size w w1) := HB0.out.trans (hb1.mono HB0.out.size)
  have HOK := hide ho
  clear hb1 ho HA0 HB0 HW HSZ
  by_cases hr0 : r1 < 0
  · have t0 : decide (r1 < 0) = true := decide_eq_true hr0
    go_wp2
    go_ret
    exact ⟨rfl, HB1.out⟩
  have t0 : decide (r1 < 0) = false := decide_eq_false hr0
  have HBD := hide (HOK.out (by omega))
  have HSM := hide (HF.out HBD.out)
  clear HOK HF
  have z0 := HA1.out.cell 0
  have z1 := HA1.out.cell 1
  have z2 := HA1.out.cell 2
  have z3 := HA1.out.cell 3
  have z4 := HA1.out.cell 4
  simp only [List.getElem?_toArray, List.getElem?_cons_succ, List.getElem?_cons_zero] at z0 z1 z2 z3 z4
  go_wp2_with fail
  refine (HTO.out _ HBD.out HB1.out).mono ?_
  rintro e w2 ⟨u2, u3, u4, bla, rfl, ho2, hr2, hb2⟩
  have HB2 : Hid (Below w.heap.size w w2) := HB1.out.trans (hb2.mono HB1.out.size)
  have hv2 := ho2.rd
  obtain ⟨g2a, k2a, rfl⟩ := hv2.targets.slice
  obtain ⟨g3a, k3a, rfl⟩ := hv2.dist.slice
  obtain ⟨g4a, k4a, rfl⟩ := hv2.hop.slice
  have HO2 := hide ho2
  have HF2 := hide hr2
  have HA2 := hide (HA1.out.below hb2)
  have HZ2 : Hid (w1.heap.size ≤ w2.heap.size) := hb2.size
  clear ho2 hr2 hv2 hb2 HA1 HF2 HZ2
  clear z0 z1 z2 z3 z4
  go_wp2_with fail
  refine (HS.out _ _ _ _ HBD.out HB2.out HO2.out.rd).mono ?_
  rintro e w3 ⟨v0, rfl, h0, hb3⟩
  obtain ⟨a0, c0, rfl⟩ := h0.slice
  have HR3 := hide h0
  have HWZ : Hid (w.heap.size < w3.heap.size) := Nat.lt_of_lt_of_le HA2.out.lt hb3.size
  have HA3 := hide (HA2.out.below hb3)
  have HB3 : Hid (Below w.heap.size w w3) := HB2.out.trans (hb3.mono HB2.out.size)
  clear h0 hb3 HA2 HO2
  have z0 := HA3.out.cell 0
  have z1 := HA3.out.cell 1
  have z2 := HA3.out.cell 2
  have z3 := HA3.out.cell 3
  have z4 := HA3.out.cell 4
  simp only [List.getElem?_toArray, List.getElem?_cons_succ, List.getElem?_cons_zero] at z0 z1 z2 z3 z4
  go_wp2_with fail
  refine (HTO.out _ HBD.out HB3.out).mono ?_
  rintro e w4 ⟨u2, u3, u4, blb, rfl, ho4, hr4, hb4⟩
  have HB4 : Hid (Below w.heap.size w w4) := HB3.out.trans (hb4.mono HB3.out.size)
  have hv4 := ho4.rd
  obtain ⟨g2b, k2b, rfl⟩ := hv4.targets.slice
  obtain ⟨g3b, k3b, rfl⟩ := hv4.dist.slice
  obtain ⟨g4b, k4b, rfl⟩ := hv4.hop.slice
  have HO4 := hide ho4
  have HF4 := hide hr4
  have HA4 := hide (HA3.out.below hb4)
  have HZ4 : Hid (w3.heap.size ≤ w4.heap.size) := hb4.size
  have HK4 : Hid (Below w3.heap.size w3 w4) := hb4
  clear ho4 hr4 hv4 hb4
  clear z0 z1 z2 z3 z4
  obtain ⟨W5, hW5⟩ : ∃ W, w4.alloc (.cells #[.int .i64 x0, .int .i64 x1, .slice g2b (x2.length) k2b, .slice g3b (x3.length) k3b, .slice g4b (x4.length) k4b] 31) = W := ⟨_, rfl⟩
  have hb5 : Below w4.heap.size w4 W5 := by rw [← hW5]; exact (Below.refl _ _).alloc (Nat.le_refl _) _
  have HB5 : Hid (Below w.heap.size w W5) := HB4.out.trans (hb5.mono HB4.out.size)
  have HK5 : Hid (Below w3.heap.size w3 W5) := HK4.out.trans (hb5.mono HK4.out.size)
  have HX5 : Hid (Blk W5 w4.heap.size 31 #[.int .i64 x0, .int .i64 x1, .slice g2b (x2.length) k2b, .slice g3b (x3.length) k3b, .slice g4b (x4.length) k4b]) := by rw [← hW5]; exact Blk.new _ _ _
  have HA5 := hide (HA4.out.below hb5)
  have HO5 := hide (HO4.out.below hb5)
  obtain ⟨B5, hB5⟩ : ∃ B, w4.heap.size = B := ⟨_, rfl⟩
  have HS5 : Hid (W5.heap.size = B5 + 1) := by show _ = _; rw [← hW5, World.size_alloc, hB5]
  have HFX : Hid (blb.Nodup ∧ (∀ g ∈ blb, w3.heap.size ≤ g) ∧ ∀ g ∈ blb, g < B5) := ⟨HF4.out.nd, HF4.out.lo, fun g hg => by rw [← hB5]; exact HF4.out.hi g hg⟩
  have HW := hide hW5
  have HBB := hide hB5
  have HB35 : Hid (w3.heap.size ≤ B5) := by show _ ≤ _; rw [← hB5]; exact HZ4.out
  rw [hB5] at HX5
  clear hb5 hW5 hB5
  go_wp2_with fail
  rw [HW.out, HBB.out]
  refine (HI.out _ _ _ _ HBD.out HB5.out HO5.out.rd).mono ?_
  clear HA4 HO4 HW HBB HF4 HK4 HZ4
  rintro e w6 ⟨vg, blg, rfl, hg6, hf6, hb6⟩
  obtain ⟨ag, cg, rfl⟩ := hg6.slice
  have HG6 := hide hg6
  have HFG : Hid (blg.Nodup ∧ ∀ g ∈ blg, B5 < g) := ⟨hf6.nd, fun g hg => by have h1 := hf6.lo g hg; have h2 := HS5.out; omega⟩
  have HX6 := hide (HX5.out.below hb6)
  have HA6 := hide (HA5.out.below hb6)
  have HO6 := hide (HO5.out.below hb6)
  have HB6 : Hid (Below w.heap.size w w6) := HB5.out.trans (hb6.mono HB5.out.size)
  have HK6 : Hid (Below w3.heap.size w3 w6) := HK5.out.trans (hb6.mono HK5.out.size)
  clear hg6 hf6 hb6 HX5 HA5 HO5 HB5 HK5 HS5
  go_wp2_with fail
  refine (eqI_same (w := w6) HSM.out HG6.out.rd (HR3.out.below HK6.out)).mono ?_
  rintro e w7 ⟨rfl, hb7⟩
  have HG7 := hide (HG6.out.below hb7)
  have HX7 := hide (HX6.out.below hb7)
  have HA7 := hide (HA6.out.below hb7)
  have HO7 := hide (HO6.out.below hb7)
  have HB7 : Hid (Below w.heap.size w w7) := HB6.out.trans (hb7.mono HB6.out.size)
  have HK7 : Hid (Below w3.heap.size w3 w7) := HK6.out.trans (hb7.mono HK6.out.size)
  clear hb7 HG6 HX6 HA6 HO6 HB6 HK6
  have z0 := HA7.out.cell 0
  have z1 := HA7.out.cell 1
  have z2 := HA7.out.cell 2
  have z3 := HA7.out.cell 3
  have z4 := HA7.out.cell 4
  simp only [List.getElem?_toArray, List.getElem?_cons_succ, List.getElem?_cons_zero] at z0 z1 z2 z3 z4
  have y0 := HX7.out.cell 0
  have y1 := HX7.out.cell 1
  have y2 := HX7.out.cell 2
  have y3 := HX7.out.cell 3
  have y4 := HX7.out.cell 4
  simp only [List.getElem?_toArray, List.getElem?_cons_succ, List.getElem?_cons_zero] at y0 y1 y2 y3 y4
  have HTO7 := hide (HTO.out w7.drew HBD.out HB7.out.drew)
  have hmx : Tryd.prog.follows .mixedOrders = true := by kernel_rfl
  have HK : Hid (∀ w8, Below w7.drew.heap.size w7.drew w8 → Below w7.heap.size w7 w8 ∧ TbV w8 ⟨x0, x1, x2, x3, x4⟩ (.slice g2b (x2.length) k2b) (.slice g3b (x3.length) k3b) (.slice g4b (x4.length) k4b) ∧ w8.cell? ⟨B5, 0, none⟩ = some (.int .i64 x0) ∧ w8.cell? ⟨B5, 1, none⟩ = some (.int .i64 x1) ∧ w8.cell? ⟨B5, 2, none⟩ = some (.slice g2b (x2.length) k2b) ∧ w8.cell? ⟨B5, 3, none⟩ = some (.slice g3b (x3.length) k3b) ∧ w8.cell? ⟨B5, 4, none⟩ = some (.slice g4b (x4.length) k4b)) := fun w8 hb8 => by
    have hbx : Below w7.heap.size w7 w8 := (Below.refl _ _).drew.trans hb8
    exact ⟨hbx, HO7.out.rd.below hbx, cell_kept y0 hbx, cell_kept y1 hbx, cell_kept y2 hbx, cell_kept y3 hbx, cell_kept y4 hbx⟩
  go_wp2_with fail
  go_region_with (first
    | (go_at_call 11; refine HTO7.out.mono ?_; rintro e w8 ⟨u2, u3, u4, blc, rfl, ho8, hr8, hb8⟩; obtain ⟨hk1, hk2, n0, n1, n2, n3, n4⟩ := HK.out w8 hb8; have HB8 := hide hk1; have HV8 := hide hk2; have ho8' := ho8.rd; obtain ⟨g2c, k2c, rfl⟩ := ho8'.targets.slice; obtain ⟨g3c, k3c, rfl⟩ := ho8'.dist.slice; obtain ⟨g4c, k4c, rfl⟩ := ho8'.hop.slice; have HO8 := hide ho8'; clear ho8 ho8' hr8 hb8 hk1 hk2)
    | (go_at_call 14; refine (HE.out _ _ _ _ _ _ _ HBD.out HV8.out HO8.out).mono ?_; rintro e w9 ⟨rfl, hb9⟩; have HB9 := hide (HB8.out.trans (hb9.mono HB8.out.size)); clear hb9))
  all_goals have HA9 := hide (HA7.out.below HB9.out)
  all_goals have HX9 := hide (HX7.out.below HB9.out)
  all_goals have HO9 := hide (HO7.out.below HB9.out)
  all_goals have HG9 := hide (HG7.out.below HB9.out)
  all_goals have HW9 : Hid (Below w.heap.size w w9) := HB7.out.trans (HB9.out.mono HB7.out.size)
  all_goals have HK9 : Hid (Below w3.heap.size w3 w9) := HK7.out.trans (HB9.out.mono HK7.out.size)
  all_goals
    clear n0 n1 n2 n3 n4 y0 y1 y2 y3 y4 z0 z1 z2 z3 z4 HB9 HB8 HV8 HO8 HK HTO7 HA7 HX7 HO7 HG7 HB7 HK7
    have y0 := HX9.out.cell 0
    have y1 := HX9.out.cell 1
    have y2 := HX9.out.cell 2
    have y3 := HX9.out.cell 3
    have y4 := HX9.out.cell 4
    simp only [List.getElem?_toArray, List.getElem?_cons_succ, List.getElem?_cons_zero] at y0 y1 y2 y3 y4
    go_wp2_with fail
    change Calls Tryd.prog 21 #[tbagg ⟨x0, x1, x2, x3, x4⟩ (.slice g2b (x2.length) k2b) (.slice g3b (x3.length) k3b) (.slice g4b (x4.length) k4b), .int .i64 ((1 : Nat) : Int)] w9 _
    refine (markTb_f (w := w9) (k := 1) HBD.out (by omega) HO9.out HFX.out.1).mono ?_
    rintro e w10 ⟨rfl, _, hw10⟩
    obtain ⟨kx, hkx⟩ : ∃ kx, 1 + TbNv ⟨x0, x1, x2, x3, x4⟩ = kx := ⟨_, rfl⟩
    rw [hkx]
    have tx : decide ((kx : Int) < 0) = false := decide_eq_false (by omega)
    have HK10 : Hid (Below w3.heap.size w3 w10) := HK9.out.trans (hw10.below HFX.out.2.1 HK9.out.size)
    have HW10 : Hid (Below w.heap.size w w10) := HW9.out.trans (hw10.below (fun g hg => by have h1 := HFX.out.2.1 g hg; have h2 := HWZ.out; omega) HW9.out.size)
    have HG10 := hide (HG9.out.keep (fun g hg => hw10.blk g (HG9.out.lt g hg) (fun hm => by have h1 := HFX.out.2.2 g hm; have h2 := HFG.out.2 g hg; omega)))
    have HA10 : Hid (Blk w10 w.heap.size 25 #[.int .i64 x0, .int .i64 x1, .slice a2 (x2.length) c2, .slice a3 (x3.length) c3, .slice a4 (x4.length) c4]) := (hw10.blk _ HA9.out.lt (fun hm => by have h1 := HFX.out.2.1 _ hm; have h2 := HWZ.out; omega)).trans HA9.out
    clear hw10 hkx y0 y1 y2 y3 y4 HA9 HX9 HO9 HG9 HW9 HK9
    go_wp2_with fail
    refine (eqI_same (w := w10) HSM.out HG10.out.rd (HR3.out.below HK10.out)).mono ?_
    rintro e w11 ⟨rfl, hb11⟩
    have HG11 := hide (HG10.out.below hb11)
    have HA11 := hide (HA10.out.below hb11)
    have HW11 : Hid (Below w.heap.size w w11) := HW10.out.trans (hb11.mono HW10.out.size)
    have HK11 : Hid (Below w3.heap.size w3 w11) := HK10.out.trans (hb11.mono HK10.out.size)
    clear hb11 tx HG10 HA10 HW10 HK10
    go_wp2_with fail
    change Calls Tryd.prog 22 #[.slice ag (r.length) cg, .int .i64 ((1 : Nat) : Int)] w11 _
    refine (markI_f (w := w11) (k := 1) (by have := HSM.out; omega) (by omega) HG11.out).mono ?_
    rintro e w12 ⟨rfl, hm12, hw12⟩
    have HM12 := hide hm12
    obtain ⟨km, hkm⟩ : ∃ km, 1 + r.length = km := ⟨_, rfl⟩
    rw [hkm]
    have HKM := hide hkm
    have tm : decide ((km : Int) < 0) = false := decide_eq_false (by omega)
    have te : ((km : Int) != (km : Int)) = false := by simp
    have HK12 : Hid (Below w3.heap.size w3 w12) := HK11.out.trans (hw12.below (fun g hg => by have h1 := HFG.out.2 g hg; have h2 := HB35.out; omega) HK11.out.size)
    have HW12 : Hid (Below w.heap.size w w12) := HW11.out.trans (hw12.below (fun g hg => by have h1 := HFG.out.2 g hg; have h2 := HB35.out; have h3 := HWZ.out; omega) HW11.out.size)
    have HA12 : Hid (Blk w12 w.heap.size 25 #[.int .i64 x0, .int .i64 x1, .slice a2 (x2.length) c2, .slice a3 (x3.length) c3, .slice a4 (x4.length) c4]) := (hw12.blk _ HA11.out.lt (fun hm => by have h1 := HFG.out.2 _ hm; have h2 := HB35.out; have h3 := HWZ.out; omega)).trans HA11.out
    clear hm12 hw12 hkm HG11 HA11 HW11 HK11
    have HH12 : Hid (∀ wz, Below w12.heap.size w12 wz → Calls Tryd.prog 23 #[.slice ag (r.length) cg, .int .i64 ((1 : Nat) : Int)] wz fun e w' => e = .returned (.int .i64 (km : Nat)) ∧ w' = wz) := fun wz hz => by
      have := heldI_f (w := wz) (k := 1) (by have := HSM.out; omega) (by omega) (HM12.out.below hz)
      rw [HKM.out] at this
      exact this
    go_wp2_with fail
    change Calls Tryd.prog 23 #[.slice ag (r.length) cg, .int .i64 ((1 : Nat) : Int)] w12 _
    refine (HH12.out _ (Below.refl _ _)).mono ?_
    rintro e wq ⟨rfl, hwq⟩
    subst hwq
    have z0 := HA12.out.cell 0
    have z1 := HA12.out.cell 1
    have z2 := HA12.out.cell 2
    have z3 := HA12.out.cell 3
    have z4 := HA12.out.cell 4
    simp only [List.getElem?_toArray, List.getElem?_cons_succ, List.getElem?_cons_zero] at z0 z1 z2 z3 z4
    rename World => w12
    go_wp2_with fail
    refine (HTO.out _ HBD.out HW12.out).mono ?_
    rintro e w13 ⟨u2, u3, u4, bld, rfl, ho13, _, hb13⟩
    have HW13 : Hid (Below w.heap.size w w13) := HW12.out.trans (hb13.mono HW12.out.size)
    have hv13 := ho13.rd
    obtain ⟨g2d, k2d, rfl⟩ := hv13.targets.slice
    obtain ⟨g3d, k3d, rfl⟩ := hv13.dist.slice
    obtain ⟨g4d, k4d, rfl⟩ := hv13.hop.slice
    have HV13 := hide hv13
    have HD13 := hide hb13
    clear ho13 hv13 hb13 z0 z1 z2 z3 z4
    go_wp2_with fail
    refine (HI.out _ _ _ _ HBD.out HW13.out HV13.out).mono ?_
    rintro e w14 ⟨vh, blh, rfl, hg14, _, hb14⟩
    obtain ⟨ah, ch, rfl⟩ := hg14.slice
    have HG14 := hide hg14
    have HD14 : Hid (Below w12.heap.size w12 w14) := HD13.out.trans (hb14.mono HD13.out.size)
    clear hg14 hb14 HD13 HV13
    go_wp2_with fail
    refine (eqI_same (w := w14) HSM.out HG14.out.rd (HR3.out.below (HK12.out.trans (HD14.out.mono HK12.out.size)))).mono ?_
    rintro e w15 ⟨rfl, hb15⟩
    have HD15 : Hid (Below w12.heap.size w12 w15) := HD14.out.trans (hb15.mono HD14.out.size)
    have HW15 : Hid (Below w.heap.size w w15) := HW12.out.trans (HD15.out.mono HW12.out.size)
    clear hb15 HD14 HG14
    go_wp2_with fail
    change Calls Tryd.prog 23 #[.slice ag (r.length) cg, .int .i64 ((1 : Nat) : Int)] w15 _
    refine (HH12.out _ HD15.out).mono ?_
    rintro e wq ⟨rfl, hwq⟩
    subst hwq
    go_wp2
    go_ret
    exact ⟨rfl, HW15.out⟩
end Go.Proofs.YteicpjbeihabnaaDoor
