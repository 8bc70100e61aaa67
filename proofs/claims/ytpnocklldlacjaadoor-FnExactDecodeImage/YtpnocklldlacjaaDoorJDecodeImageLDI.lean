/-
  The walk of laws.FnExactDecodeImage, out of what impl.DecodeImage and spec.DecodeImage answer.
-/
import Derived.Test.YtpnocklldlacjaaDoorJDecodeImageIN0
import Derived.Test.YtpnocklldlacjaaDoorJDecodeImageMKB
import Derived.Test.YtpnocklldlacjaaDoorJDecodeImageMKB
import Derived.Test.YtpnocklldlacjaaDoorJDecodeImageTB
import Derived.Test.YtpnocklldlacjaaDoorJDecodeImageTgS3
import Derived.Test.YtpnocklldlacjaaDoorJDecodeImageTbMK
import Derived.Test.YtpnocklldlacjaaDoorJDecodeImageTbMK
import Derived.BigQuiet
import Derived.Deep.QuietTactic
import Derived.Deep.RegionWith
namespace Go.Proofs.YtpnocklldlacjaaDoor
open Go.RowKit

set_option maxHeartbeats 4000000 in
set_option maxRecDepth 1000000 in
theorem lawDI (f : ByteArray → Tb) (fc : ByteArray → Int) (Q : World → Prop) (hQ : ∀ w w', Q w → Below w.heap.size w w' → Q w') (hf : ∀ s, s.size ≤ 1048576 → TbB (f s))
    (HS0 : ∀ s u w, s.size ≤ 1048576 → Q w → BS w u s → Cp u → Calls Tryd.prog 20 #[u] w fun e w' => ∃ v2 v3 v4, e = .returned (.tuple #[tbagg (f s) v2 v3 v4, .int .i64 (fc s)]) ∧ TbV w' (f s) v2 v3 v4 ∧ Below w.heap.size w w')
    (HI0 : ∀ s u w, s.size ≤ 1048576 → Q w → BS w u s → Cp u → Calls Tryd.prog 22 #[u] w fun e w' => ∃ v2 v3 v4 bl, e = .returned (.tuple #[tbagg (f s) v2 v3 v4, .int .i64 (fc s)]) ∧ TbF w' (f s) v2 v3 v4 bl ∧ Fr w w' bl ∧ Below w.heap.size w w')
    (s : ByteArray) (u : Value) (w : World) (_ : (s.size : Int) ≤ 9223372036854775807) (hq : Q w) (h : BS w u s) :
    Calls Tryd.prog 6 #[u] w fun e w' => e = .returned (.bool true) ∧ Below w.heap.size w w' := by
  have HQ := hide (fun w2 (hb2 : Below w.heap.size w w2) => hQ w w2 hq hb2)
  have HTO := hide (fun w2 (hs : s.size ≤ 1048576) (hb2 : Below w.heap.size w w2) => toB_fc (w := w2) hs (h.below hb2))
  have HEB := hide (fun p q w2 (hs : s.size ≤ 1048576) (h1 : BS w2 p s) (h2 : BS w2 q s) => eqB_self (w := w2) hs h1 h2)
  have HS := hide (fun u w2 (hs : s.size ≤ 1048576) (hb2 : Below w.heap.size w w2) (h2 : BS w2 u s) (hc : Cp u) => HS0 s u w2 hs (HQ.out w2 hb2) h2 hc)
  have HI := hide (fun u w2 (hs : s.size ≤ 1048576) (hb2 : Below w.heap.size w w2) (h2 : BS w2 u s) (hc : Cp u) => HI0 s u w2 hs (HQ.out w2 hb2) h2 hc)
  have HF := hide (hf s)
  obtain ⟨r, hr⟩ : ∃ r, f s = r := ⟨_, rfl⟩
  obtain ⟨cd, hcd⟩ : ∃ c, fc s = c := ⟨_, rfl⟩
  rw [hr] at HF
  simp only [hr, hcd] at HS HI
  have HE := hide (fun p2 p3 p4 q2 q3 q4 w2 hb h1 h2 => eqTb_same (w := w2) (d := r) (p2 := p2) (p3 := p3) (p4 := p4) (q2 := q2) (q3 := q3) (q4 := q4) hb h1 h2)
  have tcd : (cd != cd) = false := by simp
  obtain ⟨au, cu, hu⟩ := h.slice
  subst hu
  clear h HS0 HI0 hf hr hcd hQ hq
  obtain ⟨x0, x1, x2, x3, x4⟩ := r
  unfold tbagg at HS HI HE
  simp only at HS HI HE
  by_cases hL : 1048576 < (s.size : Int)
  · have tL : decide (1048576 < (s.size : Int)) = true := decide_eq_true hL
    go_enter Tryd.func6, Tryd.ntmps6
    go_wp2
    go_ret
    exact ⟨rfl, Below.refl _ _⟩
  have tL : decide (1048576 < (s.size : Int)) = false := decide_eq_false hL
  have hs : s.size ≤ 1048576 := by omega
  have HSM := hide (HF.out hs)
  clear hL HF
  go_enter Tryd.func6, Tryd.ntmps6
  go_wp2_with fail
  refine (HTO.out _ hs (Below.refl _ _)).mono ?_
  rintro e w2 ⟨u2, bla, rfl, ho2, hc2, _, hb2⟩
  obtain ⟨a2, c2, rfl⟩ := ho2.slice
  have HB2 : Hid (Below w.heap.size w w2) := hb2
  have HO2 := hide ho2.rd
  have HC2 := hide hc2
  clear ho2 hb2 hc2
  go_wp2_with fail
  refine (HS.out _ _ hs HB2.out HO2.out HC2.out).mono ?_
  rintro e w3 ⟨p2, p3, p4, rfl, h0, hb3⟩
  obtain ⟨ap2, cp2, rfl⟩ := h0.targets.slice
  obtain ⟨ap3, cp3, rfl⟩ := h0.dist.slice
  obtain ⟨ap4, cp4, rfl⟩ := h0.hop.slice
  obtain ⟨W3, hW3⟩ : ∃ W, w3.alloc (.cells #[.int .i64 x0, .int .i64 x1, .slice ap2 (x2.length) cp2, .slice ap3 (x3.length) cp3, .slice ap4 (x4.length) cp4] 30) = W := ⟨_, rfl⟩
  have hb3' : Below w3.heap.size w3 W3 := by rw [← hW3]; exact (Below.refl _ _).alloc (Nat.le_refl _) _
  have HR3 := hide (h0.below hb3')
  have HB3 : Hid (Below w.heap.size w W3) := (HB2.out.trans (hb3.mono HB2.out.size)).trans (hb3'.mono (HB2.out.trans (hb3.mono HB2.out.size)).size)
  have HY3 : Hid (Blk W3 w3.heap.size 30 #[.int .i64 x0, .int .i64 x1, .slice ap2 (x2.length) cp2, .slice ap3 (x3.length) cp3, .slice ap4 (x4.length) cp4]) := by rw [← hW3]; exact Blk.new _ _ _
  obtain ⟨B3, hB3⟩ : ∃ B, w3.heap.size = B := ⟨_, rfl⟩
  rw [hB3] at HY3
  have HLT3 : Hid (B3 < W3.heap.size) := HY3.out.lt
  have HWB : Hid (w.heap.size ≤ W3.heap.size) := HB3.out.size
  have HW := hide hW3
  have HBB := hide hB3
  clear h0 hb3 hb3' hW3 hB3 HB2 HO2
  go_wp2_with fail
  rw [HW.out, HBB.out]
  clear HW HBB
  refine (HTO.out _ hs HB3.out).mono ?_
  rintro e w4 ⟨u4, blb, rfl, ho4, hc4, hr4, hb4⟩
  obtain ⟨a4, c4, rfl⟩ := ho4.slice
  have HB4 : Hid (Below w.heap.size w w4) := HB3.out.trans (hb4.mono HB3.out.size)
  have HK4 : Hid (Below W3.heap.size W3 w4) := hb4
  have HO4 := hide ho4
  have HC4 := hide hc4
  have HFX : Hid (blb.Nodup ∧ (∀ g ∈ blb, W3.heap.size ≤ g) ∧ ∀ g ∈ blb, g < w4.heap.size) := ⟨hr4.nd, hr4.lo, hr4.hi⟩
  clear ho4 hc4 hr4 hb4
  go_wp2_with fail
  refine (HI.out _ _ hs HB4.out HO4.out.rd HC4.out).mono ?_
  rintro e w6 ⟨g2, g3, g4, blg, rfl, hg6, hf6, hb6⟩
  have hv6 := hg6.rd
  obtain ⟨ag2, cg2, rfl⟩ := hv6.targets.slice
  obtain ⟨ag3, cg3, rfl⟩ := hv6.dist.slice
  obtain ⟨ag4, cg4, rfl⟩ := hv6.hop.slice
  obtain ⟨W6, hW6⟩ : ∃ W, w6.alloc (.cells #[.int .i64 x0, .int .i64 x1, .slice ag2 (x2.length) cg2, .slice ag3 (x3.length) cg3, .slice ag4 (x4.length) cg4] 30) = W := ⟨_, rfl⟩
  have hb6' : Below w6.heap.size w6 W6 := by rw [← hW6]; exact (Below.refl _ _).alloc (Nat.le_refl _) _
  have hb46 : Below w4.heap.size w4 W6 := hb6.trans (hb6'.mono hb6.size)
  have HG6 := hide (hg6.below hb6')
  have HFG : Hid (blg.Nodup ∧ (∀ g ∈ blg, w4.heap.size ≤ g) ∧ ∀ g ∈ blg, g < w6.heap.size) := ⟨hf6.nd, hf6.lo, hf6.hi⟩
  have HZ46 : Hid (W3.heap.size ≤ w4.heap.size ∧ w4.heap.size ≤ w6.heap.size) := ⟨HK4.out.size, hb6.size⟩
  have HO6 := hide (HO4.out.below hb46)
  have HB6 : Hid (Below w.heap.size w W6) := HB4.out.trans (hb46.mono HB4.out.size)
  have HK6 : Hid (Below W3.heap.size W3 W6) := HK4.out.trans (hb46.mono HK4.out.size)
  have HY6 := hide (HY3.out.below HK6.out)
  have HX6 : Hid (Blk W6 w6.heap.size 30 #[.int .i64 x0, .int .i64 x1, .slice ag2 (x2.length) cg2, .slice ag3 (x3.length) cg3, .slice ag4 (x4.length) cg4]) := by rw [← hW6]; exact Blk.new _ _ _
  obtain ⟨B6, hB6⟩ : ∃ B, w6.heap.size = B := ⟨_, rfl⟩
  rw [hB6] at HX6 HFG HZ46
  have HW := hide hW6
  have HBB := hide hB6
  clear hg6 hf6 hb6 hb6' hb46 hW6 hB6 hv6 HO4 HB4 HK4 HY3
  have y0 := HY6.out.cell 0
  have y1 := HY6.out.cell 1
  have y2 := HY6.out.cell 2
  have y3 := HY6.out.cell 3
  have y4 := HY6.out.cell 4
  simp only [List.getElem?_toArray, List.getElem?_cons_succ, List.getElem?_cons_zero] at y0 y1 y2 y3 y4
  rw [← HW.out] at y0 y1 y2 y3 y4
  have hne6 : B3 ≠ w6.heap.size := by have h1 := HLT3.out; have h2 := HZ46.out; have h3 := HBB.out; omega
  go_wp2_with fail
  rw [HW.out, HBB.out]
  clear HW HBB
  refine (HE.out _ _ _ _ _ _ _ HSM.out HG6.out.rd (HR3.out.below HK6.out)).mono ?_
  rintro e w7 ⟨rfl, hb7⟩
  have HG7 := hide (HG6.out.below hb7)
  have HX7 := hide (HX6.out.below hb7)
  have HY7 := hide (HY6.out.below hb7)
  have HO7 := hide (HO6.out.below hb7)
  have HB7 : Hid (Below w.heap.size w w7) := HB6.out.trans (hb7.mono HB6.out.size)
  have HK7 : Hid (Below W3.heap.size W3 w7) := HK6.out.trans (hb7.mono HK6.out.size)
  clear hb7 HG6 HX6 HY6 HO6 HB6 HK6
  clear y0 y1 y2 y3 y4
  go_wp2_with fail
  refine (HTO.out _ hs HB7.out).mono ?_
  rintro e w8 ⟨u8, blc, rfl, ho8, _, _, hb8⟩
  obtain ⟨a8, c8, rfl⟩ := ho8.slice
  have HB8 := hide hb8
  have HO8 := hide ho8.rd
  clear ho8 hb8
  go_wp2_with fail
  refine (HEB.out _ _ _ hs (HO7.out.rd.below HB8.out) HO8.out).mono ?_
  rintro e w9 ⟨rfl, hb9⟩
  have HB9 : Hid (Below w7.heap.size w7 w9) := HB8.out.trans (hb9.mono HB8.out.size)
  have HO9 := hide (HO7.out.below HB9.out)
  have HG9 := hide (HG7.out.below HB9.out)
  have HX9 := hide (HX7.out.below HB9.out)
  have HY9 := hide (HY7.out.below HB9.out)
  have HW9 : Hid (Below w.heap.size w w9) := HB7.out.trans (HB9.out.mono HB7.out.size)
  have HK9 : Hid (Below W3.heap.size W3 w9) := HK7.out.trans (HB9.out.mono HK7.out.size)
  clear hb9 HB9 HB8 HO8 HO7 HG7 HX7 HY7 HB7 HK7
  go_wp2_with fail
  change Calls Tryd.prog 18 #[.slice a4 (s.size) c4, .int .i64 ((1 : Nat) : Int)] w9 _
  refine (markB_f (w := w9) (k := 1) (by omega) (by omega) HO9.out).mono ?_
  rintro e w10 ⟨rfl, _, hw10⟩
  obtain ⟨kx, hkx⟩ : ∃ kx, 1 + s.size = kx := ⟨_, rfl⟩
  rw [hkx]
  have tx : decide ((kx : Int) < 0) = false := decide_eq_false (by omega)
  have HK10 : Hid (Below W3.heap.size W3 w10) := HK9.out.trans (hw10.below HFX.out.2.1 HK9.out.size)
  have HW10 : Hid (Below w.heap.size w w10) := HW9.out.trans (hw10.below (fun g hg => by have h1 := HFX.out.2.1 g hg; have h2 := HWB.out; omega) HW9.out.size)
  have HG10 := hide (HG9.out.keep (fun g hg => hw10.blk g (HG9.out.lt g hg) (fun hm => by have h1 := HFX.out.2.2 g hm; have h2 := HFG.out.2.1 g hg; omega)))
  have HX10 : Hid (Blk w10 B6 30 #[.int .i64 x0, .int .i64 x1, .slice ag2 (x2.length) cg2, .slice ag3 (x3.length) cg3, .slice ag4 (x4.length) cg4]) := (hw10.blk _ HX9.out.lt (fun hm => by have h1 := HFX.out.2.2 _ hm; have h2 := HZ46.out; omega)).trans HX9.out
  have HY10 : Hid (Blk w10 B3 30 #[.int .i64 x0, .int .i64 x1, .slice ap2 (x2.length) cp2, .slice ap3 (x3.length) cp3, .slice ap4 (x4.length) cp4]) := (hw10.blk _ HY9.out.lt (fun hm => by have h1 := HFX.out.2.1 _ hm; have h2 := HLT3.out; omega)).trans HY9.out
  clear hw10 hkx HO9 HG9 HX9 HY9 HW9 HK9
  have z0 := HX10.out.cell 0
  have z1 := HX10.out.cell 1
  have z2 := HX10.out.cell 2
  have z3 := HX10.out.cell 3
  have z4 := HX10.out.cell 4
  simp only [List.getElem?_toArray, List.getElem?_cons_succ, List.getElem?_cons_zero] at z0 z1 z2 z3 z4
  have y0 := HY10.out.cell 0
  have y1 := HY10.out.cell 1
  have y2 := HY10.out.cell 2
  have y3 := HY10.out.cell 3
  have y4 := HY10.out.cell 4
  simp only [List.getElem?_toArray, List.getElem?_cons_succ, List.getElem?_cons_zero] at y0 y1 y2 y3 y4
  go_wp2_with fail
  refine (HE.out _ _ _ _ _ _ _ HSM.out HG10.out.rd (HR3.out.below HK10.out)).mono ?_
  rintro e w11 ⟨rfl, hb11⟩
  have HG11 := hide (HG10.out.below hb11)
  have HX11 := hide (HX10.out.below hb11)
  have HY11 := hide (HY10.out.below hb11)
  have HW11 : Hid (Below w.heap.size w w11) := HW10.out.trans (hb11.mono HW10.out.size)
  have HK11 : Hid (Below W3.heap.size W3 w11) := HK10.out.trans (hb11.mono HK10.out.size)
  clear hb11 tx HG10 HX10 HY10 HW10 HK10
  clear z0 z1 z2 z3 z4 y0 y1 y2 y3 y4
  have z0 := HX11.out.cell 0
  have z1 := HX11.out.cell 1
  have z2 := HX11.out.cell 2
  have z3 := HX11.out.cell 3
  have z4 := HX11.out.cell 4
  simp only [List.getElem?_toArray, List.getElem?_cons_succ, List.getElem?_cons_zero] at z0 z1 z2 z3 z4
  go_wp2_with fail
  change Calls Tryd.prog 17 #[tbagg ⟨x0, x1, x2, x3, x4⟩ (.slice ag2 (x2.length) cg2) (.slice ag3 (x3.length) cg3) (.slice ag4 (x4.length) cg4), .int .i64 ((1 : Nat) : Int)] w11 _
  refine (markTb_f (w := w11) (k := 1) HSM.out (by omega) HG11.out HFG.out.1).mono ?_
  rintro e w12 ⟨rfl, hm12, hw12⟩
  have HM12 := hide hm12
  obtain ⟨km, hkm⟩ : ∃ km, 1 + TbNv ⟨x0, x1, x2, x3, x4⟩ = km := ⟨_, rfl⟩
  rw [hkm]
  have HKM := hide hkm
  have tm : decide ((km : Int) < 0) = false := decide_eq_false (by omega)
  have te : ((km : Int) != (km : Int)) = false := by simp
  have HK12 : Hid (Below W3.heap.size W3 w12) := HK11.out.trans (hw12.below (fun g hg => by have h1 := HFG.out.2.1 g hg; have h2 := HZ46.out; omega) HK11.out.size)
  have HW12 : Hid (Below w.heap.size w w12) := HW11.out.trans (hw12.below (fun g hg => by have h1 := HFG.out.2.1 g hg; have h2 := HZ46.out; have h3 := HWB.out; omega) HW11.out.size)
  have HX12 : Hid (Blk w12 B6 30 #[.int .i64 x0, .int .i64 x1, .slice ag2 (x2.length) cg2, .slice ag3 (x3.length) cg3, .slice ag4 (x4.length) cg4]) := (hw12.blk _ HX11.out.lt (fun hm => by have h1 := HFG.out.2.2 _ hm; omega)).trans HX11.out
  have HY12 : Hid (Blk w12 B3 30 #[.int .i64 x0, .int .i64 x1, .slice ap2 (x2.length) cp2, .slice ap3 (x3.length) cp3, .slice ap4 (x4.length) cp4]) := (hw12.blk _ HY11.out.lt (fun hm => by have h1 := HFG.out.2.1 _ hm; have h2 := HZ46.out; have h3 := HLT3.out; omega)).trans HY11.out
  clear hm12 hw12 hkm HG11 HX11 HY11 HW11 HK11
  clear z0 z1 z2 z3 z4
  have HH12 : Hid (∀ wz, Below w12.heap.size w12 wz → Calls Tryd.prog 23 #[tbagg ⟨x0, x1, x2, x3, x4⟩ (.slice ag2 (x2.length) cg2) (.slice ag3 (x3.length) cg3) (.slice ag4 (x4.length) cg4), .int .i64 ((1 : Nat) : Int)] wz fun e w' => e = .returned (.int .i64 (km : Nat)) ∧ Below wz.heap.size wz w') := fun wz hz => by
    have := heldTb_f (w := wz) (k := 1) HSM.out (by omega) (HM12.out.below hz)
    rw [HKM.out] at this
    exact this
  have z0 := HX12.out.cell 0
  have z1 := HX12.out.cell 1
  have z2 := HX12.out.cell 2
  have z3 := HX12.out.cell 3
  have z4 := HX12.out.cell 4
  simp only [List.getElem?_toArray, List.getElem?_cons_succ, List.getElem?_cons_zero] at z0 z1 z2 z3 z4
  go_wp2_with fail
  change Calls Tryd.prog 23 #[tbagg ⟨x0, x1, x2, x3, x4⟩ (.slice ag2 (x2.length) cg2) (.slice ag3 (x3.length) cg3) (.slice ag4 (x4.length) cg4), .int .i64 ((1 : Nat) : Int)] w12 _
  refine (HH12.out _ (Below.refl _ _)).mono ?_
  rintro e wq ⟨rfl, hwq⟩
  have HDQ := hide hwq
  have HWQ : Hid (Below w.heap.size w wq) := HW12.out.trans (hwq.mono HW12.out.size)
  clear hwq
  clear z0 z1 z2 z3 z4
  go_wp2_with fail
  refine (HTO.out _ hs HWQ.out).mono ?_
  rintro e w13 ⟨u13, bld, rfl, ho13, hc13, _, hb13⟩
  obtain ⟨a13, c13, rfl⟩ := ho13.slice
  have HW13 : Hid (Below w.heap.size w w13) := HWQ.out.trans (hb13.mono HWQ.out.size)
  have HV13 := hide ho13.rd
  have HC13 := hide hc13
  have HD13 : Hid (Below w12.heap.size w12 w13) := HDQ.out.trans (hb13.mono HDQ.out.size)
  clear ho13 hb13 hc13
  go_wp2_with fail
  refine (HI.out _ _ hs HW13.out HV13.out HC13.out).mono ?_
  rintro e w14 ⟨h2, h3, h4, blh, rfl, hg14, _, hb14⟩
  have hv14 := hg14.rd
  obtain ⟨ah2, ch2, rfl⟩ := hv14.targets.slice
  obtain ⟨ah3, ch3, rfl⟩ := hv14.dist.slice
  obtain ⟨ah4, ch4, rfl⟩ := hv14.hop.slice
  obtain ⟨W14, hW14⟩ : ∃ W, w14.alloc (.cells #[.int .i64 x0, .int .i64 x1, .slice ah2 (x2.length) ch2, .slice ah3 (x3.length) ch3, .slice ah4 (x4.length) ch4] 30) = W := ⟨_, rfl⟩
  have hb14' : Below w14.heap.size w14 W14 := by rw [← hW14]; exact (Below.refl _ _).alloc (Nat.le_refl _) _
  have HV14 := hide (hv14.below hb14')
  have HLT14 : Hid (B3 < w14.heap.size) := by have h1 := (HY12.out.below (HD13.out.trans (hb14.mono HD13.out.size))).lt; exact h1
  have HD14 : Hid (Below w12.heap.size w12 W14) := (HD13.out.trans (hb14.mono HD13.out.size)).trans (hb14'.mono (HD13.out.trans (hb14.mono HD13.out.size)).size)
  have HK14 : Hid (Below W3.heap.size W3 W14) := HK12.out.trans (HD14.out.mono HK12.out.size)
  have HX14 := hide (HX12.out.below HD14.out)
  have HY14 := hide (HY12.out.below HD14.out)
  obtain ⟨B14, hB14⟩ : ∃ B, w14.heap.size = B := ⟨_, rfl⟩
  have HW := hide hW14
  have HBB := hide hB14
  clear hg14 hb14 hb14' hv14 hW14 hB14 HD13 HV13 HX12 HY12
  have y0 := HY14.out.cell 0
  have y1 := HY14.out.cell 1
  have y2 := HY14.out.cell 2
  have y3 := HY14.out.cell 3
  have y4 := HY14.out.cell 4
  simp only [List.getElem?_toArray, List.getElem?_cons_succ, List.getElem?_cons_zero] at y0 y1 y2 y3 y4
  rw [← HW.out] at y0 y1 y2 y3 y4
  have hne14 : B3 ≠ w14.heap.size := by have h1 := HLT14.out; omega
  go_wp2_with fail
  rw [HW.out, HBB.out]
  clear HW HBB
  refine (HE.out _ _ _ _ _ _ _ HSM.out HV14.out (HR3.out.below HK14.out)).mono ?_
  rintro e w15 ⟨rfl, hb15⟩
  have HD15 : Hid (Below w12.heap.size w12 w15) := HD14.out.trans (hb15.mono HD14.out.size)
  have HX15 := hide (HX14.out.below hb15)
  have HW15 : Hid (Below w.heap.size w w15) := HW12.out.trans (HD15.out.mono HW12.out.size)
  clear hb15 HD14 HX14 HY14 HV14 HK14
  clear y0 y1 y2 y3 y4
  have z0 := HX15.out.cell 0
  have z1 := HX15.out.cell 1
  have z2 := HX15.out.cell 2
  have z3 := HX15.out.cell 3
  have z4 := HX15.out.cell 4
  simp only [List.getElem?_toArray, List.getElem?_cons_succ, List.getElem?_cons_zero] at z0 z1 z2 z3 z4
  go_wp2_with fail
  change Calls Tryd.prog 23 #[tbagg ⟨x0, x1, x2, x3, x4⟩ (.slice ag2 (x2.length) cg2) (.slice ag3 (x3.length) cg3) (.slice ag4 (x4.length) cg4), .int .i64 ((1 : Nat) : Int)] w15 _
  refine (HH12.out _ HD15.out).mono ?_
  rintro e wz ⟨rfl, hwz⟩
  have HWZ : Hid (Below w.heap.size w wz) := HW15.out.trans (hwz.mono HW15.out.size)
  clear hwz
  go_wp2
  go_ret
  exact ⟨rfl, HWZ.out⟩
end Go.Proofs.YtpnocklldlacjaaDoor
