/-
  The walk of laws.FnExactUnpackHops, out of what impl.UnpackHops and spec.UnpackHops answer.
-/
import Derived.Test.YtonhehndoifipaaJUnpackHopsIB
import Derived.Test.YtonhehndoifipaaJUnpackHopsMKB
import Derived.Test.YtonhehndoifipaaJUnpackHopsHKB
import Derived.Test.YtonhehndoifipaaJUnpackHopsTB
import Derived.Test.YtonhehndoifipaaJUnpackHopsIN2
import Derived.Test.YtonhehndoifipaaJUnpackHopsMKI
import Derived.Test.YtonhehndoifipaaJUnpackHopsHKI
import Derived.Test.YtonhehndoifipaaJUnpackHopsTI
import Derived.BigQuiet
import Derived.Deep.QuietTactic
import Derived.Deep.RegionWith
namespace Go.Proofs.Ytonhehndoifipaa
open Go.RowKit

set_option maxHeartbeats 4000000 in
set_option maxRecDepth 1000000 in
theorem lawUp (f : ByteArray → Int → List Int) (fc : ByteArray → Int → Int) (Q : World → Prop) (hQ : ∀ w w', Q w → Below w.heap.size w w' → Q w') (hf : ∀ s n, s.size ≤ 1048576 → (f s n).length ≤ 100000000)
    (HS0 : ∀ s n u w, s.size ≤ 1048576 → W64 n → Q w → BS w u s → Calls Try.prog 22 #[u, .int .i64 n] w fun e w' => ∃ v, e = .returned (.tuple #[v, .int .i64 (fc s n)]) ∧ IS w' v (f s n) ∧ Below w.heap.size w w')
    (HI0 : ∀ s n u w, s.size ≤ 1048576 → W64 n → Q w → BS w u s → Calls Try.prog 23 #[u, .int .i64 n] w fun e w' => ∃ v bl, e = .returned (.tuple #[v, .int .i64 (fc s n)]) ∧ IF w' v (f s n) bl ∧ Fr w w' bl ∧ Below w.heap.size w w')
    (s : ByteArray) (n : Int) (u : Value) (w : World) (wn : W64 n) (hl : (s.size : Int) ≤ 9223372036854775807) (hq : Q w) (h : BS w u s) :
    Calls Try.prog 6 #[u, .int .i64 n] w fun e w' => e = .returned (.bool true) ∧ Below w.heap.size w w' := by
  have HQ := hide (fun w2 (hb2 : Below w.heap.size w w2) => hQ w w2 hq hb2)
  have HTO := hide (fun w2 (hs : s.size ≤ 1048576) (hb2 : Below w.heap.size w w2) => toB_f (w := w2) hs (h.below hb2))
  have HE := hide (fun p q w2 (hs : s.size ≤ 1048576) (h1 : BS w2 p s) (h2 : BS w2 q s) => eqB_self (w := w2) hs h1 h2)
  have HS := hide (fun u w2 (hs : s.size ≤ 1048576) (hb2 : Below w.heap.size w w2) (h2 : BS w2 u s) => HS0 s n u w2 hs wn (HQ.out w2 hb2) h2)
  have HI := hide (fun u w2 (hs : s.size ≤ 1048576) (hb2 : Below w.heap.size w w2) (h2 : BS w2 u s) => HI0 s n u w2 hs wn (HQ.out w2 hb2) h2)
  have HF := hide (hf s n)
  obtain ⟨r, hr⟩ : ∃ r, f s n = r := ⟨_, rfl⟩
  obtain ⟨cd, hcd⟩ : ∃ c, fc s n = c := ⟨_, rfl⟩
  rw [hr] at HF
  simp only [hr, hcd] at HS HI
  have tcd : (cd != cd) = false := by simp
  obtain ⟨au, cu, hu⟩ := h.slice
  subst hu
  clear h HS0 HI0 hf hr hcd hQ hq
  by_cases hL : 1048576 < (s.size : Int)
  · have tL : decide (1048576 < (s.size : Int)) = true := decide_eq_true hL
    go_enter Try.func6, Try.ntmps6
    go_wp2
    go_ret
    exact ⟨rfl, Below.refl _ _⟩
  have tL : decide (1048576 < (s.size : Int)) = false := decide_eq_false hL
  have hs : s.size ≤ 1048576 := by omega
  have HSM := hide (HF.out hs)
  clear hL HF
  go_enter Try.func6, Try.ntmps6
  go_wp2_with fail
  refine (HTO.out _ hs (Below.refl _ _)).mono ?_
  rintro e w2 ⟨u2, bla, rfl, ho2, _, hb2⟩
  obtain ⟨a2, c2, rfl⟩ := ho2.slice
  have HB2 : Hid (Below w.heap.size w w2) := hb2
  have HO2 := hide ho2.rd
  clear ho2 hb2
  go_wp2_with fail
  refine (HS.out _ _ hs HB2.out HO2.out).mono ?_
  rintro e w3 ⟨v0, rfl, h0, hb3⟩
  obtain ⟨a0, c0, rfl⟩ := h0.slice
  have HR3 := hide h0
  have HB3 : Hid (Below w.heap.size w w3) := HB2.out.trans (hb3.mono HB2.out.size)
  clear h0 hb3 HB2 HO2
  go_wp2_with fail
  refine (HTO.out _ hs HB3.out).mono ?_
  rintro e w4 ⟨u4, blb, rfl, ho4, hr4, hb4⟩
  obtain ⟨a4, c4, rfl⟩ := ho4.slice
  have HB4 : Hid (Below w.heap.size w w4) := HB3.out.trans (hb4.mono HB3.out.size)
  have HK4 : Hid (Below w3.heap.size w3 w4) := hb4
  have HO4 := hide ho4
  obtain ⟨B5, hB5⟩ : ∃ B, w4.heap.size = B := ⟨_, rfl⟩
  have HFX : Hid (blb.Nodup ∧ (∀ g ∈ blb, w3.heap.size ≤ g) ∧ ∀ g ∈ blb, g < B5) := ⟨hr4.nd, hr4.lo, fun g hg => by rw [← hB5]; exact hr4.hi g hg⟩
  have HB35 : Hid (w3.heap.size ≤ B5) := by show _ ≤ _; rw [← hB5]; exact hb4.size
  have HWZ : Hid (w.heap.size ≤ w3.heap.size) := HB3.out.size
  have HBB := hide hB5
  clear ho4 hr4 hb4 hB5
  go_wp2_with fail
  refine (HI.out _ _ hs HB4.out HO4.out.rd).mono ?_
  rintro e w6 ⟨vg, blg, rfl, hg6, hf6, hb6⟩
  obtain ⟨ag, cg, rfl⟩ := hg6.slice
  have HG6 := hide hg6
  have HFG : Hid (blg.Nodup ∧ ∀ g ∈ blg, B5 ≤ g) := ⟨hf6.nd, fun g hg => by have h1 := hf6.lo g hg; have h2 := HBB.out; omega⟩
  have HO6 := hide (HO4.out.below hb6)
  have HB6 : Hid (Below w.heap.size w w6) := HB4.out.trans (hb6.mono HB4.out.size)
  have HK6 : Hid (Below w3.heap.size w3 w6) := HK4.out.trans (hb6.mono HK4.out.size)
  clear hg6 hf6 hb6 HO4 HB4 HK4 HBB
  go_wp2_with fail
  refine (eqI_w (w := w6) HSM.out HG6.out.rd (HR3.out.below HK6.out)).mono ?_
  rintro e w7 ⟨rfl, hb7⟩
  have HG7 := hide (HG6.out.below hb7)
  have HO7 := hide (HO6.out.below hb7)
  have HB7 : Hid (Below w.heap.size w w7) := HB6.out.trans (hb7.mono HB6.out.size)
  have HK7 : Hid (Below w3.heap.size w3 w7) := HK6.out.trans (hb7.mono HK6.out.size)
  clear hb7 HG6 HO6 HB6 HK6
  go_wp2_with fail
  refine (HTO.out _ hs HB7.out).mono ?_
  rintro e w8 ⟨u8, blc, rfl, ho8, _, hb8⟩
  obtain ⟨a8, c8, rfl⟩ := ho8.slice
  have HB8 := hide hb8
  have HO8 := hide ho8.rd
  clear ho8 hb8
  go_wp2_with fail
  refine (HE.out _ _ _ hs (HO7.out.rd.below HB8.out) HO8.out).mono ?_
  rintro e w9 ⟨rfl, hb9⟩
  have HB9 : Hid (Below w7.heap.size w7 w9) := HB8.out.trans (hb9.mono HB8.out.size)
  have HO9 := hide (HO7.out.below HB9.out)
  have HG9 := hide (HG7.out.below HB9.out)
  have HW9 : Hid (Below w.heap.size w w9) := HB7.out.trans (HB9.out.mono HB7.out.size)
  have HK9 : Hid (Below w3.heap.size w3 w9) := HK7.out.trans (HB9.out.mono HK7.out.size)
  clear hb9 HB9 HB8 HO8 HO7 HG7 HB7 HK7
  go_wp2_with fail
  change Calls Try.prog 20 #[.slice a4 (s.size) c4, .int .i64 ((1 : Nat) : Int)] w9 _
  refine (markB_f (w := w9) (k := 1) (by omega) (by omega) HO9.out).mono ?_
  rintro e w10 ⟨rfl, _, hw10⟩
  obtain ⟨kx, hkx⟩ : ∃ kx, 1 + s.size = kx := ⟨_, rfl⟩
  rw [hkx]
  have tx : decide ((kx : Int) < 0) = false := decide_eq_false (by omega)
  have HK10 : Hid (Below w3.heap.size w3 w10) := HK9.out.trans (hw10.below HFX.out.2.1 HK9.out.size)
  have HW10 : Hid (Below w.heap.size w w10) := HW9.out.trans (hw10.below (fun g hg => by have h1 := HFX.out.2.1 g hg; have h2 := HWZ.out; omega) HW9.out.size)
  have HG10 := hide (HG9.out.keep (fun g hg => hw10.blk g (HG9.out.lt g hg) (fun hm => by have h1 := HFX.out.2.2 g hm; have h2 := HFG.out.2 g hg; omega)))
  clear hw10 hkx HO9 HG9 HW9 HK9
  go_wp2_with fail
  refine (eqI_w (w := w10) HSM.out HG10.out.rd (HR3.out.below HK10.out)).mono ?_
  rintro e w11 ⟨rfl, hb11⟩
  have HG11 := hide (HG10.out.below hb11)
  have HW11 : Hid (Below w.heap.size w w11) := HW10.out.trans (hb11.mono HW10.out.size)
  have HK11 : Hid (Below w3.heap.size w3 w11) := HK10.out.trans (hb11.mono HK10.out.size)
  clear hb11 tx HG10 HW10 HK10
  go_wp2_with fail
  change Calls Try.prog 19 #[.slice ag (r.length) cg, .int .i64 ((1 : Nat) : Int)] w11 _
  refine (markI_f (w := w11) (k := 1) (by have := HSM.out; omega) (by omega) HG11.out).mono ?_
  rintro e w12 ⟨rfl, hm12, hw12⟩
  have HM12 := hide hm12
  obtain ⟨km, hkm⟩ : ∃ km, 1 + r.length = km := ⟨_, rfl⟩
  rw [hkm]
  have HKM := hide hkm
  have tm : decide ((km : Int) < 0) = false := decide_eq_false (by omega)
  have te : ((km : Int) != (km : Int)) = false := by simp
  have HK12 : Hid (Below w3.heap.size w3 w12) := HK11.out.trans (hw12.below (fun g hg => by have h1 := HFG.out.2 g hg; have h2 := HB35.out; omega) HK11.out.size)
  have HW12 : Hid (Below w.heap.size w w12) := HW11.out.trans (hw12.below (fun g hg => by have h1 := HFG.out.2 g hg; have h2 := HB35.out; have h3 := HWZ.out; omega) HW11.out.size)
  clear hm12 hw12 hkm HG11 HW11 HK11
  have HH12 : Hid (∀ wz, Below w12.heap.size w12 wz → Calls Try.prog 24 #[.slice ag (r.length) cg, .int .i64 ((1 : Nat) : Int)] wz fun e w' => e = .returned (.int .i64 (km : Nat)) ∧ w' = wz) := fun wz hz => by
    have := heldI_f (w := wz) (k := 1) (by have := HSM.out; omega) (by omega) (HM12.out.below hz)
    rw [HKM.out] at this
    exact this
  go_wp2_with fail
  change Calls Try.prog 24 #[.slice ag (r.length) cg, .int .i64 ((1 : Nat) : Int)] w12 _
  refine (HH12.out _ (Below.refl _ _)).mono ?_
  rintro e wq ⟨rfl, hwq⟩
  subst hwq
  rename World => w12
  go_wp2_with fail
  refine (HTO.out _ hs HW12.out).mono ?_
  rintro e w13 ⟨u13, bld, rfl, ho13, _, hb13⟩
  obtain ⟨a13, c13, rfl⟩ := ho13.slice
  have HW13 : Hid (Below w.heap.size w w13) := HW12.out.trans (hb13.mono HW12.out.size)
  have HV13 := hide ho13.rd
  have HD13 := hide hb13
  clear ho13 hb13
  go_wp2_with fail
  refine (HI.out _ _ hs HW13.out HV13.out).mono ?_
  rintro e w14 ⟨vh, blh, rfl, hg14, _, hb14⟩
  obtain ⟨ah, ch, rfl⟩ := hg14.slice
  have HG14 := hide hg14
  have HD14 : Hid (Below w12.heap.size w12 w14) := HD13.out.trans (hb14.mono HD13.out.size)
  clear hg14 hb14 HD13 HV13
  go_wp2_with fail
  refine (eqI_w (w := w14) HSM.out HG14.out.rd (HR3.out.below (HK12.out.trans (HD14.out.mono HK12.out.size)))).mono ?_
  rintro e w15 ⟨rfl, hb15⟩
  have HD15 : Hid (Below w12.heap.size w12 w15) := HD14.out.trans (hb15.mono HD14.out.size)
  have HW15 : Hid (Below w.heap.size w w15) := HW12.out.trans (HD15.out.mono HW12.out.size)
  clear hb15 HD14 HG14
  go_wp2_with fail
  change Calls Try.prog 24 #[.slice ag (r.length) cg, .int .i64 ((1 : Nat) : Int)] w15 _
  refine (HH12.out _ HD15.out).mono ?_
  rintro e wq ⟨rfl, hwq⟩
  subst hwq
  go_wp2
  go_ret
  exact ⟨rfl, HW15.out⟩
end Go.Proofs.Ytonhehndoifipaa
