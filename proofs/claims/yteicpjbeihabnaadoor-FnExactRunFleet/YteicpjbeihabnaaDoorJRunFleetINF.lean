/-
  The walks of isCount, isTaken, newFleet.
-/
import Derived.Test.YteicpjbeihabnaaDoorJRunFleetINX
import Derived.Test.YteicpjbeihabnaaDoorJRunFleetFLT
import Derived.Test.YteicpjbeihabnaaDoorJRunFleetKRS
import Derived.BigQuiet
import Derived.BigRegion
import Derived.Deep.QuietTactic
import Derived.Deep.RegionWith
namespace Go.Proofs.YteicpjbeihabnaaDoor
open Go.RowKit

/-- A number that may stand. -/
def cntB (v : Int) : Bool := decide (0 ≤ v) && decide (v ≤ 1000000)
theorem cntB_iff (v : Int) : cntB v = true ↔ 0 ≤ v ∧ v ≤ 1000000 := by unfold cntB; rw [Bool.and_eq_true, decide_eq_true_iff, decide_eq_true_iff]
set_option maxRecDepth 1000000 in
theorem isCount_any (v : Int) (w : World) : Calls Tryd.prog 77 #[.int .i64 v] w fun e w' => e = .returned (.bool (cntB v)) ∧ w' = w := by
  unfold cntB
  obtain ⟨b0, t0⟩ : ∃ b, decide (0 ≤ v) = b := ⟨_, rfl⟩
  obtain ⟨b1, t1⟩ : ∃ b, decide (v ≤ 1000000) = b := ⟨_, rfl⟩
  rw [t0, t1]
  cases b0 <;> cases b1
  all_goals
    go_enter Tryd.func77, Tryd.ntmps77
    go_wp2
    go_ret
    exact ⟨rfl, rfl⟩

set_option maxHeartbeats 1000000 in
set_option maxRecDepth 1000000 in
theorem isTaken_any {W : World} {F R M : Nat} {d : Tb} {v2 v3 v4 rv : Value} {L : List Ro} {S : Int → Bool} {m : Nat} (h : FlAt W F R M d v2 v3 v4 rv L S m) (c : Int) (hc : W64 c) :
    Calls Tryd.prog 78 #[.pointer (some ⟨F, 0, none⟩), .int .i64 c] W fun e w' => e = .returned (.bool (S c)) ∧ w' = W := by
  obtain ⟨z, hz⟩ := h.map.look hc
  have z6 := h.blk.cell 6
  simp only [List.getElem?_toArray, List.getElem?_cons_succ, List.getElem?_cons_zero] at z6
  obtain ⟨x, hx⟩ : ∃ x, S c = x := ⟨_, rfl⟩
  rw [hx] at hz ⊢
  clear h hx hc
  go_enter Tryd.func78, Tryd.ntmps78
  go_wp2
  go_ret
  exact ⟨rfl, rfl⟩

/-- A new fleet whose map is empty, and the tables beside it. -/
structure FlNew (w : World) (d : Tb) (v2 v3 v4 rv : Value) (L : List Ro) (F M : Nat) (W : World) : Prop where
  fl : ∃ R, FlAt W F R M d v2 v3 v4 rv L (fun _ => false) 0 ∧ w.heap.size < R
  fb : w.heap.size < F
  mb : w.heap.size < M
  tb : Blk W w.heap.size 31 #[.int .i64 d.w, .int .i64 d.h, v2, v3, v4]
  bl : Below w.heap.size w W
/-- What newFleet answers. -/
def NfAns (d : Tb) (v2 v3 v4 : Value) (L : List Ro) (w w' : World) (e : Ending) : Prop :=
  (¬ VfOk d L ∧ e = .returned (.tuple #[.pointer none, .bool false])) ∨
  (VfOk d L ∧ ∃ F R M rv, e = .returned (.tuple #[.pointer (some ⟨F, 0, none⟩), .bool true]) ∧ FlAt w' F R M d v2 v3 v4 rv L (tkn L) (nds L) ∧ w.heap.size ≤ F ∧ w.heap.size ≤ R ∧ w.heap.size ≤ M)

set_option maxHeartbeats 4000000 in
set_option maxRecDepth 1000000 in
theorem newFleet_any (d : Tb) (v2 v3 v4 : Value) (L : List Ro) (u : Value) (w : World) (hb : TbB d) (hL : L.length ≤ 1048576) (hd : TbL d) (hRo : RoL L) (hmv : MvOk w) (hT : Lib.Utf8Tabs 2 3 w) (h : TbV w d v2 v3 v4) (hu : RoS w u L) :
    Calls Tryd.prog 57 #[tbagg d v2 v3 v4, u] w fun e w' => NfAns d v2 v3 v4 L w w' e ∧ Below w.heap.size w w' := by
  have HVT := hide (fun V (hV : Below w.heap.size w V) => implTables_any d v2 v3 v4 V hb hd (hmv.below hV) (Utf8Tabs_below hT hV) (h.below hV))
  have HAS := hide (fun V tg ce (hok : TbOk d) => hasTrip_any d v2 v3 v4 tg ce V hb.targets.len hok.w0 hok.w1 hok.h0 hok.h1 h.targets.slice)
  have HCL := hide (fun V (hV : Below w.heap.size w V) => cloneRo_any u L V hL (hu.below hV))
  obtain ⟨au, cu, rfl⟩ := hu.slice
  have HRo := hide hRo
  obtain ⟨a2, c2, rfl⟩ := h.targets.slice
  obtain ⟨a3, c3, rfl⟩ := h.dist.slice
  obtain ⟨a4, c4, rfl⟩ := h.hop.slice
  have hmm := @run_makeMap Tryd.prog
  clear h hb hu hRo hd hmv hT
  unfold tbagg at HVT HAS ⊢
  obtain ⟨X, Y, T, Ds, Hs⟩ := d
  simp only at HVT HAS ⊢
  obtain ⟨W0, hW0⟩ : ∃ W, w.alloc (.cells #[.int .i64 X, .int .i64 Y, .slice a2 T.length c2, .slice a3 Ds.length c3, .slice a4 Hs.length c4] 31) = W := ⟨_, rfl⟩
  have hB0 : Below w.heap.size w W0 := by rw [← hW0]; exact (Below.refl _ _).alloc (Nat.le_refl _) _
  have hA0 : Blk W0 w.heap.size 31 #[.int .i64 X, .int .i64 Y, .slice a2 T.length c2, .slice a3 Ds.length c3, .slice a4 Hs.length c4] := by rw [← hW0]; exact Blk.new _ _ _
  have z0 := hA0.cell 0
  have z1 := hA0.cell 1
  have z2 := hA0.cell 2
  have z3 := hA0.cell 3
  have z4 := hA0.cell 4
  simp only [List.getElem?_toArray, List.getElem?_cons_succ, List.getElem?_cons_zero] at z0 z1 z2 z3 z4
  have HB := hide hB0
  have HTC := hide (HVT.out W0 hB0)
  have hW := hW0
  clear hW0 hB0 HVT
  have HA0 := hide hA0
  clear hA0
  go_enter Tryd.func57, Tryd.ntmps57
  go_wp2_with fail
  refine HTC.out.mono ?_
  rintro e w1 ⟨⟨tb, rfl, hti⟩, hb1⟩
  have HTI := hide hti
  have HB1 : Hid (Below w.heap.size w w1) := HB.out.trans (hb1.mono HB.out.size)
  have y0 := cell_kept z0 hb1
  have y1 := cell_kept z1 hb1
  have y2 := cell_kept z2 hb1
  have y3 := cell_kept z3 hb1
  have y4 := cell_kept z4 hb1
  have HA1 := hide (HA0.out.below hb1)
  clear hti hb1 z0 z1 z2 z3 z4 hW HTC HA0
  cases tb with
  | false =>
    have HR : Hid (¬ VfOk ⟨X, Y, T, Ds, Hs⟩ L) := fun h => by have := HTI.out.2 h.tb; cases this
    go_wp2
    go_ret2
    exact ⟨.inl ⟨HR.out, rfl⟩, HB1.out⟩
  | true =>
  have HOK := hide (HTI.out.1 rfl)
  by_cases q0 : 30 < (L.length : Int)
  · have t0 : decide (30 < (L.length : Int)) = true := decide_eq_true q0
    have HR : Hid (¬ VfOk ⟨X, Y, T, Ds, Hs⟩ L) := fun h => by have := h.len; omega
    clear q0
    go_wp2
    go_ret2
    exact ⟨.inl ⟨HR.out, rfl⟩, HB1.out⟩
  have t0 : decide (30 < (L.length : Int)) = false := decide_eq_false q0
  have hL30 : L.length ≤ 30 := by omega
  clear q0
  go_wp2_with fail
  have HCK : Hid (∀ V, Below w1.heap.size w1 V → Calls Tryd.prog 76 #[.slice au L.length cu] V fun e w' => ∃ a c, e = .returned (.slice a L.length c) ∧ w'.ownsRow V.heap.size 76 5 (.slice a L.length c) L.length (rocs L) ∧ Below V.heap.size V w') := fun V hV => (HCL.out V (HB1.out.trans (hV.mono HB1.out.size))).mono (by
    rintro e w' ⟨u, rfl, hown, hbk⟩
    obtain ⟨a, c, rfl⟩ : ∃ a c, u = .slice a L.length c := by
      rcases hown.2 with ⟨h1, h0⟩ | ⟨g, c, cur, hv, _⟩
      · exact ⟨none, 0, by rw [h1, h0]⟩
      · exact ⟨_, c, hv⟩
    exact ⟨a, c, rfl, hown, hbk⟩)
  apply key_rest
  · intro HKEY
    have hVA : Below w1.heap.size w1 (w1.alloc (.map #[] 0)) := (Below.refl _ _).alloc (Nat.le_refl _) _
    have ya0 := cell_kept y0 hVA
    have ya1 := cell_kept y1 hVA
    have ya2 := cell_kept y2 hVA
    have ya3 := cell_kept y3 hVA
    have ya4 := cell_kept y4 hVA
    clear hVA
    go_region_with (go_at_call 76; refine (HCK.out _ (by repeat first | exact Below.refl _ _ | refine Below.drew ?_ | refine Below.alloc ?_ (by simp) _)).mono ?_; rintro e w2 ⟨ar, cr, rfl, hown, hbk⟩; have HV2 : Hid (Below w1.heap.size w1 w2) := (Below.trans (by repeat first | exact Below.refl _ _ | refine Below.drew ?_ | refine Below.alloc ?_ (by simp) _) (hbk.mono (by simp))); have x0 := cell_kept y0 HV2.out; have x1 := cell_kept y1 HV2.out; have x2 := cell_kept y2 HV2.out; have x3 := cell_kept y3 HV2.out; have x4 := cell_kept y4 HV2.out; have HVA : Below w1.heap.size w1 (w2.alloc (.map #[] 0)) := HV2.out.alloc HV2.out.size _; have xa0 := cell_kept y0 HVA; have xa1 := cell_kept y1 HVA; have xa2 := cell_kept y2 HVA; have xa3 := cell_kept y3 HVA; have xa4 := cell_kept y4 HVA; have HOW := hide hown; have HBK := hide hbk; clear hown hbk HVA)
    all_goals
      have hs1 : w.heap.size < w1.heap.size := HA1.out.lt
      have hs2 : w1.heap.size ≤ w2.heap.size := HV2.out.size
      have hT2 := HA1.out.below HV2.out
      have hB2 : Below w.heap.size w w2 := HB1.out.trans (HV2.out.mono HB1.out.size)
      clear x0 x1 x2 x3 x4 xa0 xa1 xa2 xa3 xa4 ya0 ya1 ya2 ya3 ya4
      first
        | (obtain ⟨W3, hW3⟩ : ∃ W, (w2.alloc (Obj.map #[] 0)).alloc (Obj.cells #[.int .i64 X, .int .i64 Y, .slice a2 T.length c2, .slice a3 Ds.length c3, .slice a4 Hs.length c4, .slice ar L.length cr, .map (some w2.heap.size)] 89) = W := ⟨_, rfl⟩
           rw [hW3]
           have hPK : FlNew w ⟨X, Y, T, Ds, Hs⟩ (.slice a2 T.length c2) (.slice a3 Ds.length c3) (.slice a4 Hs.length c4) (.slice ar L.length cr) L (w2.heap.size + 1) w2.heap.size W3 := by
             obtain ⟨R, r1, r2, r3⟩ := own_rob_at HOW.out (w2.heap.size + 5) (by simp; omega)
             have hsd : w1.heap.size ≤ R := by simpa using r2
             have e2 : Below w2.heap.size w2 W3 := by rw [← hW3]; exact ((Below.refl _ _).alloc (Nat.le_refl _) _).alloc (by simp) _
             have e3 : Blk W3 (w2.heap.size + 1) 89 #[.int .i64 X, .int .i64 Y, .slice a2 T.length c2, .slice a3 Ds.length c3, .slice a4 Hs.length c4, .slice ar L.length cr, .map (some w2.heap.size)] := by
               rw [← hW3]
               have e : (w2.alloc (Obj.map #[] 0)).heap.size = w2.heap.size + 1 := by simp
               rw [← e]
               exact Blk.new _ _ _
             have e4 : MpS W3 w2.heap.size (fun _ => false) 0 := (MpS.made w2).keep (by rw [← hW3]; exact ((Below.refl (w2.alloc (Obj.map #[] 0)).heap.size _).alloc (Nat.le_refl _) _).block _ (by simp))
             exact ⟨⟨R, ⟨e3, r1.below e2, e4, by omega, by omega, by omega⟩, by omega⟩, by omega, by omega, hT2.below e2, hB2.trans (e2.mono hB2.size)⟩
           generalize w2.heap.size + 1 = F at hPK ⊢
           generalize w2.heap.size = M at hPK ⊢
           clear hW3 HBK HOW HV2 hs1 hs2 hT2 hB2
           revert hPK
           generalize ar = ar'
           generalize cr = cr'
           revert ar' cr' F M W3
           exact HKEY.out)
        | (obtain ⟨W3, hW3⟩ : ∃ W, w2.alloc (Obj.cells #[.int .i64 X, .int .i64 Y, .slice a2 T.length c2, .slice a3 Ds.length c3, .slice a4 Hs.length c4, .slice ar L.length cr, .map (some w1.heap.size)] 89) = W := ⟨_, rfl⟩
           rw [hW3]
           have hPK : FlNew w ⟨X, Y, T, Ds, Hs⟩ (.slice a2 T.length c2) (.slice a3 Ds.length c3) (.slice a4 Hs.length c4) (.slice ar L.length cr) L w2.heap.size w1.heap.size W3 := by
             have hsb : w1.heap.size + 1 ≤ w2.heap.size := by have := HBK.out.size; simpa using this
             obtain ⟨R, r1, r2, r3⟩ := own_rob_at HOW.out (w2.heap.size + 5) (by simp; omega)
             have hsd : w1.heap.size + 1 ≤ R := by simpa using r2
             have e2 : Below w2.heap.size w2 W3 := by rw [← hW3]; exact (Below.refl _ _).alloc (Nat.le_refl _) _
             have e3 : Blk W3 w2.heap.size 89 #[.int .i64 X, .int .i64 Y, .slice a2 T.length c2, .slice a3 Ds.length c3, .slice a4 Hs.length c4, .slice ar L.length cr, .map (some w1.heap.size)] := by
               rw [← hW3]
               exact Blk.new _ _ _
             have e4 : MpS w2 w1.heap.size (fun _ => false) 0 := (MpS.made w1).keep (HBK.out.block _ (by simp))
             have e5 : MpS W3 w1.heap.size (fun _ => false) 0 := e4.keep (e2.block _ (by omega))
             exact ⟨⟨R, ⟨e3, r1.below e2, e5, by omega, by omega, by omega⟩, by omega⟩, by omega, by omega, hT2.below e2, hB2.trans (e2.mono hB2.size)⟩
           generalize w2.heap.size = F at hPK ⊢
           generalize w1.heap.size = M at hPK ⊢
           clear hW3 HBK HOW HV2 hs1 hs2 hT2 hB2
           revert hPK
           generalize ar = ar'
           generalize cr = cr'
           revert ar' cr' F M W3
           exact HKEY.out)
  intro W3 F M ar cr hPK
  obtain ⟨⟨R, hfl, hRb⟩, hFb, hMb, htb, hbl⟩ := hPK
  have z5 := hfl.blk.cell 5
  simp only [List.getElem?_toArray, List.getElem?_cons_succ, List.getElem?_cons_zero] at z5
  have HFL := hide hfl
  have HTB := hide htb
  have HB3 := hide hbl
  clear hfl htb hbl y0 y1 y2 y3 y4 HCL HCK HB HB1 HA1 HTI hmm
  have hsl : 0 < L.length → ar = some ⟨R, 0, none⟩ := by
    obtain ⟨a, c, h1, h2⟩ := HFL.out.row.slc
    injection h1 with h1 _ _
    intro h0
    rw [h1]
    exact h2 h0
  go_wp2
  go_loopw [28] (fun ix wr => ∃ i : Nat, i ≤ L.length ∧ ix = .int .i64 i ∧ (∀ j, j < i → RoOk ⟨X, Y, T, Ds, Hs⟩ (L.getD j .zero)) ∧ (∀ j k, k < j → j < i → (L.getD j .zero).done = false → (L.getD k .zero).done = false → (L.getD k .zero).cell ≠ (L.getD j .zero).cell) ∧ FlAt wr F R M ⟨X, Y, T, Ds, Hs⟩ (.slice a2 T.length c2) (.slice a3 Ds.length c3) (.slice a4 Hs.length c4) (.slice ar L.length cr) L (tkn (L.take i)) (nds (L.take i)) ∧ Blk wr w.heap.size 31 #[.int .i64 X, .int .i64 Y, .slice a2 T.length c2, .slice a3 Ds.length c3, .slice a4 Hs.length c4] ∧ Below w.heap.size w wr) (fun ix _ => L.length - (intOf ix).toNat)
  case atStart => exact ⟨0, Nat.zero_le _, rfl, fun _ h => absurd h (Nat.not_lt_zero _), fun _ _ _ h => absurd h (Nat.not_lt_zero _), HFL.out.ext (fun _ => rfl) rfl, HTB.out, HB3.out⟩
  case round =>
    obtain ⟨i, hi, rfl, hec, hdf, hfi, htbi, hbl⟩ := hrel
    rename World => V
    have HEC := hide hec
    have HDF := hide hdf
    have HFI := hide hfi
    have HTI := hide htbi
    have HBE := hide hbl
    clear hec hdf hfi htbi
    by_cases hlt : i < L.length
    · have hlti : (i : Int) < (L.length : Int) := by omega
      obtain rfl := hsl (by omega)
      have hro := HFI.out.row.each i hlt
      have hwc := HRo.out.cell i hlt
      obtain ⟨d, hd⟩ : ∃ d, L.getD i .zero = d := ⟨_, rfl⟩
      rw [hd] at hro hwc
      have HD := hide hd
      obtain ⟨e0, e1, e2, e3, e4⟩ := hro
      obtain ⟨p0, p1, p2, p3, p4⟩ := d
      simp only at e0 e1 e2 e3 e4 hwc
      have HWC := hide hwc
      obtain ⟨W1, hW1⟩ : ∃ W, V.alloc (.cells #[.int .i64 p0, .int .i64 p1, .int .i64 p2, .int .i64 p3, .bool p4] 76) = W := ⟨_, rfl⟩
      have hb1 : Below V.heap.size V W1 := by rw [← hW1]; exact (Below.refl _ _).alloc (Nat.le_refl _) _
      have hBk : Blk W1 V.heap.size 76 #[.int .i64 p0, .int .i64 p1, .int .i64 p2, .int .i64 p3, .bool p4] := by rw [← hW1]; exact Blk.new _ _ _
      have z0 := hBk.cell 0
      have z1 := hBk.cell 1
      have hTW := HTI.out.below hb1
      have x0 := hTW.cell 0
      have x1 := hTW.cell 1
      have x2 := hTW.cell 2
      have x3 := hTW.cell 3
      have x4 := hTW.cell 4
      simp only [List.getElem?_toArray, List.getElem?_cons_succ, List.getElem?_cons_zero] at z0 z1 x0 x1 x2 x3 x4
      have HFW := hide (HFI.out.below hb1)
      have HTW := hide hTW
      have HBX : Hid (Below w.heap.size w W1) := HBE.out.trans (hb1.mono HBE.out.size)
      have HBK := hide hBk
      have HA1 := hide (HAS.out W1 p1 p0 HOK.out)
      have hW := hW1
      have HNO : Hid (¬ RoOk ⟨X, Y, T, Ds, Hs⟩ ⟨p0, p1, p2, p3, p4⟩ → ¬ VfOk ⟨X, Y, T, Ds, Hs⟩ L) := fun h h2 => h (by have := h2.each i hlt; rw [HD.out] at this; exact this)
      clear hd hbl hb1 hBk hW1 hTW hwc z5
      go_wp2_with fail
      refine HA1.out.mono ?_
      rintro e w2 ⟨⟨ab, rfl, hai⟩, hb2⟩
      have HAI := hide hai
      have HE2 : Hid (Below w.heap.size w w2) := HBX.out.trans (hb2.mono HBX.out.size)
      have HF2 := hide (HFW.out.below hb2)
      have HT2 := hide (HTW.out.below hb2)
      have hbk2 := HBK.out.below hb2
      obtain ⟨B, hB⟩ : ∃ B, V.heap.size = B := ⟨_, rfl⟩
      rw [hB] at hbk2 ⊢
      have n0 := hbk2.cell 0
      have n2 := hbk2.cell 2
      have n3 := hbk2.cell 3
      have n4 := hbk2.cell 4
      simp only [List.getElem?_toArray, List.getElem?_cons_succ, List.getElem?_cons_zero] at n0 n2 n3 n4
      clear hai hb2 hbk2 HA1 x0 x1 x2 x3 x4 z0 z1 e0 e1 e2 e3 e4 hW hB HBK HFI HTI HFW HTW
      cases ab with
      | false =>
        have HR := hide (HNO.out (fun h => by have := HAI.out.2 h.ask; cases this))
        go_wp2
        go_ret2
        exact ⟨.inl ⟨HR.out, rfl⟩, HE2.out⟩
      | true =>
      have HASK := hide (HAI.out.1 rfl)
      obtain ⟨m1, hm1⟩ : ∃ b, cntB p2 = b := ⟨_, rfl⟩
      have HCM := hide (isCount_any p2 w2)
      rw [hm1] at HCM
      cases m1 with
      | false =>
        have HR := hide (HNO.out (fun h => by have := (cntB_iff p2).2 ⟨h.m0, h.m1⟩; rw [hm1] at this; cases this))
        go_wp2_with fail
        refine HCM.out.mono ?_
        rintro e w3 ⟨rfl, hw3⟩
        subst hw3
        go_wp2
        go_ret2
        exact ⟨.inl ⟨HR.out, rfl⟩, HE2.out⟩
      | true =>
      obtain ⟨m2, hm2⟩ : ∃ b, cntB p3 = b := ⟨_, rfl⟩
      have HCW := hide (isCount_any p3 w2)
      rw [hm2] at HCW
      cases m2 with
      | false =>
        have HR := hide (HNO.out (fun h => by have := (cntB_iff p3).2 ⟨h.w0, h.w1⟩; rw [hm2] at this; cases this))
        go_wp2_with fail
        refine HCM.out.mono ?_
        rintro e w3 ⟨rfl, hw3⟩
        subst hw3
        go_wp2_with fail
        refine HCW.out.mono ?_
        rintro e w3 ⟨rfl, hw3⟩
        subst hw3
        go_wp2
        go_ret2
        exact ⟨.inl ⟨HR.out, rfl⟩, HE2.out⟩
      | true =>
      have HRO : Hid (RoOk ⟨X, Y, T, Ds, Hs⟩ ⟨p0, p1, p2, p3, p4⟩) := ⟨HASK.out, ((cntB_iff p2).1 hm1).1, ((cntB_iff p2).1 hm1).2, ((cntB_iff p3).1 hm2).1, ((cntB_iff p3).1 hm2).2⟩
      have HEC1 : Hid (∀ j, j < i + 1 → RoOk ⟨X, Y, T, Ds, Hs⟩ (L.getD j .zero)) := fun j hj => by
        by_cases e : j = i
        · rw [e, HD.out]; exact HRO.out
        · exact HEC.out j (by omega)
      have HTK : Hid (∀ c, tkn (L.take (i + 1)) c = (tkn (L.take i) c || (!p4 && decide (p0 = c)))) := fun c => by rw [take_tkn hlt, HD.out]
      have HND : Hid (nds (L.take (i + 1)) = nds (L.take i) + (if p4 = false then 1 else 0)) := by show _ = _; rw [take_nds hlt, HD.out]
      clear hm1 hm2
      have w2i : World := w2
      go_wp2_with fail
      refine HCM.out.mono ?_
      rintro e w3 ⟨rfl, hw3⟩
      subst hw3
      go_wp2_with fail
      refine HCW.out.mono ?_
      rintro e w3 ⟨rfl, hw3⟩
      subst hw3
      rename World => w2
      clear HCM HCW
      cases p4 with
      | true =>
        have HFN := hide (HF2.out.ext (S' := tkn (L.take (i + 1))) (m' := nds (L.take (i + 1))) (fun c => by rw [HTK.out]; simp) (by rw [HND.out]; simp))
        have HDF1 : Hid (∀ j k, k < j → j < i + 1 → (L.getD j .zero).done = false → (L.getD k .zero).done = false → (L.getD k .zero).cell ≠ (L.getD j .zero).cell) := fun j k' hkj hj h1 h2 => by
          by_cases e : j = i
          · rw [e, HD.out] at h1; cases h1
          · exact HDF.out j k' hkj (by omega) h1 h2
        go_wp2
        go_roundw
        case rel => exact ⟨i + 1, by omega, by go_num, HEC1.out, HDF1.out, HFN.out, HT2.out, HE2.out⟩
        case measure => simp [intOf]; omega
      | false =>
      have HTKN := hide (isTaken_any HF2.out p0 HWC.out)
      obtain ⟨tk, htk⟩ : ∃ b, tkn (L.take i) p0 = b := ⟨_, rfl⟩
      rw [htk] at HTKN
      cases tk with
      | true =>
        have HR : Hid (¬ VfOk ⟨X, Y, T, Ds, Hs⟩ L) := fun h => by
          obtain ⟨j, hj, h1, h2⟩ := (tkn_iff _ _).1 htk
          have hji : j < i := by rw [List.length_take] at hj; omega
          have hg : (L.take i).getD j .zero = L.getD j .zero := by
            rw [List.getD_eq_getElem?_getD, List.getD_eq_getElem?_getD, List.getElem?_take, if_pos hji]
          rw [hg] at h1 h2
          exact h.diff i j hji hlt (by rw [HD.out]) h1 (by rw [HD.out]; exact h2)
        clear htk
        go_wp2_with fail
        refine HTKN.out.mono ?_
        rintro e w3 ⟨rfl, hw3⟩
        subst hw3
        go_wp2
        go_ret2
        exact ⟨.inl ⟨HR.out, rfl⟩, HE2.out⟩
      | false =>
        have hnl : nds (L.take i) < 1000 := by have h1 := nds_le (L.take i); rw [List.length_take] at h1; omega
        have hwi : W64 (i : Int) := by simp [W64, Lit.wf, IntKind.min, IntKind.max, IntKind.signed, IntKind.bits]; omega
        have hFd := HF2.out.below ((Below.refl _ _).drew)
        have hTd := HT2.out.below ((Below.refl _ _).drew)
        have hEd : Below w.heap.size w w2.drew := HE2.out.drew
        obtain ⟨W5, hp5, hm5, hg5, hz5⟩ := hFd.map.put HWC.out hwi hnl htk
        have HFN : Hid (FlAt W5 F R M ⟨X, Y, T, Ds, Hs⟩ (.slice a2 T.length c2) (.slice a3 Ds.length c3) (.slice a4 Hs.length c4) (.slice (some ⟨R, 0, none⟩) L.length cr) L (tkn (L.take (i + 1))) (nds (L.take (i + 1)))) :=
          (hFd.turned hg5 hm5).ext (fun c => by rw [HTK.out]; simp [eq_comm]) (by rw [HND.out]; simp)
        have HT5 : Hid (Blk W5 w.heap.size 31 #[.int .i64 X, .int .i64 Y, .slice a2 T.length c2, .slice a3 Ds.length c3, .slice a4 Hs.length c4]) := (hg5.block _ hTd.lt (by intro e; injection e with e; omega)).trans hTd
        have HE5 : Hid (Below w.heap.size w W5) := hEd.grown hg5 hEd.size (fun k e => by injection e with e; omega)
        have HDF1 : Hid (∀ j k, k < j → j < i + 1 → (L.getD j .zero).done = false → (L.getD k .zero).done = false → (L.getD k .zero).cell ≠ (L.getD j .zero).cell) := fun j k' hkj hj h1 h2 => by
          by_cases e : j = i
          · rw [e, HD.out]
            intro h3
            have : tkn (L.take i) p0 = true := (tkn_iff _ _).2 ⟨k', by rw [List.length_take]; omega, by
              rw [List.getD_eq_getElem?_getD, List.getElem?_take, if_pos (by omega), ← List.getD_eq_getElem?_getD]; exact h2, by
              rw [List.getD_eq_getElem?_getD, List.getElem?_take, if_pos (by omega), ← List.getD_eq_getElem?_getD]; exact h3⟩
            rw [htk] at this
            cases this
          · exact HDF.out j k' hkj (by omega) h1 h2
        have n6 := HF2.out.blk.cell 6
        simp only [List.getElem?_toArray, List.getElem?_cons_succ, List.getElem?_cons_zero] at n6
        clear htk hm5 hg5 hz5 hnl hwi hFd hTd hEd
        go_wp2_with fail
        refine HTKN.out.mono ?_
        rintro e w3 ⟨rfl, hw3⟩
        subst hw3
        go_wp2_with fail
        go_region
        go_wp2
        go_roundw
        case rel => exact ⟨i + 1, by omega, by go_num, HEC1.out, HDF1.out, HFN.out, HT5.out, HE5.out⟩
        case measure => simp [intOf]; omega
    · have hge : ¬ (i : Int) < (L.length : Int) := by omega
      have HVF : Hid (VfOk ⟨X, Y, T, Ds, Hs⟩ L) := ⟨HOK.out, hL30, fun j hj => HEC.out j (by omega), fun j k hk hj => HDF.out j k hk (by omega)⟩
      have HFN : Hid (FlAt V F R M ⟨X, Y, T, Ds, Hs⟩ (.slice a2 T.length c2) (.slice a3 Ds.length c3) (.slice a4 Hs.length c4) (.slice ar L.length cr) L (tkn L) (nds L)) := by
        have := HFI.out
        rw [List.take_of_length_le (by omega)] at this
        exact this
      clear hbl
      go_wp2
      go_ret2
      exact ⟨.inr ⟨HVF.out, F, R, M, _, rfl, HFN.out, by omega, by omega, by omega⟩, HBE.out⟩
end Go.Proofs.YteicpjbeihabnaaDoor
