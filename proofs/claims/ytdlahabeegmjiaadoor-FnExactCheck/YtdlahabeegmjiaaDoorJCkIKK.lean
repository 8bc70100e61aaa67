/-
  The walks of impl's program and Check.
  The walk of laws.FnExactCheck.
  A slice of bytes that came in, as a text.
  Slices of bytes and of numbers that came in, and lists of lists.
-/
import Derived.Test.YtdlahabeegmjiaaDoorJCkIKJ
import Derived.Test.YtdlahabeegmjiaaDoorJCkCKW
import Derived.Test.YtdlahabeegmjiaaDoorJCkT
import Derived.Laws.BytesArg
import Derived.ProofKit
import Derived.OpenShut
import Derived.Test.YtdlahabeegmjiaaDoorJCkIN0
import Derived.Deep.Slices
namespace Go.Proofs.YtdlahabeegmjiaaDoor
open Go.RowKit

/-- A program under way. -/
structure PgI (w1 : World) (tv : Value) (L : List Nd) (B MM C S M e : Nat) (bv : Value) (V : World) (X : List Nat) (R : Ci) (k a : Nat) (s' : Ci) (bv' : Value) (n' : Nat) (wr : World) : Prop where
  run : iAll (iTop L) (X.drop k) s' = R
  pos : Lk L 59 (X.drop k) a e
  chk : CiA w1 wr tv L B MM C S M s' bv' n'
  bud : n' + s'.vars.length ≤ 2 * a + 0
  gw : Gw (CiX C S M bv) V wr
  ckm : CkM V bv bv'

def PgQ (w1 : World) (tv : Value) (L : List Nd) (B MM C S M : Nat) (bv : Value) (V : World) (s : Ci) (r : Ending) (V' : World) : Prop := r = .returned (.tuple #[]) ∧ ∃ bv' n', CiA w1 V' tv L B MM C S M s bv' n' ∧ Gw (CiX C S M bv) V V'
set_option maxHeartbeats 4000000 in
set_option maxRecDepth 1000000 in
theorem i_program {w1 V : World} {tv : Value} {L : List Nd} {B MM C S M : Nat} {bv : Value} (hR : OlR w1 tv L B MM) (hCp0 : NCap w1 tv L) (hA : CiA w1 V tv L B MM C S M ⟨[], 0, 0⟩ bv 0) :
    Calls Tryd.prog 18 #[.pointer (some ⟨C, 0, none⟩)] V (PgQ w1 tv L B MM C S M bv V (iAll (iTop L) (kidsOf L 0) ⟨[], 0, 0⟩)) := by
  obtain ⟨hL0, hL4, hk0, hG⟩ := vT_good hR.vt
  have hlk := Gd.lk (by omega) (vT_whole hR.vt)
  have hmem := hG.mem (by omega)
  have HGD : Hid (∀ (j k : Nat), (kidsOf L 0)[j]? = some k → Gd L 59 k ∧ ((ndA L k).kind = 1 ∨ (3 ≤ (ndA L k).kind ∧ (ndA L k).kind ≤ 15))) := fun j k h => by
    obtain ⟨h3, h4⟩ := hmem j k h
    rw [hk0] at h4
    unfold mSt isStat at h4
    exact ⟨h3, by simpa using h4⟩
  obtain ⟨ka, kc, hk1, hkI, _⟩ := hR.row hL0
  have hX4 : (kidsOf L 0).length ≤ 4000 := Nat.le_trans (kds_le (by omega) hG) hL4
  obtain ⟨X, hX⟩ : ∃ X, kidsOf L 0 = X := ⟨_, rfl⟩
  rw [hX] at HGD hk1 hkI hlk hX4 ⊢
  obtain ⟨R, hRR⟩ : ∃ R, iAll (iTop L) X ⟨[], 0, 0⟩ = R := ⟨_, rfl⟩
  rw [hRR]
  have HST : Hid (PgI w1 tv L B MM C S M L.length bv V X R 0 1 ⟨[], 0, 0⟩ bv 0 V) := ⟨by rw [List.drop_zero]; exact hRR, by rw [List.drop_zero]; exact hlk, hA, by show 0 + 0 ≤ _; omega, Gw.refl _ _, CkM.refl _ _⟩
  obtain ⟨tb, tq, tc, _, _, _, htv, _⟩ := hR.ns.nod hL0
  have HR := hide hR
  have HCP := hide hCp0
  subst htv
  have d1 := hA.blk.cell 1
  simp only [List.getElem?_toArray, List.getElem?_cons_succ, List.getElem?_cons_zero] at d1
  have k1 := cell_kept hk1 hA.bl
  obtain ⟨ka', kb, ko, kc', e1, hka, hkc⟩ := hkI
  rw [List.length_map] at e1 hka hkc
  injection e1 with e1 _ e2
  subst e1 e2
  have HKC := hide hkc
  have HSA := hide (isb_all (C := C) hR 59 (by omega))
  have hlz : (0 : Int) < (L.length : Int) := by omega
  clear hR hCp0 hA hG hk0 hmem hk1 hkc hX hRR hlk
  go_enter Tryd.func18, Tryd.ntmps18
  go_wp2_with fail
  go_loopw [3, 12] (fun _ ix wr => ∃ k : Nat, k ≤ X.length ∧ ix = .int .i64 k ∧ ∃ a s' bv' n', Hid (PgI w1 (.slice (some ⟨tb, tq, none⟩) L.length tc) L B MM C S M L.length bv V X R k a s' bv' n' wr)) (fun _ ix _ => X.length - (intOf ix).toNat)
  case atStart => exact ⟨0, Nat.zero_le _, rfl, _, _, _, _, HST⟩
  case round =>
    obtain ⟨k, hk, rfl, a, s', bv', n', HI⟩ := hrel
    rename World => V2
    by_cases hlt : k < X.length
    · have hlti : (k : Int) < (X.length : Int) := by omega
      have hpos := HI.out.pos
      rw [List.drop_eq_getElem_cons hlt] at hpos
      obtain ⟨hak, q, hq, hpos2⟩ := hpos
      have hak2 : X[k]? = some a := by rw [List.getElem?_eq_getElem hlt, ← hak]
      rw [← hak] at hq
      have haq := (sE_br _ _ _ _ _ hq).lt
      obtain ⟨hg, hkd⟩ := HGD.out k a hak2
      obtain rfl := hka (by omega)
      have x0 := cell_kept (HKC.out k hlt) HI.out.chk.bl
      have e1 : (X.map fun (k : Nat) => (k : Int)).getD k 0 = (a : Int) := by rw [List.getD_eq_getElem?_getD, List.getElem?_map, hak2]; rfl
      rw [e1] at x0
      have hal : a < L.length := (hg.step (by omega)).1
      have hali : (a : Int) < (L.length : Int) := by omega
      have c0 := HI.out.chk.blk.cell 0
      simp only [List.getElem?_toArray, List.getElem?_cons_zero] at c0
      obtain ⟨b', o', c', vt', vn', vy', e2, hNC, _⟩ := HR.out.ns.nod hal
      injection e2 with e2 _ e3
      injection e2 with e2
      injection e2 with e2 e4
      subst e2 e3 e4
      have n0 := (hNC.below HI.out.chk.bl).kind
      have HNX : Hid (∀ V3 bv3 n3, CiA w1 V3 (.slice (some ⟨tb, tq, none⟩) L.length tc) L B MM C S M (iTop L s' a) bv3 n3 → n3 + (iTop L s' a).vars.length ≤ 2 * q + 0 → Gw (CiX C S M bv') V2 V3 → CkM V2 bv' bv3 → PgI w1 (.slice (some ⟨tb, tq, none⟩) L.length tc) L B MM C S M L.length bv V X R (k + 1) q (iTop L s' a) bv3 n3 V3) := fun V3 bv3 n3 hA3 hb3 hG3 hM3 =>
        ⟨by rw [← iAll_step hak2]; exact HI.out.run, hpos2, hA3, hb3, CiX.trans HI.out.gw HI.out.ckm hG3, HI.out.ckm.trans hM3 HI.out.gw.size⟩
      by_cases q1 : (ndA L a).kind = 1
      · have HCL := hide (i_macro HR.out HCP.out (by omega) hg hq q1 HI.out.chk)
        have e7 : iTop L s' a = iM L s' a := by unfold iTop; rw [if_pos q1]
        have hiv : (iM L s' a).vars = s'.vars := rfl
        have HBU : Hid (n' + (iM L s' a).vars.length ≤ 2 * q + 0) := by show _ ≤ _; rw [hiv]; have := HI.out.bud; omega
        rw [e7] at HNX
        rw [q1] at n0
        obtain ⟨y, hy⟩ : ∃ y, iM L s' a = y := ⟨_, rfl⟩
        rw [hy] at HCL HNX HBU
        clear hak hak2 hpos2 hq hg e1 hy e7 q1 hkd hNC hiv
        go_wp2_with fail
        refine HCL.out.mono ?_
        rintro r V3 ⟨rfl, hA3, hG3⟩
        have HR3 := hide (HNX.out V3 bv' n' hA3 HBU.out hG3.cic (CkM.refl _ _))
        clear hA3 hG3 HNX HCL HI
        go_wp2
        go_roundw
        case rel => exact ⟨k + 1, by omega, by go_num, _, _, _, _, HR3⟩
        case measure => simp [intOf]; omega
      · have hk2 := hkd.resolve_left q1
        have HCL := hide (HSA.out.1 61 a q S M s' bv' n' V2 0 (by omega) hg hq hk2.1 hk2.2 HI.out.chk HI.out.bud (by omega))
        have e7 : iTop L s' a = iS L 61 s' a := by unfold iTop; rw [if_neg q1]
        rw [e7] at HNX
        have t1 : ((ndA L a).kind == 1) = false := by rw [beq_eq_false_iff_ne]; exact q1
        obtain ⟨kk, hkk⟩ : ∃ x, (ndA L a).kind = x := ⟨_, rfl⟩
        rw [hkk] at n0 t1
        obtain ⟨y, hy⟩ : ∃ y, iS L 61 s' a = y := ⟨_, rfl⟩
        rw [hy] at HCL HNX
        clear hak hak2 hpos2 hq hg e1 hy e7 q1 hkd hNC hk2 hkk
        go_wp2_with fail
        refine HCL.out.mono ?_
        rintro r V3 ⟨rfl, bv3, n3, hA3, hb3, hG3, hM3⟩
        have HR3 := hide (HNX.out V3 bv3 n3 hA3 hb3 hG3 hM3)
        clear hA3 hb3 hG3 hM3 HNX HCL HI
        go_wp2
        go_roundw
        case rel => exact ⟨k + 1, by omega, by go_num, _, _, _, _, HR3⟩
        case measure => simp [intOf]; omega
    · obtain rfl : k = X.length := by omega
      have hge : ¬ (X.length : Int) < (X.length : Int) := by omega
      have hrun := HI.out.run
      rw [List.drop_length] at hrun
      have hrun : s' = R := hrun
      subst hrun
      go_wp2
      go_end0
      exact ⟨rfl, _, _, HI.out.chk, HI.out.gw⟩

theorem NCap.below {w w' : World} {v : Value} {L : List Nd} (h : NCap w v L) (hN : NS w v L) (hb : Below w.heap.size w w') : NCap w' v L := by
  intro i b o c a l c2 e hi hc
  obtain ⟨b', o', c', vt, vn, vy, e2, hNC, _⟩ := hN.nod hi
  rw [e2] at e
  injection e with e _ e3
  injection e with e
  injection e with e4 e5
  subst e4 e5
  have h1 := cell_kept hNC.names hb
  rw [hc] at h1
  injection h1 with h1
  exact h i b' o' c' a l c2 e2 hi (by rw [h1]; exact hNC.names)

set_option maxHeartbeats 4000000 in
set_option maxRecDepth 1000000 in
theorem implCk_any (v : Value) (L : List Nd) (w : World) (hl : L.length ≤ 1048576) (hz : ∀ j, j < L.length → NB (L.getD j .zero)) (hN : NS w v L) (hCp0 : NCap w v L) (hT : Lib.Utf8Tabs 0 1 w) :
    Calls Tryd.prog 7 #[v] w fun r w' => r = .returned (.tuple #[.int .i64 (if vT L then iF L else (1, 0)).1, .int .i64 (if vT L then iF L else (1, 0)).2]) ∧ Below w.heap.size w w' := by
  have HV := hide (implValid_any v L w hl hz hN hT)
  obtain ⟨a, c, hv⟩ : ∃ a c, v = .slice a L.length c := by obtain ⟨a, _, _, c, h, _⟩ := hN; exact ⟨a, c, h⟩
  cases hvt : vT L with
  | false =>
    rw [hvt] at HV
    subst hv
    clear hN hCp0 hT hz hvt
    go_enter Tryd.func7, Tryd.ntmps7
    go_wp2_with fail
    refine HV.out.mono ?_
    rintro r V ⟨rfl, hb⟩
    have HB := hide hb
    clear hb
    go_wp2
    go_ret2
    exact ⟨rfl, HB.out⟩
  | true =>
    rw [hvt] at HV
    have HNO := hide (fun W (hb : Below w.heap.size w W) => newOutline_any hvt (hN.below hb))
    have HN := hide hN
    have HCP := hide hCp0
    have HVT := hide hvt
    subst hv
    simp only [if_true]
    clear hN hCp0 hT hz hvt
    go_enter Tryd.func7, Tryd.ntmps7
    go_wp2_with fail
    refine HV.out.mono ?_
    rintro r V ⟨rfl, hb⟩
    have HB := hide hb
    clear hb
    have HNO2 := hide (HNO.out V HB.out)
    clear HNO
    go_wp2_with fail
    refine HNO2.out.mono ?_
    rintro r V1 ⟨B, MM, rfl, hO⟩
    have hN1 := HN.out.below (HB.out.trans (hO.bl.mono HB.out.size))
    have hR1 : OlR V1 (.slice a L.length c) L B MM := ⟨hN1, HVT.out, hO.kid, hO.mac⟩
    have hC1 := HCP.out.below HN.out (HB.out.trans (hO.bl.mono HB.out.size))
    have HBV1 := hide (HB.out.trans (hO.bl.mono HB.out.size))
    have HR1 := hide hR1
    have HC1 := hide hC1
    have HNS := hide (newScope_any V1)
    clear hO hN1 hR1 hC1 HNO2
    go_wp2_with fail
    refine HNS.out.mono ?_
    rintro r V2 ⟨rfl, hS2, hb2⟩
    obtain ⟨V3, hV3⟩ : ∃ W, V2.alloc (.cells #[.slice a L.length c, .slice (some ⟨B, 0, none⟩) L.length L.length, .map (some MM), .pointer (some ⟨V1.heap.size + 1, 0, none⟩), .int .i64 0, .int .i64 0] 53) = W := ⟨_, rfl⟩
    have hb3 : Below V2.heap.size V2 V3 := by rw [← hV3]; exact (Below.refl _ _).alloc (Nat.le_refl _) _
    have hB3 : Blk V3 V2.heap.size 53 #[.slice a L.length c, .slice (some ⟨B, 0, none⟩) L.length L.length, .map (some MM), .pointer (some ⟨V1.heap.size + 1, 0, none⟩), .int .i64 0, .int .i64 0] := by rw [← hV3]; exact Blk.new _ _ _
    have hA3 : CiA V1 V3 (.slice a L.length c) L B MM V2.heap.size (V1.heap.size + 1) V1.heap.size ⟨[], 0, 0⟩ (.slice none 0 0) 0 := by
      have h1 := hS2.blk.lt
      refine ⟨hB3, hS2.below hb3, hb2.trans (hb3.mono hb2.size), Nat.le_refl _, hb2.size, fun k hk q => ?_⟩
      rcases hk with rfl | rfl | hk
      · omega
      · omega
      · cases hk
    have HPG := hide (i_program HR1.out HC1.out hA3)
    have HBV3 : Hid (Below w.heap.size w V3) := HBV1.out.trans ((hb2.trans (hb3.mono hb2.size)).mono HBV1.out.size)
    have HLO : Hid (∀ k, CiX V2.heap.size (V1.heap.size + 1) V1.heap.size (.slice none 0 0) k → w.heap.size ≤ k) := fun k hk => by
      have := (hA3.xlt k hk).1
      have := HBV1.out.size
      omega
    have HIF : Hid (iF L = if 0 < (iAll (iTop L) (kidsOf L 0) ⟨[], 0, 0⟩).nf then (5, ((iAll (iTop L) (kidsOf L 0) ⟨[], 0, 0⟩).nf : Int)) else if 0 < (iAll (iTop L) (kidsOf L 0) ⟨[], 0, 0⟩).tf then (6, ((iAll (iTop L) (kidsOf L 0) ⟨[], 0, 0⟩).tf : Int)) else (0, 0)) := rfl
    obtain ⟨R, hRR⟩ : ∃ R, iAll (iTop L) (kidsOf L 0) ⟨[], 0, 0⟩ = R := ⟨_, rfl⟩
    rw [hRR] at HPG HIF
    have HV3 := hide hV3
    clear hS2 hb2 hb3 hB3 hA3 HNS hRR HR1 HC1 hV3
    go_wp2_with fail
    rw [HV3.out]
    refine HPG.out.mono ?_
    rintro r V4 ⟨rfl, bv4, n4, hA4, hG4⟩
    have g4 := hA4.blk.cell 4
    have g5 := hA4.blk.cell 5
    simp only [List.getElem?_toArray, List.getElem?_cons_succ, List.getElem?_cons_zero] at g4 g5
    have HB4 : Hid (Below w.heap.size w V4) := hG4.below HBV3.out HBV3.out.size (fun k hk q => by have := HLO.out k q; omega)
    obtain ⟨nf, hnf⟩ : ∃ x, R.nf = x := ⟨_, rfl⟩
    obtain ⟨tf, htf⟩ : ∃ x, R.tf = x := ⟨_, rfl⟩
    rw [hnf] at g4 HIF
    rw [htf] at g5 HIF
    clear hA4 hG4 HPG hnf htf
    by_cases q1 : 0 < nf
    · rw [if_pos q1] at HIF
      have q1i : (0 : Int) < (nf : Int) := by omega
      go_wp2_with fail
      go_quiet (fail)
      go_wp2
      go_ret2
      exact ⟨by rw [HIF.out]; rfl, below_drewN HB4.out _⟩
    · rw [if_neg q1] at HIF
      obtain rfl : nf = 0 := by omega
      by_cases q2 : 0 < tf
      · rw [if_pos q2] at HIF
        have q2i : (0 : Int) < (tf : Int) := by omega
        go_wp2_with fail
        go_quiet (fail)
        go_wp2
        go_ret2
        exact ⟨by rw [HIF.out]; rfl, below_drewN HB4.out _⟩
      · rw [if_neg q2] at HIF
        obtain rfl : tf = 0 := by omega
        go_wp2
        go_ret2
        exact ⟨by rw [HIF.out]; rfl, HB4.out⟩
end Go.Proofs.YtdlahabeegmjiaaDoor

namespace Go.Proofs.YtdlahabeegmjiaaDoor
open Go.RowKit

theorem specCk_any (v : Value) (L : List Nd) (w : World) (hl : L.length ≤ 1048576) (hz : ∀ j, j < L.length → NB (L.getD j .zero)) (hN : NS w v L) :
    Calls Tryd.prog 5 #[v] w fun r w' => r = .returned (.tuple #[.int .i64 (if vT L then ckF L else (1, 0)).1, .int .i64 (if vT L then ckF L else (1, 0)).2]) ∧ Below w.heap.size w w' :=
  check_gen hN (specValid_any v L w hl hz hN) (fun _ hT => ck_macro hT hN)
/-- Both answers are the same. -/
theorem ck_same (L : List Nd) : (if vT L then iF L else (1, 0)) = (if vT L then ckF L else (1, 0)) := by
  cases h : vT L with
  | false => rfl
  | true => exact iF_ckF h

set_option maxHeartbeats 2000000 in
set_option maxRecDepth 1000000 in
theorem lawCk_any (v : Value) (L : List Nd) (w : World) (hn : (L.length : Int) ≤ 9223372036854775807) (hz : ∀ j, j < L.length → NL (L.getD j .zero)) (h : NS w v L) (hT : Lib.Utf8Tabs 0 1 w) :
    Calls Tryd.prog 3 #[v] w fun e w' => e = .returned (.bool true) ∧ Below w.heap.size w w' := by
  have H0 := hide (szNS_any v L 1048576 w (by omega) (by omega) hn hz h)
  have HNS := hide h
  have HT := hide hT
  obtain ⟨a, c, hv⟩ : ∃ a c, v = .slice a L.length c := by obtain ⟨a, _, _, c, h, _⟩ := h; exact ⟨a, c, h⟩
  by_cases hs : szt L 1048576 < 0
  · have d0 : decide (szt L 1048576 < 0) = true := decide_eq_true hs
    obtain ⟨E, hE⟩ : ∃ E, szt L 1048576 = E := ⟨_, rfl⟩
    rw [hE] at H0 d0
    subst hv
    clear hE hs hz h hT hn
    go_enter Tryd.func3, Tryd.ntmps3
    go_wp2_with fail
    refine H0.out.mono ?_
    rintro e w1 ⟨rfl, hb1⟩
    have HB := hide hb1
    clear hb1
    go_wp2
    go_ret
    exact ⟨rfl, HB.out⟩
  · have d0 : decide (szt L 1048576 < 0) = false := decide_eq_false hs
    obtain ⟨hl, hb⟩ := szt_le L 1048576 (by omega) (by omega) (by omega)
    have HL := hide hl
    have HBD := hide hb
    obtain ⟨E, hE⟩ : ∃ E, szt L 1048576 = E := ⟨_, rfl⟩
    rw [hE] at H0 d0
    have HTO := hide (fun w2 (hb2 : Below w.heap.size w w2) => toNSc_any v L w2 hl hb (h.below hb2))
    subst hv
    have HSV := hide (fun v w2 h2 => specCk_any v L w2 hl hb h2)
    have HIV := hide (fun v w2 h2 h3 h4 => implCk_any v L w2 hl hb h2 h3 h4)
    simp only [ck_same] at HIV
    obtain ⟨⟨r0, r1⟩, hRR⟩ : ∃ R, (if vT L then ckF L else (1, 0)) = R := ⟨_, rfl⟩
    simp only [hRR] at HSV HIV
    clear hE hs hz h hT hn hl hb hRR
    go_enter Tryd.func3, Tryd.ntmps3
    go_wp2_with fail
    refine H0.out.mono ?_
    rintro e w1 ⟨rfl, hb1⟩
    have HB1 := hide hb1
    clear hb1 H0
    go_wp2_with fail
    refine (HTO.out _ HB1.out).mono ?_
    rintro e w2 ⟨v2, rfl, hs2, _, hb2⟩
    have HB2 : Hid (Below w.heap.size w w2) := HB1.out.trans (hb2.mono HB1.out.size)
    have HS2 := hide hs2
    clear hb2 hs2
    obtain ⟨a2, c2, rfl⟩ : ∃ a c, v2 = .slice a L.length c := by obtain ⟨a, _, _, c, h, _⟩ := HS2.out; exact ⟨a, c, h⟩
    go_wp2_with fail
    refine (HSV.out _ _ HS2.out).mono ?_
    rintro e w3 ⟨rfl, hb3⟩
    have HB3 : Hid (Below w.heap.size w w3) := HB2.out.trans (hb3.mono HB2.out.size)
    clear hb3 HS2
    go_wp2_with fail
    refine (HTO.out _ HB3.out).mono ?_
    rintro e w4 ⟨v4, rfl, hs4, hc4, hb4⟩
    have HB4 : Hid (Below w.heap.size w w4) := HB3.out.trans (hb4.mono HB3.out.size)
    have HS4 := hide hs4
    have HC4 := hide hc4
    clear hb4 hs4 hc4
    obtain ⟨a4, c4, rfl⟩ : ∃ a c, v4 = .slice a L.length c := by obtain ⟨a, _, _, c, h, _⟩ := HS4.out; exact ⟨a, c, h⟩
    go_wp2_with fail
    refine (HIV.out _ _ HS4.out HC4.out (Utf8Tabs_below HT.out HB4.out)).mono ?_
    rintro e w5 ⟨rfl, hb5⟩
    have HB5 : Hid (Below w.heap.size w w5) := HB4.out.trans (hb5.mono HB4.out.size)
    have HS5 := hide (HS4.out.below hb5)
    clear hb5 HS4 HC4
    go_wp2_with fail
    refine (HTO.out _ HB5.out).mono ?_
    rintro e w6 ⟨v6, rfl, hs6, _, hb6⟩
    have HB6 : Hid (Below w.heap.size w w6) := HB5.out.trans (hb6.mono HB5.out.size)
    have HS6 := hide hs6
    have HS7 := hide (HS5.out.below hb6)
    clear hb6 hs6 HS5
    obtain ⟨a6, c6, rfl⟩ : ∃ a c, v6 = .slice a L.length c := by obtain ⟨a, _, _, c, h, _⟩ := HS6.out; exact ⟨a, c, h⟩
    go_wp2_with fail
    refine (eqNS_same HL.out HBD.out HS7.out HS6.out).mono ?_
    rintro e w7 ⟨rfl, hb7⟩
    have HB7 : Hid (Below w.heap.size w w7) := HB6.out.trans (hb7.mono HB6.out.size)
    clear hb7
    go_wp2
    go_ret
    exact ⟨rfl, HB7.out⟩
end Go.Proofs.YtdlahabeegmjiaaDoor

namespace Go.Proofs.YtdlahabeegmjiaaDoor
open Go.ChangeShapes Go.WideShapes Go.ChangeAt Go.RowKit

/-- What is told of a slice of bytes that came in. -/
def IsRow (k : IntKind) (w : World) (a : Option Addr) (len cap : Nat) (zs : List Int) : Prop :=
  (a = none ∧ len = 0 ∧ cap = 0 ∧ zs = []) ∨
  ∃ x, a = some x ∧ len ≤ cap ∧ cap ≤ maxLen ∧ zs.length = cap ∧ (∀ i, i < zs.length → w.cell? (x.add i) = some (.int k (zs.getD i 0))) ∧ ∀ n ∈ zs, (Lit.int k n).wf = true

/-- The text that a slice of bytes holds. -/
theorem text_of_row {w : World} {a : Option Addr} {len cap : Nat} {zs : List Int} (h : IsRow .u8 w a len cap zs) :
    ∃ (s : ByteArray) (b off : Nat), s.size = len ∧ (0 < s.size → a = some ⟨b, off, none⟩) ∧ ∀ j, j < s.size → w.cell? ⟨b, off + j, none⟩ = some (bts s j) := by
  rcases h with ⟨rfl, rfl, rfl, rfl⟩ | ⟨x, rfl, hl, _, hz, hcell, hwf⟩
  · exact ⟨ByteArray.empty, 0, 0, rfl, fun h => absurd h (by decide), fun j hj => absurd hj (Nat.not_lt_zero _)⟩
  · have hsz : (strOfNums (zs.take len)).size = len := by rw [strOfNums_size]; simp; omega
    by_cases h0 : len = 0
    · exact ⟨strOfNums (zs.take len), 0, 0, hsz, fun h => by omega, fun j hj => by omega⟩
    · obtain ⟨b, off, rfl, hc⟩ := ints_at hcell (by omega)
      refine ⟨strOfNums (zs.take len), b, off, hsz, fun _ => rfl, fun j hj => ?_⟩
      have hj' : j < zs.length := by omega
      rw [hc j hj']
      have hw := hwf zs[j] (List.getElem_mem hj')
      have h1 : IntKind.u8.min = 0 := rfl
      have h2 : IntKind.u8.max = 255 := rfl
      simp only [Lit.wf, Bool.and_eq_true, decide_eq_true_eq] at hw
      have hb : 0 ≤ zs[j] ∧ zs[j] ≤ 255 := by omega
      have e : (strOfNums (zs.take len)).get! j = UInt8.ofNat zs[j].toNat := by
        have hjt : j < ((zs.take len).map fun n => UInt8.ofNat n.toNat).toArray.size := by simp; omega
        show ((zs.take len).map fun n => UInt8.ofNat n.toNat).toArray[j]! = _
        rw [getElem!_pos _ j hjt]
        simp
      have e2 : (UInt8.ofNat zs[j].toNat).toNat = zs[j].toNat := by rw [UInt8.toNat_ofNat']; omega
      have e3 : zs.getD j 0 = zs[j] := by simp [List.getD, hj']
      unfold bts
      rw [e, e2, e3, Int.toNat_of_nonneg hb.1]

end Go.Proofs.YtdlahabeegmjiaaDoor

namespace Go.Proofs.YtdlahabeegmjiaaDoor
open Go.ChangeShapes Go.WideShapes Go.ChangeAt Go.RowKit Go.Deep

theorem max_fits : (maxLen : Int) ≤ 9223372036854775807 := by unfold maxLen; omega

theorem bs_of {H : Type} {enc : TypeId × Value → H} {P : Program} {w : World} {base : Nat} {held : Bool} {t e : TypeId} (ht : P.underlying t = some (.slice e)) (he : P.underlying e = some (.int .u8)) (hc : P.cellsOf e = 1) {fuel : Nat} {v : Value} {x : DataW H × List MemPlace}
    (h : DataW.trod enc P w base (fun _ => true) held fuel t [v] = some x) : ∃ s : ByteArray, BS w v s ∧ (s.size : Int) ≤ 9223372036854775807 := by
  have mf := max_fits
  rcases open_ints ht he hc h with ⟨hcs, _⟩ | ⟨a, l, c, zs, hcs, _, hl, hm, hz, _, hcell, hwz⟩
  · simp only [List.cons.injEq, and_true] at hcs
    exact ⟨.empty, ⟨none, 0, 0, 0, hcs, fun h => absurd h (by decide), fun j hj => absurd hj (Nat.not_lt_zero _)⟩, by decide⟩
  · simp only [List.cons.injEq, and_true] at hcs
    have hr : IsRow .u8 w (some a) l c zs := .inr ⟨_, rfl, hl, hm, by simpa using hz, hcell, hwz⟩
    obtain ⟨s, b, off, h1, h2, h3⟩ := text_of_row hr
    exact ⟨s, ⟨some a, b, off, c, by rw [hcs, h1], h2, h3⟩, by omega⟩

theorem cap_of {H : Type} {enc : TypeId × Value → H} {P : Program} {w : World} {base : Nat} {held : Bool} {t e : TypeId} (ht : P.underlying t = some (.slice e)) (he : P.underlying e = some (.int .u8)) (hc : P.cellsOf e = 1) {fuel : Nat} {a0 : Option Addr} {l0 c0 : Nat} {x : DataW H × List MemPlace}
    (h : DataW.trod enc P w base (fun _ => true) held fuel t [.slice a0 l0 c0] = some x) : l0 ≤ c0 := by
  rcases open_ints ht he hc h with ⟨hcs, _⟩ | ⟨a, l, c, zs, hcs, _, hl, _⟩
  · simp only [List.cons.injEq, and_true, Value.slice.injEq] at hcs
    omega
  · simp only [List.cons.injEq, and_true, Value.slice.injEq] at hcs
    omega
theorem is_of {H : Type} {enc : TypeId × Value → H} {P : Program} {w : World} {base : Nat} {held : Bool} {t e : TypeId} (ht : P.underlying t = some (.slice e)) (he : P.underlying e = some (.int .i64)) (hc : P.cellsOf e = 1) {fuel : Nat} {v : Value} {x : DataW H × List MemPlace}
    (h : DataW.trod enc P w base (fun _ => true) held fuel t [v] = some x) : ∃ l : List Int, IS w v l ∧ IL l := by
  have mf := max_fits
  rcases open_ints ht he hc h with ⟨hcs, _⟩ | ⟨a, l, c, zs, hcs, _, hl, hm, hz, _, hcell, hwf⟩
  · simp only [List.cons.injEq, and_true] at hcs
    exact ⟨[], ⟨none, 0, 0, 0, hcs, fun h => absurd h (by decide), fun j hj => absurd hj (Nat.not_lt_zero _)⟩, ⟨by simp, fun j hj => absurd hj (Nat.not_lt_zero _)⟩⟩
  · simp only [List.cons.injEq, and_true] at hcs
    have hzl : zs.length = c := by simpa using hz
    have hlen : (zs.take l).length = l := by rw [List.length_take]; omega
    by_cases h0 : l = 0
    · subst h0
      exact ⟨[], ⟨some a, 0, 0, c, hcs, fun h => absurd h (by decide), fun j hj => absurd hj (Nat.not_lt_zero _)⟩, ⟨by simp, fun j hj => absurd hj (Nat.not_lt_zero _)⟩⟩
    · obtain ⟨b, off, rfl, hc⟩ := ints_at hcell (by omega)
      refine ⟨zs.take l, ⟨_, b, off, c, by rw [hcs, hlen], fun _ => rfl, fun j hj => ?_⟩, ⟨by omega, fun j hj => ?_⟩⟩
      rotate_left
      · rw [List.getD_eq_getElem?_getD, List.getElem?_eq_getElem hj, Option.getD_some]
        exact hwf _ (List.mem_of_mem_take (List.getElem_mem hj))
      rw [hc j (by omega)]
      have : (zs.take l).getD j 0 = zs.getD j 0 := by
        simp only [List.getD_eq_getElem?_getD, List.getElem?_take]; rw [if_pos (by omega)]
      rw [this]

theorem range_getD {α : Type} (S : Nat → α) (z : α) (n j : Nat) (h : j < n) : ((List.range n).map S).getD j z = S j := by
  simp [List.getD, h]
end Go.Proofs.YtdlahabeegmjiaaDoor
