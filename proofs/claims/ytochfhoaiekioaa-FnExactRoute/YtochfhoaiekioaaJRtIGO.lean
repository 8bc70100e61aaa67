/-
  The walk of impl.graphOf.
-/
import Derived.Test.YtochfhoaiekioaaJRtGOI
import Derived.BigRegion
namespace Go.Proofs.Ytochfhoaiekioaa
open Go.RowKit

set_option maxRecDepth 1000000 in
set_option maxHeartbeats 4000000 in
theorem graphOf_any (n D c : Nat) (S : List Ed) (a : Option Addr) (hn : n ≤ 1600) (hm : S.length ≤ 6400) (hk : ∀ e ∈ S, 0 ≤ e.f ∧ e.f < n) (ha : 0 < S.length → a = some ⟨D, 0, none⟩) (w : World) (hD : D < w.heap.size) (hE : ∀ j, j < S.length → EdC w D (j * 4) (S.getD j .nul)) :
    Calls Try.prog 26 #[.int .i64 n, .slice a S.length c] w fun e w' => ∃ v1 v2 v3 v4 bl, e = .returned (gragg (grOf n S) v1 v2 v3 v4) ∧ GrF w' (grOf n S) v1 v2 v3 v4 bl ∧ Fr w w' bl ∧ Below w.heap.size w w' := by
  have HSO := hide (fun B1 (w' : World) (h1 : D < w'.heap.size) h2 h3 => sortedStable_any B1 D c S a (by omega) ha w' h1 h2 h3)
  unfold cfV at HSO
  have HK := hide hk
  have HD := hide hD
  have HE := hide hE
  obtain ⟨N, hN⟩ : ∃ N, S.length = N := ⟨_, rfl⟩
  have HN := hide hN
  rw [hN] at hm ⊢
  clear hk hD hE ha hN
  obtain ⟨GB, hGB⟩ : ∃ B, w.heap.size = B := ⟨_, rfl⟩
  obtain ⟨w0, hw0⟩ : ∃ W, w.alloc (.cells #[.int .i64 0, .slice none 0 0, .slice none 0 0, .slice none 0 0, .slice none 0 0] 28) = W := ⟨_, rfl⟩
  have hb0 : Below w.heap.size w w0 := by rw [← hw0]; exact (Below.refl _ _).alloc (Nat.le_refl _) _
  have HG0 : Hid (Blk w0 GB 28 #[.int .i64 0, .slice none 0 0, .slice none 0 0, .slice none 0 0, .slice none 0 0]) := by rw [← hw0, ← hGB]; exact Blk.new _ _ _
  have HGB := hide hGB
  have HW0 := hide hw0
  have HB0 := hide hb0
  have hs0 : w0.heap.size = GB + 1 := by rw [← hw0, World.size_alloc, hGB]
  clear hGB hw0 hb0
  go_enter Try.func26, Try.ntmps26
  go_wp2_with fail
  rw [HW0.out, HGB.out]
  refine (values_any a N c w0).mono ?_
  rintro e w1 ⟨rfl, rfl⟩
  obtain ⟨B1, hB1⟩ : ∃ B, w0.heap.size = B := ⟨_, rfl⟩
  obtain ⟨w1, hw1⟩ : ∃ W, w0.alloc (.cells #[.slice a N c] 47) = W := ⟨_, rfl⟩
  have hb01 : Below w0.heap.size w0 w1 := by rw [← hw1]; exact (Below.refl _ _).alloc (Nat.le_refl _) _
  have hb1 : Below w.heap.size w w1 := HB0.out.trans (hb01.mono HB0.out.size)
  have HG1 := hide (HG0.out.below hb01)
  have HC1 : Hid (w1.cell? ⟨B1, 0, none⟩ = some (.slice a S.length c)) := by
    rw [HN.out, ← hw1, ← hB1]
    exact (Blk.new _ _ _).cell 0
  have HE1 : Hid (∀ j, j < S.length → EdC w1 D (j * 4) (S.getD j .nul)) := fun j hj => (HE.out j hj).of_ne fun j' _ => hb1.cell (p := ⟨D, j * 4 + j', none⟩) HD.out
  have HD1 : Hid (D < w1.heap.size) := by have := HD.out; have := hb1.size; show _ < _; omega
  have HB1 := hide hb1
  rw [hw1, hB1]
  clear hw1 hB1 hb1 hb01
  go_wp2_with fail
  refine (HSO.out B1 w1 HD1.out HC1.out HE1.out).mono ?_
  rintro e w2 ⟨v, C, g, rfl, hC, hg, hr, hb2⟩
  have HG2 := hide (HG1.out.below hb2)
  have HGG : Hid (GB < g) := by have := HG1.out.lt; show _ < _; omega
  have HC := hide hC
  have HR := hide hr
  have HG : Hid (w.heap.size ≤ g) := Nat.le_trans HB1.out.size hg
  have HB2 : Hid (Below w.heap.size w w2) := HB1.out.trans (hb2.mono HB1.out.size)
  obtain ⟨a2, c2, rfl, ha2⟩ := hr.slc
  have hCl : C.length = N := hC.len.trans HN.out
  rw [hCl] at ha2 HR ⊢
  have HCL := hide hCl
  clear hC hr hg hb2 hCl
  obtain ⟨n1, hn1⟩ : ∃ q : Nat, (n : Int) + 1 = (q : Int) := ⟨n + 1, by omega⟩
  have hn1n : n1 = n + 1 := by omega
  have HN1 := hide hn1n
  have hn1b : n1 ≤ 1601 := by omega
  have hmk := run_make_row' (P := Try.prog) 22 3 (.int .i64 0) 8 Try.underlying22 Try.info3 rfl .i64 .i64 n1 (by omega) (by omega) w2
  have HM0 := hide (World.rowIs_made w2 (.int .i64 0) n1 3)
  obtain ⟨W3, hW3⟩ : ∃ W, w2.alloc (.cells (madeCells #[.int .i64 0] n1) 3) = W := ⟨_, rfl⟩
  have hb3 : Below w2.heap.size w2 W3 := by rw [← hW3]; exact (Below.refl _ _).alloc (Nat.le_refl _) _
  obtain ⟨SB, hSB⟩ : ∃ B, w2.heap.size = B := ⟨_, rfl⟩
  have HSB : Hid (w2.heap.size = SB) := hSB
  rw [hW3, hSB] at hmk HM0
  have HG3 := hide (HG2.out.below hb3)
  have HR3 := hide (HR.out.below hb3)
  have HB3 : Hid (Below w.heap.size w W3) := HB2.out.trans (hb3.mono HB2.out.size)
  have HGS : Hid (GB < SB ∧ SB < W3.heap.size) := by
    have h1 := HG2.out.lt
    refine ⟨by omega, ?_⟩
    rw [← hW3, World.size_alloc]
    omega
  have x0 := HG3.out.frozen 0
  have x1 := HG3.out.frozen 1
  have x2 := HG3.out.frozen 2
  have x3 := HG3.out.frozen 3
  have x4 := HG3.out.frozen 4
  have y0 := HG3.out.cell 0
  have y1 := HG3.out.cell 1
  have y2 := HG3.out.cell 2
  have y3 := HG3.out.cell 3
  have y4 := HG3.out.cell 4
  simp only [List.getElem?_toArray, List.getElem?_cons_zero, List.getElem?_cons_succ] at y0 y1 y2 y3 y4
  clear hW3 hb3 hSB hn1n
  obtain ⟨G, hG⟩ : ∃ B, W3.heap.size = B := ⟨_, rfl⟩
  obtain ⟨W4, hW4⟩ : ∃ W, W3.alloc (.cells #[.int .i64 n, .slice (some ⟨SB, 0, none⟩) n1 n1, .slice none 0 0, .slice none 0 0, .slice none 0 0] 28) = W := ⟨_, rfl⟩
  have hb4 : Below W3.heap.size W3 W4 := by rw [← hW4]; exact (Below.refl _ _).alloc (Nat.le_refl _) _
  have HI0 : Hid (GoI w n g G GB SB n1 (.slice a2 N c2) C ((List.range n1).map (cnA [])) [] [] [] (.slice none 0 0) (.slice none 0 0) (.slice none 0 0) (.slice none 0 0) (.slice none 0 0) (.slice none 0 0) W4) := by
    refine ⟨by rw [← hW4, ← hG]; exact Blk.new _ _ _, ⟨made_own ?_ ?_ (by omega), Ow.nil _ _, Ow.nil _ _, Ow.nil _ _, (Apt.nil _).symm, (Apt.nil _).symm, (Apt.nil _).symm, Apt.nil _, Apt.nil _, Apt.nil _⟩, HR3.out.below hb4, HB3.out.trans (hb4.mono HB3.out.size), by have := HB3.out.size; omega, by simp, HG3.out.below hb4, by have := HGS.out; omega⟩
    · obtain ⟨c', h1, h2, h3⟩ := HM0.out
      exact ⟨c', (hb4.block SB HGS.out.2).trans h1, h2, fun j hj => by rw [h3 j hj]; show _ = some (Value.int .i64 (cnA [] j)); rw [cnA_nil]⟩
    · rw [← HSB.out]; exact HB2.out.size
  have HGW := hide hG
  have HW4 := hide hW4
  have HGO : Hid (GB < G ∧ SB < G) := by
    have h1 := HGS.out
    exact ⟨by omega, by omega⟩
  clear hG hW4 hb4
  go_wp2
  rw [HW4.out, HGW.out]
  clear hmk x0 x1 x2 x3 x4 y0 y1 y2 y3 y4
  go_loopw [20] (fun ix wr => ∃ (k : Nat) (v2 v3 v4 : Value), ix = .int .i64 k ∧ k ≤ N ∧ GoI w n g G GB SB n1 (.slice a2 N c2) C ((List.range n1).map (cnA (C.take k))) ((C.take k).map Ed.t) ((C.take k).map Ed.d) ((C.take k).map Ed.c) v2 v3 v4 v2 v3 v4 wr) (fun ix _ => N - (intOf ix).toNat)
  case atStart => exact ⟨0, _, _, _, rfl, Nat.zero_le _, HI0.out⟩
  case round =>
    obtain ⟨k, v2, v3, v4, rfl, hk, hI⟩ := hrel
    rename World => Z
    have HI := hide hI
    by_cases hlt : k < N
    · have hki : (k : Int) < (N : Int) := by omega
      obtain rfl := ha2 (by omega)
      have c1 := hI.ed.each k (by rw [HCL.out]; exact hlt)
      obtain ⟨x, hx⟩ : ∃ x, C.getD k .nul = x := ⟨_, rfl⟩
      rw [hx] at c1
      have HX := hide hx
      have p0 : Z.cell? ⟨g, k * 4, none⟩ = some (.int .i64 x.f) := c1.f
      have p1 : Z.cell? ⟨g, k * 4 + 1, none⟩ = some (.int .i64 x.t) := c1.t
      have p2 : Z.cell? ⟨g, k * 4 + 2, none⟩ = some (.int .i64 x.d) := c1.d
      have p3 : Z.cell? ⟨g, k * 4 + 3, none⟩ = some (.int .i64 x.c) := c1.c
      obtain ⟨i, hi⟩ : ∃ i : Nat, x.f = (i : Int) := by
        have h1 : x ∈ C := by rw [← hx, List.getD_eq_getElem?_getD, List.getElem?_eq_getElem (by rw [HCL.out]; exact hlt)]; exact List.getElem_mem _
        have h2 : x ∈ Go.Proofs.Ytochfhoaiekioaa.flt x.f S := by rw [← HC.out.flt]; exact mem_flt.2 ⟨h1, rfl⟩
        have h3 := HK.out x (mem_flt.1 h2).1
        exact ⟨x.f.toNat, by omega⟩
      have hin : i < n := by
        have h1 : x ∈ C := by rw [← hx, List.getD_eq_getElem?_getD, List.getElem?_eq_getElem (by rw [HCL.out]; exact hlt)]; exact List.getElem_mem _
        have h2 : x ∈ Go.Proofs.Ytochfhoaiekioaa.flt x.f S := by rw [← HC.out.flt]; exact mem_flt.2 ⟨h1, rfl⟩
        have h3 := HK.out x (mem_flt.1 h2).1
        omega
      have HII := hide hi
      rw [hi] at p0
      obtain ⟨i1, hi1⟩ : ∃ q : Nat, (i : Int) + 1 = (q : Int) := ⟨i + 1, by omega⟩
      have HI1 : Hid (i1 = i + 1) := by show _ = _; omega
      have hi1n : (i1 : Int) < (n1 : Int) := by have := HN1.out; omega
      obtain ⟨P, hP⟩ : ∃ P, C.take k = P := ⟨_, rfl⟩
      have HPP := hide hP
      rw [hP] at hI HI
      obtain ⟨q, hq⟩ : ∃ q, cnA P i1 = q := ⟨_, rfl⟩
      have HQ := hide hq
      have hPl : P.length = k := by rw [← hP, List.length_take, Nat.min_eq_left]; rw [HCL.out]; omega
      have hq0 : 0 ≤ q ∧ q ≤ 6400 := by
        rw [← hq, HI1.out]
        show 0 ≤ ((Go.Proofs.Ytochfhoaiekioaa.flt i P).length : Int) ∧ ((Go.Proofs.Ytochfhoaiekioaa.flt i P).length : Int) ≤ 6400
        have := flt_len_le i P
        omega
      obtain ⟨hq0, hq1⟩ := hq0
      have HPL := hide hPl
      obtain ⟨ZA, hZA⟩ : ∃ W, Z.alloc (.cells #[.int .i64 i, .int .i64 x.t, .int .i64 x.d, .int .i64 x.c] 50) = W := ⟨_, rfl⟩
      have HZA := hide hZA
      have hbA : Below Z.heap.size Z ZA := by rw [← hZA]; exact (Below.refl _ _).alloc (Nat.le_refl _) _
      have hIA := hI.below hbA
      have HEB : Hid (Blk ZA Z.heap.size 50 #[.int .i64 i, .int .i64 x.t, .int .i64 x.d, .int .i64 x.c]) := by rw [← hZA]; exact Blk.new _ _ _
      have HIA := hide hIA
      obtain ⟨ZB, hZB⟩ : ∃ W, ZA.setCell ⟨SB, i1, none⟩ (.int .i64 (q + 1)) = W := ⟨_, rfl⟩
      have HZB := hide hZB
      have HIB : Hid (GoI w n g G GB SB n1 (.slice (some ⟨g, 0, none⟩) N c2) C ((List.range n1).map (cnA (P ++ [x]))) (P.map Ed.t) (P.map Ed.d) (P.map Ed.c) v2 v3 v4 v2 v3 v4 ZB) := by
        have h1 := hIA.start (i := i1) (q + 1)
        rw [← hq, HI1.out, cn_set hi, ← HI1.out, hq, hZB] at h1
        exact h1
      have y1 : (Z.alloc (.cells #[.int .i64 i, .int .i64 x.t, .int .i64 x.d, .int .i64 x.c] 50)).cell? ⟨G, 1, none⟩ = some (.slice (some ⟨SB, 0, none⟩) n1 n1) := by rw [hZA]; exact hIA.gr.cell 1
      have s1 : (Z.alloc (.cells #[.int .i64 i, .int .i64 x.t, .int .i64 x.d, .int .i64 x.c] 50)).cell? ⟨SB, i1, none⟩ = some (.int .i64 q) := by
        rw [hZA, (hIA.sc (i := i1) (by omega)).1, rg_at (by omega), hq]
      have s2 : (Z.alloc (.cells #[.int .i64 i, .int .i64 x.t, .int .i64 x.d, .int .i64 x.c] 50)).frozen? ⟨SB, i1, none⟩ = false := by
        rw [hZA]
        exact (hIA.sc (i := i1) (by omega)).2
      obtain ⟨a22, c22, hv2, _⟩ := HIB.out.ro.o2.slc
      obtain ⟨a33, c33, hv3, _⟩ := HIB.out.ro.o3.slc
      obtain ⟨a44, c44, hv4, _⟩ := HIB.out.ro.o4.slc
      rw [List.length_map, hPl] at hv2 hv3 hv4
      subst hv2 hv3 hv4
      have HEB2 : Hid (Blk ZB Z.heap.size 50 #[.int .i64 i, .int .i64 x.t, .int .i64 x.d, .int .i64 x.c]) := by
        have h1 := hIA.ro.o1
        obtain ⟨_, cur, h3⟩ := h1.blk'
        rw [← hZB]
        exact set_typed h3 HEB.out (by decide)
      have y2 : ((Z.alloc (.cells #[.int .i64 i, .int .i64 x.t, .int .i64 x.d, .int .i64 x.c] 50)).setCell ⟨SB, i1, none⟩ (.int .i64 (q + 1))).cell? ⟨G, 2, none⟩ = some (.slice a22 k c22) := by rw [hZA, hZB]; exact HIB.out.gr.cell 2
      have e1 : ((Z.alloc (.cells #[.int .i64 i, .int .i64 x.t, .int .i64 x.d, .int .i64 x.c] 50)).setCell ⟨SB, i1, none⟩ (.int .i64 (q + 1))).cell? ⟨Z.heap.size, 1, none⟩ = some (.int .i64 x.t) := by rw [hZA, hZB]; exact HEB2.out.cell 1
      have HBZ : Hid (w.heap.size ≤ ZB.heap.size) := HIB.out.bl.size
      obtain ⟨ZC, hZC⟩ : ∃ W, ZB.alloc (.cells #[.int .i64 x.t] 3) = W := ⟨_, rfl⟩
      have hbC : Below ZB.heap.size ZB ZC := by rw [← hZC]; exact (Below.refl _ _).alloc (Nat.le_refl _) _
      have HIC := hide (HIB.out.below hbC)
      have HEC := hide (HEB2.out.below hbC)
      have HNC : Hid (ZC.cell? ⟨Z.heap.size + 1, 0, none⟩ = some (.int .i64 x.t)) := by
        have h1 : ZB.heap.size = Z.heap.size + 1 := by rw [← hZB, ← hZA, World.size_setCell, World.size_alloc]
        rw [← hZC, ← h1]
        exact (Blk.new _ _ _).cell 0
      have hBC : w.heap.size ≤ ZC.heap.size := HIC.out.bl.size
      have HBC := hide hBC
      have HZC : Hid (((Z.alloc (.cells #[.int .i64 i, .int .i64 x.t, .int .i64 x.d, .int .i64 x.c] 50)).setCell ⟨SB, i1, none⟩ (.int .i64 (q + 1))).alloc (.cells #[.int .i64 x.t] 3) = ZC) := by show _ = _; rw [hZA, hZB, hZC]
      clear c1 hx hI hi hbA hZA hZB hq hP hPl hIA hZC hbC hBC
      go_wp2_with (at_builtin; rw [HZC.out]; refine wp_app1 rfl (.tmp 34) (.tmp 37) rfl w.heap.size (.slice a22 k c22) (P.map Ed.t) rfl HIC.out.ro.o2 (Z.heap.size + 1) 1 x.t rfl HNC.out (by rw [List.length_map, HPL.out]; omega) HBC.out ?_)
      clear y1 y2 e1 s1 s2
      intro v' X2 ap
      have hJ := HIC.out.app2 ap
      have hE : Blk X2 Z.heap.size 50 #[.int .i64 i, .int .i64 x.t, .int .i64 x.d, .int .i64 x.c] := app_typed HEC.out (by decide) HIC.out.ro.o2 ap.gr
      obtain ⟨b2, d2, hv', _⟩ := hJ.ro.o2.slc
      rw [List.length_append, List.length_map, HPL.out, List.length_singleton] at hv'
      subst hv'
      have f0 := hJ.gr.frozen 2
      have f1 := hJ.gr.cell 2
      simp only [List.getElem?_toArray, List.getElem?_cons_succ, List.getElem?_cons_zero] at f1
      have hJ2 : GoI w n g G GB SB n1 (.slice (some ⟨g, 0, none⟩) N c2) C ((List.range n1).map (cnA (P ++ [x]))) (P.map Ed.t ++ [x.t]) (P.map Ed.d) (P.map Ed.c) (.slice b2 (k + 1) d2) (.slice a33 k c33) (.slice a44 k c44) (.slice b2 (k + 1) d2) (.slice a33 k c33) (.slice a44 k c44) (X2.setCell ⟨G, 2, none⟩ (.slice b2 (k + 1) d2)) := hJ.put 2 _ rfl
      have hE2 : Blk (X2.setCell ⟨G, 2, none⟩ (.slice b2 (k + 1) d2)) Z.heap.size 50 #[.int .i64 i, .int .i64 x.t, .int .i64 x.d, .int .i64 x.c] := set_typed hJ.gr hE (by decide)
      have y2 := hJ2.gr.cell 3
      have e1 := hE2.cell 2
      simp only [List.getElem?_toArray, List.getElem?_cons_succ, List.getElem?_cons_zero] at y2 e1
      obtain ⟨Y2, hY⟩ : ∃ W, (X2.setCell ⟨G, 2, none⟩ (.slice b2 (k + 1) d2)).alloc (.cells #[.int .i64 x.d] 3) = W := ⟨_, rfl⟩
      have hbY : Below (X2.setCell ⟨G, 2, none⟩ (.slice b2 (k + 1) d2)).heap.size (X2.setCell ⟨G, 2, none⟩ (.slice b2 (k + 1) d2)) Y2 := by rw [← hY]; exact (Below.refl _ _).alloc (Nat.le_refl _) _
      have HID2 := hide (hJ2.below hbY)
      have HED2 := hide (hE2.below hbY)
      have HND : Hid (Y2.cell? ⟨X2.heap.size, 0, none⟩ = some (.int .i64 x.d)) := by
        have h1 : (X2.setCell ⟨G, 2, none⟩ (.slice b2 (k + 1) d2)).heap.size = X2.heap.size := World.size_setCell _ _ _
        rw [← hY, ← h1]
        exact (Blk.new _ _ _).cell 0
      have HBD : Hid (w.heap.size ≤ Y2.heap.size) := HID2.out.bl.size
      have HY := hide hY
      clear hJ hE hJ2 hE2 hY hbY ap
      go_wp2_with (at_builtin; rw [HY.out]; refine wp_app1 rfl (.tmp 41) (.tmp 44) rfl w.heap.size (.slice a33 k c33) (P.map Ed.d) rfl HID2.out.ro.o3 X2.heap.size 1 x.d rfl HND.out (by rw [List.length_map, HPL.out]; omega) HBD.out ?_)
      clear f0 f1 y2 e1 HY HND HBD
      intro v' X3 ap
      have hJ := HID2.out.app3 ap
      have hE : Blk X3 Z.heap.size 50 #[.int .i64 i, .int .i64 x.t, .int .i64 x.d, .int .i64 x.c] := app_typed HED2.out (by decide) HID2.out.ro.o3 ap.gr
      obtain ⟨b3, d3, hv', _⟩ := hJ.ro.o3.slc
      rw [List.length_append, List.length_map, HPL.out, List.length_singleton] at hv'
      subst hv'
      have f0 := hJ.gr.frozen 3
      have f1 := hJ.gr.cell 3
      simp only [List.getElem?_toArray, List.getElem?_cons_succ, List.getElem?_cons_zero] at f1
      have hJ2 : GoI w n g G GB SB n1 (.slice (some ⟨g, 0, none⟩) N c2) C ((List.range n1).map (cnA (P ++ [x]))) (P.map Ed.t ++ [x.t]) (P.map Ed.d ++ [x.d]) (P.map Ed.c) (.slice b2 (k + 1) d2) (.slice b3 (k + 1) d3) (.slice a44 k c44) (.slice b2 (k + 1) d2) (.slice b3 (k + 1) d3) (.slice a44 k c44) (X3.setCell ⟨G, 3, none⟩ (.slice b3 (k + 1) d3)) := hJ.put 3 _ rfl
      have hE2 : Blk (X3.setCell ⟨G, 3, none⟩ (.slice b3 (k + 1) d3)) Z.heap.size 50 #[.int .i64 i, .int .i64 x.t, .int .i64 x.d, .int .i64 x.c] := set_typed hJ.gr hE (by decide)
      have y2 := hJ2.gr.cell 4
      have e1 := hE2.cell 3
      simp only [List.getElem?_toArray, List.getElem?_cons_succ, List.getElem?_cons_zero] at y2 e1
      obtain ⟨Y3, hY⟩ : ∃ W, (X3.setCell ⟨G, 3, none⟩ (.slice b3 (k + 1) d3)).alloc (.cells #[.int .i64 x.c] 3) = W := ⟨_, rfl⟩
      have hbY : Below (X3.setCell ⟨G, 3, none⟩ (.slice b3 (k + 1) d3)).heap.size (X3.setCell ⟨G, 3, none⟩ (.slice b3 (k + 1) d3)) Y3 := by rw [← hY]; exact (Below.refl _ _).alloc (Nat.le_refl _) _
      have HID3 := hide (hJ2.below hbY)
      have HED3 := hide (hE2.below hbY)
      have HND : Hid (Y3.cell? ⟨X3.heap.size, 0, none⟩ = some (.int .i64 x.c)) := by
        have h1 : (X3.setCell ⟨G, 3, none⟩ (.slice b3 (k + 1) d3)).heap.size = X3.heap.size := World.size_setCell _ _ _
        rw [← hY, ← h1]
        exact (Blk.new _ _ _).cell 0
      have HBD : Hid (w.heap.size ≤ Y3.heap.size) := HID3.out.bl.size
      have HY := hide hY
      clear hJ hE hJ2 hE2 hY hbY ap
      go_wp2_with (at_builtin; rw [HY.out]; refine wp_app1 rfl (.tmp 48) (.tmp 51) rfl w.heap.size (.slice a44 k c44) (P.map Ed.c) rfl HID3.out.ro.o4 X3.heap.size 1 x.c rfl HND.out (by rw [List.length_map, HPL.out]; omega) HBD.out ?_)
      clear f0 f1 y2 e1 HY HND HBD
      intro v' X4 ap
      have hJ := HID3.out.app4 ap
      have hE : Blk X4 Z.heap.size 50 #[.int .i64 i, .int .i64 x.t, .int .i64 x.d, .int .i64 x.c] := app_typed HED3.out (by decide) HID3.out.ro.o4 ap.gr
      obtain ⟨b4, d4, hv', _⟩ := hJ.ro.o4.slc
      rw [List.length_append, List.length_map, HPL.out, List.length_singleton] at hv'
      subst hv'
      have f0 := hJ.gr.frozen 4
      have f1 := hJ.gr.cell 4
      simp only [List.getElem?_toArray, List.getElem?_cons_succ, List.getElem?_cons_zero] at f1
      have HJ2 : Hid (GoI w n g G GB SB n1 (.slice (some ⟨g, 0, none⟩) N c2) C ((List.range n1).map (cnA (P ++ [x]))) (P.map Ed.t ++ [x.t]) (P.map Ed.d ++ [x.d]) (P.map Ed.c ++ [x.c]) (.slice b2 (k + 1) d2) (.slice b3 (k + 1) d3) (.slice b4 (k + 1) d4) (.slice b2 (k + 1) d2) (.slice b3 (k + 1) d3) (.slice b4 (k + 1) d4) (X4.setCell ⟨G, 4, none⟩ (.slice b4 (k + 1) d4))) := hJ.put 4 _ rfl
      clear hJ hE ap
      go_wp2
      go_roundw
      case rel =>
        have hx' : C.take (k + 1) = P ++ [x] := by
          rw [← HPP.out, ← HX.out, List.take_add_one, List.getD_eq_getElem?_getD, List.getElem?_eq_getElem (by rw [HCL.out]; exact hlt)]
          rfl
        refine ⟨k + 1, .slice b2 (k + 1) d2, .slice b3 (k + 1) d3, .slice b4 (k + 1) d4, by first | rfl | (congr 1; omega), by omega, ?_⟩
        rw [hx', List.map_append, List.map_append, List.map_append]
        exact HJ2.out
      case measure =>
        show _ < _
        simp only [intOf]
        omega
    · have hki : ¬ (k : Int) < (N : Int) := by omega
      obtain rfl : k = N := by omega
      clear hI
      have HII : Hid (GoI w n g G GB SB n1 (.slice a2 k c2) C ((List.range n1).map (smA S 0)) (C.map Ed.t) (C.map Ed.d) (C.map Ed.c) v2 v3 v4 v2 v3 v4 Z) := by
        have h1 := HI.out
        have h2 : (List.range n1).map (cnA C) = (List.range n1).map (smA S 0) := List.map_congr_left fun j _ => by rw [smA_zero, cnA_stb HC.out]
        rw [← HCL.out, List.take_length, h2] at h1
        rw [← HCL.out]
        exact h1
      clear HI
      obtain ⟨p2, q2, hv2, _⟩ := HII.out.ro.o2.slc
      obtain ⟨p3, q3, hv3, _⟩ := HII.out.ro.o3.slc
      obtain ⟨p4, q4, hv4, _⟩ := HII.out.ro.o4.slc
      rw [List.length_map, HCL.out] at hv2 hv3 hv4
      subst hv2 hv3 hv4
      go_wp2
      rename World => Z0
      go_loopw [56] (fun ix wr => ∃ j : Nat, ix = .int .i64 j ∧ j ≤ n ∧ GoI w n g G GB SB n1 (.slice a2 k c2) C ((List.range n1).map (smA S j)) (C.map Ed.t) (C.map Ed.d) (C.map Ed.c) (.slice p2 k q2) (.slice p3 k q3) (.slice p4 k q4) (.slice p2 k q2) (.slice p3 k q3) (.slice p4 k q4) wr) (fun ix _ => n - (intOf ix).toNat)
      case atStart => exact ⟨0, rfl, Nat.zero_le _, HII.out⟩
      case round =>
        clear HII
        obtain ⟨j, rfl, hj, hI⟩ := hrel
        rename World => Z
        have HI := hide hI
        by_cases hlt : j < n
        · have hji : (j : Int) < (n : Int) := by omega
          obtain ⟨j1, hj1⟩ : ∃ q : Nat, (j : Int) + 1 = (q : Int) := ⟨j + 1, by omega⟩
          have HJ1 : Hid (j1 = j + 1) := by show _ = _; omega
          have hj1n : (j1 : Int) < (n1 : Int) := by have := HN1.out; omega
          have hjn : (j : Int) < (n1 : Int) := by have := HN1.out; omega
          have y1 := hI.gr.cell 1
          simp only [List.getElem?_toArray, List.getElem?_cons_succ, List.getElem?_cons_zero] at y1
          obtain ⟨s1, s2⟩ := hI.sc (i := j1) (by omega)
          obtain ⟨s3, _⟩ := hI.sc (i := j) (by omega)
          rw [rg_at (by omega)] at s1 s3
          have hA := smA_nn S j j1
          have hB := smA_nn S j j
          have hAB := smA_sum S j
          rw [← HJ1.out, HN.out] at hAB
          have HST := hide (hI.start (i := j1) (smA S j j1 + smA S j j))
          obtain ⟨A, hAe⟩ : ∃ A, smA S j j1 = A := ⟨_, rfl⟩
          obtain ⟨B, hBe⟩ : ∃ B, smA S j j = B := ⟨_, rfl⟩
          rw [hAe] at s1 hA hAB HST
          rw [hBe] at s3 hB hAB HST
          have HNX : Hid (((List.range n1).map (smA S j)).set j1 (A + B) = (List.range n1).map (smA S (j + 1))) := by
            show _ = _
            rw [HJ1.out, ← hAe, ← hBe, HJ1.out]
            exact sm_set
          have hABb : A + B ≤ 6400 := by omega
          clear hI hAe hBe hAB
          go_wp2_with fail
          go_region
          go_wp2
          go_roundw
          case rel =>
            refine ⟨j + 1, by first | rfl | (congr 1; omega), by omega, ?_⟩
            rw [← HNX.out]
            exact HST.out.below (Below.refl _ _).drew
          case measure =>
            show _ < _
            simp only [intOf]
            omega
        · have hji : ¬ (j : Int) < (n : Int) := by omega
          obtain rfl : j = n := by omega
          have z0 := hI.gr.cell 0
          have z1 := hI.gr.cell 1
          have z2 := hI.gr.cell 2
          have z3 := hI.gr.cell 3
          have z4 := hI.gr.cell 4
          simp only [List.getElem?_toArray, List.getElem?_cons_succ, List.getElem?_cons_zero] at z0 z1 z2 z3 z4
          have x0 := hI.rs.frozen 0
          have x1 := hI.rs.frozen 1
          have x2 := hI.rs.frozen 2
          have x3 := hI.rs.frozen 3
          have x4 := hI.rs.frozen 4
          have y0 := hI.rs.cell 0
          have y1 := hI.rs.cell 1
          have y2 := hI.rs.cell 2
          have y3 := hI.rs.cell 3
          have y4 := hI.rs.cell 4
          simp only [List.getElem?_toArray, List.getElem?_cons_succ, List.getElem?_cons_zero] at y0 y1 y2 y3 y4
          have HFR : Hid (R4 (set5 Z GB (.int .i64 j) (.slice (some ⟨SB, 0, none⟩) n1 n1) (.slice p2 k q2) (.slice p3 k q3) (.slice p4 k q4)) w.heap.size (.slice (some ⟨SB, 0, none⟩) n1 n1) (.slice p2 k q2) (.slice p3 k q3) (.slice p4 k q4) (grOf j S).start (grOf j S).to (grOf j S).dir (grOf j S).cost) := by
            have h1 := hI.ro
            have h2 : C = rowsN S j := Stb.rows HC.out HK.out
            have h3 : (List.range n1).map (smA S j) = (List.range n1).map (stA S) := List.map_congr_left fun i hi => smA_done S (by have := HN1.out; have := List.mem_range.1 hi; omega)
            rw [h3, HN1.out, h2] at h1
            rw [HN1.out]
            exact h1.set5 hI.rs (by decide) _ _ _ _ _
          have HFB : Hid (Below w.heap.size w (set5 Z GB (.int .i64 j) (.slice (some ⟨SB, 0, none⟩) n1 n1) (.slice p2 k q2) (.slice p3 k q3) (.slice p4 k q4))) := below_set5 hI.bl (by rw [HGB.out]; exact Nat.le_refl _) _ _ _ _ _
          have HBK : Hid (Blk (set5 Z GB (.int .i64 j) (.slice (some ⟨SB, 0, none⟩) n1 n1) (.slice p2 k q2) (.slice p3 k q3) (.slice p4 k q4)) GB 28 #[.int .i64 j, .slice (some ⟨SB, 0, none⟩) n1 n1, .slice p2 k q2, .slice p3 k q3, .slice p4 k q4]) := ((((hI.rs.set 0 _).set 1 _).set 2 _).set 3 _).set 4 _
          clear hI
          go_wp2
          refine bodyPost_ret (results_cell_row rfl _ _ GB 28 #[.int .i64 j, .slice (some ⟨SB, 0, none⟩) n1 n1, .slice p2 k q2, .slice p3 k q3, .slice p4 k q4] (0, 0) _ rfl HBK.out Try.underlying28 rfl (by kernel_rfl)) rfl ?_
          obtain ⟨bl, h1, h2⟩ := HFR.out.grf
          first | exact ⟨_, _, _, _, bl, rfl, h1, h2, HFB.out⟩ | exact ⟨_, _, _, _, rfl, bl, h1, h2, HFB.out⟩ | exact ⟨_, _, _, _, rfl, ⟨bl, h1, h2⟩, HFB.out⟩
end Go.Proofs.Ytochfhoaiekioaa
