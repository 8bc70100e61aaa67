/-
  The walk of impl.Reverse.
-/
import Derived.Test.YtochfhoaiekioaaJRtRVD
import Derived.Test.YtochfhoaiekioaaJRtIGO
import Derived.Test.YtochfhoaiekioaaJRtIED
import Derived.Test.YtochfhoaiekioaaJRtIG
namespace Go.Proofs.Ytochfhoaiekioaa
open Go.RowKit

set_option maxHeartbeats 4000000 in
set_option maxRecDepth 1000000 in
theorem implReverse_any (g : Gr) (v1 v2 v3 v4 : Value) (w : World) (hb : GrB g) (h : GrV w g v1 v2 v3 v4) :
    Calls Try.prog 15 #[gragg g v1 v2 v3 v4] w fun e w' => ∃ p1 p2 p3 p4 bl, e = .returned (.tuple #[gragg (rvF g) p1 p2 p3 p4, .int .i64 (rvC g)]) ∧ GrF w' (rvF g) p1 p2 p3 p4 bl ∧ Fr w w' bl ∧ Below w.heap.size w w' := by
  have HVG := hide (fun w2 (h2 : Below w.heap.size w w2) => implGraph_any g v1 v2 v3 v4 w2 hb (h.below h2))
  have HED := hide (fun w2 (h2 : Below w.heap.size w w2) (hok : GrOk g) => edgesOf_any g v1 v2 v3 v4 w2 hok (h.below h2))
  obtain ⟨a1, c1, rfl⟩ := h.start.slice
  obtain ⟨a2, c2, rfl⟩ := h.to.slice
  obtain ⟨a3, c3, rfl⟩ := h.dir.slice
  obtain ⟨a4, c4, rfl⟩ := h.cost.slice
  obtain ⟨W0, hW0⟩ : ∃ W, w.alloc (.cells #[.int .i64 g.n, .slice a1 g.start.length c1, .slice a2 g.to.length c2, .slice a3 g.dir.length c3, .slice a4 g.cost.length c4] 28) = W := ⟨_, rfl⟩
  have HB0 : Hid (Below w.heap.size w W0) := by rw [← hW0]; exact (Below.refl _ _).alloc (Nat.le_refl _) _
  have HA0 : Hid (Blk W0 w.heap.size 28 #[.int .i64 g.n, .slice a1 g.start.length c1, .slice a2 g.to.length c2, .slice a3 g.dir.length c3, .slice a4 g.cost.length c4]) := by rw [← hW0]; exact Blk.new _ _ _
  have HW := hide hW0
  clear hW0
  unfold gragg at HVG HED ⊢
  clear hb h
  go_enter Try.func15, Try.ntmps15
  obtain ⟨R, hR⟩ : ∃ R, W0.heap.size = R := ⟨_, rfl⟩
  have hR1 : w.heap.size + 1 = R := by rw [← hR, ← HW.out, World.size_alloc]
  have HR1 := hide hR1
  obtain ⟨W1, hW1⟩ : ∃ W, W0.alloc (.cells #[.int .i64 0, .slice none 0 0, .slice none 0 0, .slice none 0 0, .slice none 0 0] 28) = W := ⟨_, rfl⟩
  have hb1 : Below W0.heap.size W0 W1 := by rw [← hW1]; exact (Below.refl _ _).alloc (Nat.le_refl _) _
  have HB1 : Hid (Below w.heap.size w W1) := HB0.out.trans (hb1.mono HB0.out.size)
  have HA1 := hide (HA0.out.below hb1)
  have HZ1 : Hid (Blk W1 R 28 #[.int .i64 0, .slice none 0 0, .slice none 0 0, .slice none 0 0, .slice none 0 0]) := by rw [← hW1, ← hR]; exact Blk.new _ _ _
  have HW1 := hide hW1
  clear hR hW1 hb1 hR1 HA0
  go_wp2_with fail
  rw [HW.out, HW1.out, HR1.out]
  refine (HVG.out _ HB1.out).mono ?_
  rintro e w2 ⟨⟨r1, rfl, hr1⟩, hb2⟩
  have HA2 := hide (HA1.out.below hb2)
  have HZ2 := hide (HZ1.out.below hb2)
  have HB2 : Hid (Below w.heap.size w w2) := HB1.out.trans (hb2.mono HB1.out.size)
  have HR2 := hide hr1
  clear hb2 hr1 HA1 HB1 HZ1 HW HW1 HB0 HVG
  cases r1 with
  | false =>
    have HNO : Hid (¬ GrOk g) := fun h => by have := HR2.out.2 h; cases this
    have x0 := HZ2.out.frozen 0
    have x1 := HZ2.out.frozen 1
    have x2 := HZ2.out.frozen 2
    have x3 := HZ2.out.frozen 3
    have x4 := HZ2.out.frozen 4
    have y0 := HZ2.out.cell 0
    have y1 := HZ2.out.cell 1
    have y2 := HZ2.out.cell 2
    have y3 := HZ2.out.cell 3
    have y4 := HZ2.out.cell 4
    simp only [List.getElem?_toArray, List.getElem?_cons_succ, List.getElem?_cons_zero] at y0 y1 y2 y3 y4
    have HBK : Hid (Blk (set5 w2 R (.int .i64 0) (.slice none 0 0) (.slice none 0 0) (.slice none 0 0) (.slice none 0 0)) R 28 #[.int .i64 0, .slice none 0 0, .slice none 0 0, .slice none 0 0, .slice none 0 0]) := ((((HZ2.out.set 0 _).set 1 _).set 2 _).set 3 _).set 4 _
    have HFB : Hid (Below w.heap.size w (set5 w2 R (.int .i64 0) (.slice none 0 0) (.slice none 0 0) (.slice none 0 0) (.slice none 0 0))) := below_set5 HB2.out (by have := HR1.out; omega) _ _ _ _ _
    go_wp2
    refine bodyPost_ret (results_gr_tmp rfl _ _ _ R 28 #[.int .i64 0, .slice none 0 0, .slice none 0 0, .slice none 0 0, .slice none 0 0] (0, 0) rfl HBK.out Try.underlying28 (by kernel_rfl)) rfl ?_
    rw [rvF_no HNO.out, rvC_no HNO.out]
    have hg : ∃ bl, GrF (set5 w2 R (.int .i64 0) (.slice none 0 0) (.slice none 0 0) (.slice none 0 0) (.slice none 0 0)) ⟨0, [], [], [], []⟩ (.slice none 0 0) (.slice none 0 0) (.slice none 0 0) (.slice none 0 0) bl ∧ Fr w (set5 w2 R (.int .i64 0) (.slice none 0 0) (.slice none 0 0) (.slice none 0 0) (.slice none 0 0)) bl := ⟨[], ⟨[], [], [], [], rfl, if_nil _ _, if_nil _ _, if_nil _ _, if_nil _ _⟩, Fr.nil _ _⟩
    obtain ⟨bl, h1, h2⟩ := hg
    first | exact ⟨_, _, _, _, bl, rfl, h1, h2, HFB.out⟩ | exact ⟨_, _, _, _, rfl, bl, h1, h2, HFB.out⟩ | exact ⟨_, _, _, _, rfl, ⟨bl, h1, h2⟩, HFB.out⟩
  | true =>
    have HOK := hide (HR2.out.1 rfl)
    clear HR2
    have z0 := HA2.out.cell 0
    have z1 := HA2.out.cell 1
    have z2 := HA2.out.cell 2
    have z3 := HA2.out.cell 3
    have z4 := HA2.out.cell 4
    simp only [List.getElem?_toArray, List.getElem?_cons_succ, List.getElem?_cons_zero] at z0 z1 z2 z3 z4
    go_wp2_with fail
    refine (HED.out _ HB2.out HOK.out).mono ?_
    rintro e w3 ⟨v, rfl, ho, hb3⟩
    obtain ⟨D, hD, her⟩ := ed_of_own ho
    have HER := hide her
    have HDD := hide hD
    obtain ⟨a5, c5, rfl⟩ := own_slc ho
    have HB3 : Hid (Below w.heap.size w w3) := HB2.out.trans (hb3.mono HB2.out.size)
    have HA3 := hide (HA2.out.below hb3)
    have HZ3 := hide (HZ2.out.below hb3)
    have HDR : Hid (R < D) := by have h1 := HZ2.out.lt; show _ < _; omega
    clear ho her hD hb3 z0 z1 z2 z3 z4 HA2 HZ2 HB2
    obtain ⟨N, hN⟩ : ∃ N, (eds g).length = N := ⟨_, rfl⟩
    have HN := hide hN
    rw [hN] at HER ⊢
    clear hN
    have hm : N ≤ 6400 := by rw [← HN.out, eds_length]; exact HOK.out.m
    go_wp2
    rename World => V3
    go_loopw [15] (fun ix wr => ∃ k : Nat, ix = .int .i64 k ∧ k ≤ N ∧ EdR wr D (.slice a5 N c5) (trn (eds g) k) ∧ Blk wr w.heap.size 28 #[.int .i64 g.n, .slice a1 g.start.length c1, .slice a2 g.to.length c2, .slice a3 g.dir.length c3, .slice a4 g.cost.length c4] ∧ Blk wr R 28 #[.int .i64 0, .slice none 0 0, .slice none 0 0, .slice none 0 0, .slice none 0 0] ∧ Below w.heap.size w wr) (fun ix _ => N - (intOf ix).toNat)
    case atStart => exact ⟨0, rfl, Nat.zero_le _, by rw [trn_zero]; exact HER.out, HA3.out, HZ3.out, HB3.out⟩
    case round =>
      clear HER HA3 HZ3 HB3
      obtain ⟨k, rfl, hk, her, hA, hZ, hB⟩ := hrel
      rename World => Z
      by_cases hlt : k < N
      · have hki : (k : Int) < (N : Int) := by omega
        obtain rfl := her.addr (by rw [trn_length, HN.out]; omega)
        have hkl : k < (trn (eds g) k).length := by rw [trn_length, HN.out]; exact hlt
        have hke : k < (eds g).length := by rw [HN.out]; exact hlt
        have hce := her.each k hkl
        rw [trn_at hke] at hce
        have HNX := her.turn hkl
        rw [trn_at hke, trn_set hke] at HNX
        obtain ⟨x, hx⟩ : ∃ x, (eds g).getD k .nul = x := ⟨_, rfl⟩
        rw [hx] at hce
        have p0 : Z.cell? ⟨D, k * 4, none⟩ = some (.int .i64 x.f) := hce.f
        have p1 : Z.cell? ⟨D, k * 4 + 1, none⟩ = some (.int .i64 x.t) := hce.t
        have p2 : Z.cell? ⟨D, k * 4 + 2, none⟩ = some (.int .i64 x.d) := hce.d
        have p3 : Z.cell? ⟨D, k * 4 + 3, none⟩ = some (.int .i64 x.c) := hce.c
        obtain ⟨cur, hcur, _⟩ := her.blk (by omega)
        have d0 := hcur.frozen (k * 4)
        have d1 := hcur.frozen (k * 4 + 1)
        rw [hx] at HNX
        have hDl : D < Z.heap.size := hcur.lt
        have hDn : D ≠ Z.heap.size := by omega
        have d2 := (hcur.below ((Below.refl _ Z).alloc (Nat.le_refl _) (.cells #[.int .i64 x.f, .int .i64 x.t, .int .i64 x.d, .int .i64 x.c] 50))).frozen (k * 4)
        have d3 := (hcur.below ((Below.refl _ Z).alloc (Nat.le_refl _) (.cells #[.int .i64 x.f, .int .i64 x.t, .int .i64 x.d, .int .i64 x.c] 50))).frozen (k * 4 + 1)
        have HFN : Hid (EdR (((Z.setCell ⟨D, k * 4, none⟩ (.int .i64 x.t)).setCell ⟨D, k * 4 + 1, none⟩ (.int .i64 x.f)).alloc (.cells #[.int .i64 x.f, .int .i64 x.t, .int .i64 x.d, .int .i64 x.c] 50)).drew D (.slice (some ⟨D, 0, none⟩) N c5) (trn (eds g) (k + 1)) ∧ Blk (((Z.setCell ⟨D, k * 4, none⟩ (.int .i64 x.t)).setCell ⟨D, k * 4 + 1, none⟩ (.int .i64 x.f)).alloc (.cells #[.int .i64 x.f, .int .i64 x.t, .int .i64 x.d, .int .i64 x.c] 50)).drew w.heap.size 28 #[.int .i64 g.n, .slice a1 g.start.length c1, .slice a2 g.to.length c2, .slice a3 g.dir.length c3, .slice a4 g.cost.length c4] ∧ Blk (((Z.setCell ⟨D, k * 4, none⟩ (.int .i64 x.t)).setCell ⟨D, k * 4 + 1, none⟩ (.int .i64 x.f)).alloc (.cells #[.int .i64 x.f, .int .i64 x.t, .int .i64 x.d, .int .i64 x.c] 50)).drew R 28 #[.int .i64 0, .slice none 0 0, .slice none 0 0, .slice none 0 0, .slice none 0 0] ∧ Below w.heap.size w (((Z.setCell ⟨D, k * 4, none⟩ (.int .i64 x.t)).setCell ⟨D, k * 4 + 1, none⟩ (.int .i64 x.f)).alloc (.cells #[.int .i64 x.f, .int .i64 x.t, .int .i64 x.d, .int .i64 x.c] 50)).drew) := by
          have hR := HR1.out
          have hDR := HDR.out
          have hbA : ∀ Q : World, Below Q.heap.size Q (Q.alloc (.cells #[.int .i64 x.f, .int .i64 x.t, .int .i64 x.d, .int .i64 x.c] 50)).drew := fun Q => ((Below.refl _ _).alloc (Nat.le_refl _) _).drew
          refine ⟨HNX.below (hbA _), ((hA.other _ _ (by omega)).other _ _ (by omega)).below (hbA _), ((hZ.other _ _ (by omega)).other _ _ (by omega)).below (hbA _), ?_⟩
          have hb : Below w.heap.size w ((Z.setCell ⟨D, k * 4, none⟩ (.int .i64 x.t)).setCell ⟨D, k * 4 + 1, none⟩ (.int .i64 x.f)) := Below.setCell (Below.setCell hB (by show w.heap.size ≤ D; omega) _) (by show w.heap.size ≤ D; omega) _
          exact hb.trans ((hbA _).mono hb.size)
        clear hce hcur her hA hZ hB HNX hkl hke hx
        go_wp2_with fail
        go_region
        go_wp2
        go_roundw
        case rel =>
          refine ⟨k + 1, by first | rfl | (congr 1; omega), by omega, ?_⟩
          exact HFN.out
        case measure =>
          show _ < _
          simp only [intOf]
          omega
      · have hki : ¬ (k : Int) < (N : Int) := by omega
        obtain rfl : k = N := by omega
        have HER : Hid (EdR Z D (.slice a5 k c5) (rvS g)) := by
          show EdR _ _ _ _
          unfold rvS
          rw [← trn_done, HN.out]
          exact her
        have HA := hide hA
        have HZ := hide hZ
        have HB := hide hB
        clear her hA hZ hB
        have z0 := HA.out.cell 0
        simp only [List.getElem?_toArray, List.getElem?_cons_zero] at z0
        go_wp2_with fail
        have hgn : g.n = (g.n.toNat : Int) := by have := HOK.out.n0; omega
        obtain ⟨n, hnn⟩ : ∃ n, g.n.toNat = n := ⟨_, rfl⟩
        rw [hnn] at hgn
        have hn16 : n ≤ 1600 := by have := HOK.out.n1; omega
        have HNN := hide hnn
        rw [hgn]
        clear hgn hnn z0
        obtain ⟨D', hD', ha', hE'⟩ := HER.out.give (by have := HZ.out.lt; omega)
        have hrl : (rvS g).length = k := by rw [rvS_length, ← eds_length]; exact HN.out
        have HGO := hide (graphOf_any n D' c5 (rvS g) a5 hn16 (by rw [hrl]; exact hm) (by rw [← HNN.out]; exact rvS_in HOK.out) ha' Z hD' hE')
        rw [hrl] at HGO
        clear hrl ha' hE' hD'
        refine HGO.out.mono ?_
        rintro e w4 ⟨p1, p2, p3, p4, bl, rfl, hf, hfr, hb4⟩
        have hv := hf.rd
        obtain ⟨b1, d1, rfl⟩ := hv.start.slice
        obtain ⟨b2, d2, rfl⟩ := hv.to.slice
        obtain ⟨b3, d3, rfl⟩ := hv.dir.slice
        obtain ⟨b4, d4, rfl⟩ := hv.cost.slice
        have HZ4 := hide (HZ.out.below hb4)
        have HRB : Hid (∀ q ∈ bl, q ≠ R) := fun q hq => by have h1 := hfr.lo q hq; have h2 := HZ.out.lt; omega
        have HF4 := hide (hf.set5 HRB.out (.int .i64 n) (.slice b1 (grOf n (rvS g)).start.length d1) (.slice b2 (grOf n (rvS g)).to.length d2) (.slice b3 (grOf n (rvS g)).dir.length d3) (.slice b4 (grOf n (rvS g)).cost.length d4))
        have HFB : Hid (Below w.heap.size w (set5 w4 R (.int .i64 n) (.slice b1 (grOf n (rvS g)).start.length d1) (.slice b2 (grOf n (rvS g)).to.length d2) (.slice b3 (grOf n (rvS g)).dir.length d3) (.slice b4 (grOf n (rvS g)).cost.length d4))) := below_set5 (HB.out.trans (hb4.mono HB.out.size)) (by have := HR1.out; omega) _ _ _ _ _
        have HFR : Hid (Fr w (set5 w4 R (.int .i64 n) (.slice b1 (grOf n (rvS g)).start.length d1) (.slice b2 (grOf n (rvS g)).to.length d2) (.slice b3 (grOf n (rvS g)).dir.length d3) (.slice b4 (grOf n (rvS g)).cost.length d4)) bl) := ⟨hfr.nd, fun q hq => by have h1 := hfr.lo q hq; have h2 := HB.out.size; omega, fun q hq => HF4.out.lt q hq⟩
        have HBK : Hid (Blk (set5 w4 R (.int .i64 n) (.slice b1 (grOf n (rvS g)).start.length d1) (.slice b2 (grOf n (rvS g)).to.length d2) (.slice b3 (grOf n (rvS g)).dir.length d3) (.slice b4 (grOf n (rvS g)).cost.length d4)) R 28 #[.int .i64 n, .slice b1 (grOf n (rvS g)).start.length d1, .slice b2 (grOf n (rvS g)).to.length d2, .slice b3 (grOf n (rvS g)).dir.length d3, .slice b4 (grOf n (rvS g)).cost.length d4]) := ((((HZ4.out.set 0 _).set 1 _).set 2 _).set 3 _).set 4 _
        have x0 := HZ4.out.frozen 0
        have x1 := HZ4.out.frozen 1
        have x2 := HZ4.out.frozen 2
        have x3 := HZ4.out.frozen 3
        have x4 := HZ4.out.frozen 4
        have y0 := HZ4.out.cell 0
        have y1 := HZ4.out.cell 1
        have y2 := HZ4.out.cell 2
        have y3 := HZ4.out.cell 3
        have y4 := HZ4.out.cell 4
        simp only [List.getElem?_toArray, List.getElem?_cons_succ, List.getElem?_cons_zero] at y0 y1 y2 y3 y4
        have HEQ : Hid (rvF g = grOf n (rvS g)) := by show _ = _; rw [rvF_yes HOK.out, HNN.out]
        unfold gragg
        have hgo : (grOf n (rvS g)).n = (n : Int) := rfl
        rw [hgo]
        obtain ⟨r, hr⟩ : ∃ r, grOf n (rvS g) = r := ⟨_, rfl⟩
        rw [hr] at HEQ HF4 HFB HFR HBK ⊢
        have HRR := hide hr
        clear hf hfr hb4 hv hgo hr HGO
        go_wp2
        refine bodyPost_ret (results_gr_tmp rfl _ _ _ R 28 _ (0, 0) rfl HBK.out Try.underlying28 (by kernel_rfl)) rfl ?_
        rw [HEQ.out, rvC_yes HOK.out]
        have hrn : r.n = (n : Int) := by rw [← HRR.out]; rfl
        first | exact ⟨_, _, _, _, bl, by rw [hrn]; rfl, HF4.out, HFR.out, HFB.out⟩ | exact ⟨_, _, _, _, by rw [hrn]; rfl, bl, HF4.out, HFR.out, HFB.out⟩ | exact ⟨_, _, _, _, by rw [hrn]; rfl, ⟨bl, HF4.out, HFR.out⟩, HFB.out⟩
end Go.Proofs.Ytochfhoaiekioaa
