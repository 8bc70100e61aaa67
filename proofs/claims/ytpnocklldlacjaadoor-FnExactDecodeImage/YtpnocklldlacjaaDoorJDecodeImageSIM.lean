/-
  The walk of l7image.
-/
import Derived.Test.YtpnocklldlacjaaDoorJDecodeImageRDI
import Derived.Test.YtpnocklldlacjaaDoorJDecodeImageSPH
import Derived.Test.YtpnocklldlacjaaDoorJDecodeImageSTC
import Derived.Test.YtpnocklldlacjaaDoorJDecodeImageSTC
namespace Go.Proofs.YtpnocklldlacjaaDoor
open Go.RowKit

set_option maxHeartbeats 4000000 in
set_option maxRecDepth 1000000 in
theorem l7image_any (d : Tb) (v2 v3 v4 : Value) (w : World) (hok : TbOk d) (h : TbV w d v2 v3 v4) :
    Calls Tryd.prog 35 #[tbagg d v2 v3 v4] w fun e w' => ∃ u, e = .returned u ∧ w'.ownsRow (w.heap.size + 1) 5 1 u (im d).length (cv (im d)) ∧ Below w.heap.size w w' := by
  have hx0 := hok.w0
  have hx1 := hok.w1
  have hy0 := hok.h0
  have hy1 := hok.h1
  have hl2 := hok.tg.len
  have hl3 := hok.dl
  have hl4 := hok.hl
  obtain ⟨a2, b2, o2, c2, rfl, ha2, hc2⟩ := h.targets
  obtain ⟨a3, b3, o3, c3, rfl, ha3, hc3⟩ := h.dist
  obtain ⟨a4, b4, o4, c4, rfl, ha4, hc4⟩ := h.hop
  have HC2 := hide hc2
  have HC3 := hide hc3
  have HC4 := hide hc4
  have HOK := hide hok
  obtain ⟨xn, hxn⟩ : ∃ n : Nat, d.w = n := ⟨d.w.toNat, by omega⟩
  obtain ⟨yn, hyn⟩ : ∃ n : Nat, d.h = n := ⟨d.h.toNat, by omega⟩
  have HXN := hide hxn
  have HYN := hide hyn
  have HIH : Hid (imH d = ((([87, 72, 76, 49] ++ le 2 xn) ++ le 2 yn) ++ le 2 d.targets.length)) := by
    show _ = _
    unfold imH
    rw [hxn, hyn]
    rfl
  clear hc2 hc3 hc4 h hok
  unfold tbagg
  rw [hxn, hyn]
  rw [hxn] at hx0 hx1
  rw [hyn] at hy0 hy1
  obtain ⟨T, hT⟩ : ∃ T, d.targets = T := ⟨_, rfl⟩
  obtain ⟨Ds, hDs⟩ : ∃ T, d.dist = T := ⟨_, rfl⟩
  obtain ⟨Hs, hHs⟩ : ∃ T, d.hop = T := ⟨_, rfl⟩
  rw [hT] at hl2 hl3 hl4 ha2 HC2 HIH ⊢
  rw [hDs] at hl3 ha3 HC3 ⊢
  rw [hHs] at hl4 ha4 HC4 ⊢
  have HIM : Hid (im d = imB d ++ le 4 (crc (byt (imB d)))) := rfl
  have HIB : Hid (imB d = imH d ++ imTs T T.length ++ imRs d T.length) := by show _ = _; unfold imB; rw [hT]
  have HBL := hide (imB_len HOK.out)
  have HIL := hide (im_lo HOK.out)
  have HTS : Hid (∀ i, i < T.length → TgOk (d.w * d.h) (T.getD i .zero)) := fun i hi => by rw [← hT]; exact HOK.out.tg.each i (by rw [hT]; exact hi)
  have HRW : Hid (∀ i, i < T.length → RowOk d.w d.h (T.getD i .zero).cell (Ds.getD i []) (Hs.getD i [])) := fun i hi => by rw [← hT, ← hDs, ← hHs]; exact HOK.out.rows i (by rw [hT]; exact hi)
  have HIR : Hid (∀ i, imR d i = pkL (Hs.getD i []) (3 * (Hs.getD i []).length) ++ imD (Ds.getD i []) (Ds.getD i []).length) := fun i => by unfold imR; rw [hHs, hDs]
  have HTL : Hid (∀ k, k ≤ T.length → (imTs T k).length ≤ 64 * k) := fun k hk => by rw [← hT]; exact imTs_len HOK.out.tg k (by rw [hT]; exact hk)
  have HRL : Hid (∀ k, k ≤ T.length → (imRs d k).length ≤ 3900 * k) := fun k hk => imRs_len HOK.out k (by rw [hT]; exact hk)
  have HWH : Hid (d.w * d.h ≤ 1600 ∧ 0 < d.w * d.h) := by
    have h3 : d.w * d.h ≤ 40 * 40 := Int.mul_le_mul HOK.out.w1 HOK.out.h1 (by have := HOK.out.h0; omega) (by omega)
    exact ⟨by omega, Int.mul_pos (by have := HOK.out.w0; omega) (by have := HOK.out.h0; omega)⟩
  clear hT hDs hHs hxn hyn
  obtain ⟨W0, hW0⟩ : ∃ W, w.alloc (.cells #[.int .i64 (xn : Nat), .int .i64 (yn : Nat), .slice a2 T.length c2, .slice a3 Ds.length c3, .slice a4 Hs.length c4] 30) = W := ⟨_, rfl⟩
  have hB0 : Below w.heap.size w W0 := by rw [← hW0]; exact (Below.refl _ _).alloc (Nat.le_refl _) _
  have hA0 : Blk W0 w.heap.size 30 #[.int .i64 (xn : Nat), .int .i64 (yn : Nat), .slice a2 T.length c2, .slice a3 Ds.length c3, .slice a4 Hs.length c4] := by rw [← hW0]; exact Blk.new _ _ _
  have hS0 : W0.heap.size = w.heap.size + 1 := by rw [← hW0, World.size_alloc]
  have HB := hide hB0
  have HA := hide hA0
  have HW := hide hW0
  obtain ⟨G, hG⟩ : ∃ G, W0.heap.size = G := ⟨_, rfl⟩
  have HG := hide hG
  have HGG : Hid (G = W0.heap.size) := hG.symm
  have HGW : Hid (w.heap.size + 1 = G) := by show _ = _; omega
  obtain ⟨w1, hw1⟩ : ∃ W, W0.alloc (.cells #[.int .u8 87, .int .u8 72, .int .u8 76, .int .u8 49] 5 (4, 4 + 1)) = W := ⟨_, rfl⟩
  have hbl1 : Below W0.heap.size W0 w1 := by rw [← hw1]; exact (Below.refl _ _).alloc (Nat.le_refl _) _
  have HB1 : Hid (Below G W0 w1) := by show Below _ _ _; rw [← hG]; exact hbl1
  have hG1 : G ≤ w1.heap.size := by have := hbl1.size; omega
  have HO1 : Hid (∀ j, j < 4 → w1.cell? ⟨G, j, none⟩ = some (.int .u8 ([87, 72, 76, 49].getD j 0 : Nat))) := fun j hj => by
    rw [← hw1, ← hG]
    refine (cell_of_row _ _ j _ _ _ (heap_alloc_new W0 _)).trans ?_
    match j, hj with
    | 0, _ => rfl
    | 1, _ => rfl
    | 2, _ => rfl
    | 3, _ => rfl
  have hAT : ∀ V, Below G W0 V → Blk V w.heap.size 30 #[.int .i64 (xn : Nat), .int .i64 (yn : Nat), .slice a2 T.length c2, .slice a3 Ds.length c3, .slice a4 Hs.length c4] := fun V hV => (hV.block _ (by have := HGW.out; omega)).trans HA.out
  have HAT := hide hAT
  have kc : (convert 37 37 (.slice (some ⟨G, 0, none⟩) 4 4)).run Tryd.prog (W0.alloc (.cells #[.int .u8 87, .int .u8 72, .int .u8 76, .int .u8 49] 5)) = .ok (.slice (some ⟨G, 0, none⟩) 4 4) w1 := by
    rw [← hG, ← hw1]
    exact Lib.run_convert_bytes_const (P := Tryd.prog) W0 37 5 _ 4 4 Tryd.underlying37 Tryd.underlying5
  have hW := HW.out
  have HDL := hide hl3
  have HHL := hide hl4
  clear hB0 hA0 hW0 hbl1 hAT hS0 hl3 hl4 hw1
  have y0 := (HAT.out w1 HB1.out).cell 0
  have y1 := (HAT.out w1 HB1.out).cell 1
  have y2 := (HAT.out w1 HB1.out).cell 2
  have y3 := (HAT.out w1 HB1.out).cell 3
  have y4 := (HAT.out w1 HB1.out).cell 4
  simp only [List.getElem?_toArray, List.getElem?_cons_succ, List.getElem?_cons_zero] at y0 y1 y2 y3 y4
  go_enter Tryd.func35, Tryd.ntmps35
  go_wp2_with fail
  refine (l7little_any xn 2 w1 (by omega) (by omega)).mono ?_
  rintro e wc1 ⟨vc1, rfl, hoc, hbc⟩
  obtain ⟨gc1, cc1, rfl, _, _, hcs, _⟩ := own_slice hoc (by rw [le_len]; omega)
  have HCS1 := hide hcs
  have HBc1 : Hid (Below G W0 wc1) := HB1.out.trans (hbc.mono hG1)
  have hGc1 : G ≤ wc1.heap.size := by have := hbc.size; omega
  have HOc1 : Hid (∀ j, j < 4 → wc1.cell? ⟨G, j, none⟩ = some (.int .u8 (([87, 72, 76, 49] : List Nat).getD j 0 : Nat))) := fun j hj => cell_kept (HO1.out j hj) hbc
  clear hoc hbc hcs
  rw [le_len]
  go_wp2_with (at_builtin; refine wp_app_full rfl _ _ rfl G G [87, 72, 76, 49] rfl HOc1.out gc1 cc1 (le 2 xn) (by rw [le_len]; rfl) HCS1.out (by rw [le_len]; omega) (by rw [le_len]; decide) hGc1 ?_)
  intro v2 w2 l2 hl ho hg
  have HB2 : Hid (Below G W0 w2) := HBc1.out.trans (hg.mono hGc1)
  have HO2 := hide ho
  have HL2x : Hid (l2 = [87, 72, 76, 49] ++ le 2 xn) := hl.out
  have hG2 : G ≤ w2.heap.size := by have := HB2.out.size; have := HGG.out; omega
  have hll2 : l2.length ≤ 6 := by rw [hl.out]; first | (rw [List.length_append, le_len]; omega) | simp [le_len]
  clear hl ho hg HCS1 HBc1 HOc1
  clear y0 y1 y2 y3 y4
  have y0 := (HAT.out w2 HB2.out).cell 0
  have y1 := (HAT.out w2 HB2.out).cell 1
  have y2 := (HAT.out w2 HB2.out).cell 2
  have y3 := (HAT.out w2 HB2.out).cell 3
  have y4 := (HAT.out w2 HB2.out).cell 4
  simp only [List.getElem?_toArray, List.getElem?_cons_succ, List.getElem?_cons_zero] at y0 y1 y2 y3 y4
  go_wp2_with fail
  refine (l7little_any yn 2 w2 (by omega) (by omega)).mono ?_
  rintro e wc2 ⟨vc2, rfl, hoc, hbc⟩
  obtain ⟨gc2, cc2, rfl, _, _, hcs, _⟩ := own_slice hoc (by rw [le_len]; omega)
  have HCS2 := hide hcs
  have HBc2 : Hid (Below G W0 wc2) := HB2.out.trans (hbc.mono hG2)
  have hGc2 : G ≤ wc2.heap.size := by have := hbc.size; omega
  have HOc2 := hide (kept_below HO2.out hbc)
  clear hoc hbc hcs
  rw [le_len]
  go_wp2_with (at_builtin; refine wp_app rfl _ _ rfl G _ l2 rfl HOc2.out gc2 cc2 (le 2 yn) (by rw [le_len]; rfl) HCS2.out (by rw [le_len]; omega) hGc2 ?_)
  intro v3 w3 l3 hl ho hg
  have HB3 : Hid (Below G W0 w3) := app_below HBc2.out HOc2.out hGc2 hg
  have HO3 := hide ho
  have HL3x : Hid (l3 = l2 ++ le 2 yn) := hl.out
  have hG3 : G ≤ w3.heap.size := by have := HB3.out.size; have := HGG.out; omega
  have hll3 : l3.length ≤ 8 := by rw [hl.out]; first | (rw [List.length_append, le_len]; omega) | simp [le_len]
  clear hl ho hg HCS2 HBc2 HOc2
  clear y0 y1 y2 y3 y4
  have y0 := (HAT.out w3 HB3.out).cell 0
  have y1 := (HAT.out w3 HB3.out).cell 1
  have y2 := (HAT.out w3 HB3.out).cell 2
  have y3 := (HAT.out w3 HB3.out).cell 3
  have y4 := (HAT.out w3 HB3.out).cell 4
  simp only [List.getElem?_toArray, List.getElem?_cons_succ, List.getElem?_cons_zero] at y0 y1 y2 y3 y4
  go_wp2_with fail
  refine (l7little_any T.length 2 w3 (by omega) (by omega)).mono ?_
  rintro e wc3 ⟨vc3, rfl, hoc, hbc⟩
  obtain ⟨gc3, cc3, rfl, _, _, hcs, _⟩ := own_slice hoc (by rw [le_len]; omega)
  have HCS3 := hide hcs
  have HBc3 : Hid (Below G W0 wc3) := HB3.out.trans (hbc.mono hG3)
  have hGc3 : G ≤ wc3.heap.size := by have := hbc.size; omega
  have HOc3 := hide (kept_below HO3.out hbc)
  clear hoc hbc hcs
  rw [le_len]
  go_wp2_with (at_builtin; refine wp_app rfl _ _ rfl G _ l3 rfl HOc3.out gc3 cc3 (le 2 T.length) (by rw [le_len]; rfl) HCS3.out (by rw [le_len]; omega) hGc3 ?_)
  intro v4 w4 l4 hl ho hg
  have HB4 : Hid (Below G W0 w4) := app_below HBc3.out HOc3.out hGc3 hg
  have HO4 := hide ho
  have HL4x : Hid (l4 = l3 ++ le 2 T.length) := hl.out
  have hG4 : G ≤ w4.heap.size := by have := HB4.out.size; have := HGG.out; omega
  have hll4 : l4.length ≤ 10 := by rw [hl.out]; first | (rw [List.length_append, le_len]; omega) | simp [le_len]
  clear hl ho hg HCS3 HBc3 HOc3
  clear y0 y1 y2 y3 y4
  have HZ4 : Hid (l4 = imH d ++ imTs T 0) := by
    show _ = _
    rw [HL4x.out, HL3x.out, HL2x.out, HIH.out]
    show _ = _ ++ []
    rw [List.append_nil]
  clear HL4x HL3x HL2x HO1 HO2 HO3 HB1 HB2 HB3 hG1 hG2 hG3 hll2 hll3 kc hW
  have HIHL : Hid ((imH d).length = 10) := imH_len d
  rw [HZ4.out] at HO4
  clear hll4
  go_wp2
  go_loopw [3, 4] (fun ox ix wr => ∃ i : Nat, i ≤ T.length ∧ ix = .int .i64 i ∧ wr.ownsRow G 5 1 ox (imH d ++ imTs T i).length (cv (imH d ++ imTs T i)) ∧ Below G W0 wr) (fun _ ix _ => T.length - (intOf ix).toNat)
  case atStart => exact ⟨0, Nat.zero_le _, rfl, HO4.out, HB4.out⟩
  case round =>
    clear HO4 HB4 HZ4 hG4
    obtain ⟨i, hi, rfl, hown, hbl⟩ := hrel
    rename World => w5
    have HO5 := hide hown
    have HB5 := hide hbl
    have hG5 : G ≤ w5.heap.size := by have := hbl.size; have := HGG.out; omega
    have HTI := hide (HTL.out i hi)
    obtain ⟨l5, hl5⟩ : ∃ l, imH d ++ imTs T i = l := ⟨_, rfl⟩
    rw [hl5] at HO5
    have hll5 : l5.length ≤ 2000 := by
      have h1 := HTI.out
      have h2 := HIHL.out
      rw [← hl5, List.length_append]
      omega
    have HL5 := hide hl5
    clear hown hl5
    have y0 := (HAT.out w5 hbl).cell 0
    have y1 := (HAT.out w5 hbl).cell 1
    have y2 := (HAT.out w5 hbl).cell 2
    have y3 := (HAT.out w5 hbl).cell 3
    have y4 := (HAT.out w5 hbl).cell 4
    simp only [List.getElem?_toArray, List.getElem?_cons_succ, List.getElem?_cons_zero] at y0 y1 y2 y3 y4
    by_cases hlt : i < T.length
    · have hlti : (i : Int) < (T.length : Int) := by omega
      obtain rfl := ha2 (by omega)
      have hBW : Below w.heap.size w w5 := HB.out.trans (hbl.mono (by have := HGW.out; omega))
      obtain ⟨vn, hcx, hnv⟩ := HC2.out i hlt
      have htk := HTS.out i hlt
      have HIT : Hid (imTs T (i + 1) = imTs T i ++ imT (T.getD i .zero)) := rfl
      obtain ⟨t, ht⟩ : ∃ t, T.getD i .zero = t := ⟨_, rfl⟩
      rw [ht] at hcx hnv htk HIT
      obtain ⟨f0, f1, f2⟩ := hcx.below hBW
      have hnm := hnv.name.below hBW
      have h60 := htk.s1
      have h61 := htk.s0
      have hk0 := htk.k0
      have hk1 := htk.k1
      have hc0 := htk.c0
      have hc1 := htk.c1
      have hwh := HWH.out.1
      obtain ⟨an, bn, on, cn, rfl, han, hcn⟩ := hnm
      obtain rfl := han (by omega)
      obtain ⟨tn, tk, tc⟩ := t
      simp only at f0 f1 f2 h60 h61 hk0 hk1 hc0 hc1 hcn
      obtain ⟨kn, rfl⟩ : ∃ n : Nat, tk = n := ⟨tk.toNat, by omega⟩
      obtain ⟨cl, rfl⟩ : ∃ n : Nat, tc = n := ⟨tc.toNat, by omega⟩
      have hcl : cl ≤ 1600 := by omega
      have HNM : Hid (∀ V, Below G W0 V → ∀ j, j < (nb tn).length → V.cell? ⟨bn, on + j, none⟩ = some (.int .u8 ((nb tn).getD j 0 : Nat))) := fun V hV j hj => by
        rw [nb_len] at hj
        rw [nb_at tn hj]
        have hw : Below w.heap.size w V := HB.out.trans (hV.mono (by have := HGW.out; omega))
        obtain ⟨a', b', o', c', h1, h2, h3⟩ := hnv.name.below hw
        injection h1 with h4 h5 h6
        have h7 := h2 (by show 0 < tn.size; omega)
        rw [← h4] at h7
        cases h7
        exact h3 j hj
      have HIT2 : Hid (imTs T (i + 1) = imTs T i ++ ((([kn] ++ le 2 cl) ++ [tn.size]) ++ nb tn)) := HIT.out
      obtain ⟨w6, hw6⟩ : ∃ W, w5.alloc (.cells #[.slice (some ⟨bn, on, none⟩) tn.size cn, .int .i64 (kn : Nat), .int .i64 (cl : Nat)] 56) = W := ⟨_, rfl⟩
      have hb6 : Below w5.heap.size w5 w6 := by rw [← hw6]; exact (Below.refl _ _).alloc (Nat.le_refl _) _
      have HX6 : Hid (Blk w6 w5.heap.size 56 #[.slice (some ⟨bn, on, none⟩) tn.size cn, .int .i64 (kn : Nat), .int .i64 (cl : Nat)]) := by rw [← hw6]; exact Blk.new _ _ _
      have HB6 : Hid (Below G W0 w6) := hbl.trans (hb6.mono hG5)
      have hG6 : G ≤ w6.heap.size := by have := hb6.size; omega
      have HO6 := hide (kept_below HO5.out hb6)
      have z0 := HX6.out.cell 0
      have z1 := HX6.out.cell 1
      have z2 := HX6.out.cell 2
      simp only [List.getElem?_toArray, List.getElem?_cons_succ, List.getElem?_cons_zero] at z0 z1 z2
      have hW6 := hw6
      have hsz : tn.size < 256 := by omega
      have hknb : kn < 256 := by omega
      clear ht hcx hnv htk HIT hcn han hb6 hw6 hbl hBW
      go_wp2_with (at_builtin; refine wp_app rfl _ _ rfl G _ l5 rfl (HO6.out.alloc _) w6.heap.size 1 [kn] rfl (fun j hj => by match j, hj with | 0, _ => exact (Blk.new _ _ _).cell 0) (by simp only [List.length_cons, List.length_nil]; omega) (by rw [World.size_alloc]; omega) ?_)
      intro v7 w7 l7 hl ho hg
      have HB7 : Hid (Below G W0 w7) := app_below (HB6.out.alloc hG6 _) (HO6.out.alloc _) (by rw [World.size_alloc]; omega) hg
      have HX7 := hide (blk_app (HX6.out.alloc _) (by decide) (HO6.out.alloc _) hg)
      have HO7 := hide ho
      have HL7x : Hid (l7 = l5 ++ [kn]) := hl
      have hG7 : G ≤ w7.heap.size := by have := HB7.out.size; have := HGG.out; omega
      have hll7 : l7.length ≤ 2001 := by rw [hl.out, List.length_append, List.length_singleton]; omega
      clear hl ho hg
      clear y0 y1 y2 y3 y4 z0 z1 z2 hW6 f0 f1 f2 HO6 HX6 HB6 hG6 HO5 HB5
      have z0 := HX7.out.cell 0
      have z1 := HX7.out.cell 1
      have z2 := HX7.out.cell 2
      simp only [List.getElem?_toArray, List.getElem?_cons_succ, List.getElem?_cons_zero] at z0 z1 z2
      go_wp2_with fail
      refine (l7little_any cl 2 w7 (by omega) (by omega)).mono ?_
      rintro e wc7 ⟨vc7, rfl, hoc, hbc⟩
      obtain ⟨gc7, cc7, rfl, _, _, hcs, _⟩ := own_slice hoc (by rw [le_len]; omega)
      have HCS7 := hide hcs
      have HBc7 : Hid (Below G W0 wc7) := HB7.out.trans (hbc.mono hG7)
      have hGc7 : G ≤ wc7.heap.size := by have := hbc.size; omega
      have HXc7 := hide (HX7.out.below hbc)
      have HOc7 := hide (kept_below HO7.out hbc)
      clear hoc hbc hcs
      rw [le_len]
      go_wp2_with (at_builtin; refine wp_app rfl _ _ rfl G _ l7 rfl HOc7.out gc7 cc7 (le 2 cl) (by rw [le_len]; rfl) HCS7.out (by rw [le_len]; omega) hGc7 ?_)
      intro v8 w8 l8 hl ho hg
      have HB8 : Hid (Below G W0 w8) := app_below HBc7.out HOc7.out hGc7 hg
      have HX8 := hide (blk_app HXc7.out (by decide) HOc7.out hg)
      have HO8 := hide ho
      have HL8x : Hid (l8 = l7 ++ le 2 cl) := hl.out
      have hG8 : G ≤ w8.heap.size := by have := HB8.out.size; have := HGG.out; omega
      have hll8 : l8.length ≤ 2003 := by rw [hl.out]; first | (rw [List.length_append, le_len]; omega) | simp [le_len]
      clear hl ho hg HCS7 HBc7 HOc7
      clear z0 z1 z2 HO7 HX7 HB7 hG7
      have z0 := HX8.out.cell 0
      have z1 := HX8.out.cell 1
      have z2 := HX8.out.cell 2
      simp only [List.getElem?_toArray, List.getElem?_cons_succ, List.getElem?_cons_zero] at z0 z1 z2
      go_wp2_with (at_builtin; refine wp_app rfl _ _ rfl G _ l8 rfl (HO8.out.alloc _) w8.heap.size 1 [tn.size] rfl (fun j hj => by match j, hj with | 0, _ => exact (Blk.new _ _ _).cell 0) (by simp only [List.length_cons, List.length_nil]; omega) (by rw [World.size_alloc]; omega) ?_)
      intro v9 w9 l9 hl ho hg
      have HB9 : Hid (Below G W0 w9) := app_below (HB8.out.alloc hG8 _) (HO8.out.alloc _) (by rw [World.size_alloc]; omega) hg
      have HX9 := hide (blk_app (HX8.out.alloc _) (by decide) (HO8.out.alloc _) hg)
      have HO9 := hide ho
      have HL9x : Hid (l9 = l8 ++ [tn.size]) := hl
      have hG9 : G ≤ w9.heap.size := by have := HB9.out.size; have := HGG.out; omega
      have hll9 : l9.length ≤ 2004 := by rw [hl.out, List.length_append, List.length_singleton]; omega
      clear hl ho hg
      clear z0 z1 z2 HO8 HX8 HB8 hG8
      have z0 := HX9.out.cell 0
      have z1 := HX9.out.cell 1
      have z2 := HX9.out.cell 2
      simp only [List.getElem?_toArray, List.getElem?_cons_succ, List.getElem?_cons_zero] at z0 z1 z2
      have HNM9 := hide (HNM.out w9 HB9.out)
      go_wp2_with (at_builtin; refine wp_app_at rfl _ _ rfl G _ l9 rfl HO9.out bn on cn (nb tn) (by rw [nb_len]; rfl) HNM9.out (by rw [nb_len]; omega) hG9 ?_)
      intro v10 w10 l10 hl ho hg
      have HB10 : Hid (Below G W0 w10) := app_below HB9.out HO9.out hG9 hg
      have HO10 := hide ho
      have HL10x : Hid (l10 = l9 ++ nb tn) := hl.out
      have HZ10 : Hid (l10 = imH d ++ imTs T (i + 1)) := by
        show _ = _
        rw [HL10x.out, HL9x.out, HL8x.out, HL7x.out, ← HL5.out, HIT2.out]
        simp only [List.append_assoc]
      rw [HZ10.out] at HO10
      clear hl ho hg z0 z1 z2 HO9 HX9 hG9
      go_wp2
      go_roundw
      case rel => exact ⟨i + 1, by omega, by go_num, HO10.out, HB10.out⟩
      case measure => simp [intOf]; omega
    · have hge : ¬ (i : Int) < (T.length : Int) := by omega
      obtain rfl : i = T.length := by omega
      go_wp2
      clear y0 y1 y2 y3 y4 hge hlt hll5 hG5 hi
      have HO5' : Hid (w5.ownsRow G 5 1 u3 (imH d ++ imTs T T.length ++ imRs d 0).length (cv (imH d ++ imTs T T.length ++ imRs d 0))) := by
        show World.ownsRow _ _ _ _ _ _ _
        rw [show imRs d 0 = [] from rfl, List.append_nil, HL5.out]
        exact HO5.out
      clear HO5 HL5 HTI
      obtain ⟨PF, hPF⟩ : ∃ P, imH d ++ imTs T T.length = P := ⟨_, rfl⟩
      rw [hPF] at HO5'
      have HPF := hide hPF
      have HPL : Hid (PF.length ≤ 2000) := by
        show _ ≤ _
        have h1 := HTL.out T.length (Nat.le_refl _)
        have h2 := HIHL.out
        rw [← hPF, List.length_append]
        omega
      clear hPF hbl
      go_loopw [3, 6] (fun ox ix wr => ∃ i : Nat, i ≤ T.length ∧ ix = .int .i64 i ∧ wr.ownsRow G 5 1 ox (PF ++ imRs d i).length (cv (PF ++ imRs d i)) ∧ Below G W0 wr) (fun _ ix _ => T.length - (intOf ix).toNat)
      case atStart => exact ⟨0, Nat.zero_le _, rfl, HO5'.out, HB5.out⟩
      case round =>
        clear HO5' HB5
        obtain ⟨i, hi, rfl, hown, hbl⟩ := hrel
        rename World => w11
        have HO11 := hide hown
        have HB11 := hide hbl
        have hG11 : G ≤ w11.heap.size := by have := hbl.size; have := HGG.out; omega
        have HRI := hide (HRL.out i hi)
        obtain ⟨l11, hl11⟩ : ∃ l, PF ++ imRs d i = l := ⟨_, rfl⟩
        rw [hl11] at HO11
        have hll11 : l11.length ≤ 2000 + 3900 * i := by
          have h1 := HRI.out
          have h2 := HPL.out
          rw [← hl11, List.length_append]
          omega
        have HL11 := hide hl11
        clear hown hl11
        have y0 := (HAT.out w11 hbl).cell 0
        have y1 := (HAT.out w11 hbl).cell 1
        have y2 := (HAT.out w11 hbl).cell 2
        have y3 := (HAT.out w11 hbl).cell 3
        have y4 := (HAT.out w11 hbl).cell 4
        simp only [List.getElem?_toArray, List.getElem?_cons_succ, List.getElem?_cons_zero] at y0 y1 y2 y3 y4
        by_cases hlt : i < T.length
        · have hlti : (i : Int) < (T.length : Int) := by omega
          have hidi : (i : Int) < (Ds.length : Int) := by have := HDL.out; omega
          have hihi : (i : Int) < (Hs.length : Int) := by have := HHL.out; omega
          obtain rfl := ha3 (by omega)
          obtain rfl := ha4 (by omega)
          have hBW : Below w.heap.size w w11 := HB.out.trans (hbl.mono (by have := HGW.out; omega))
          obtain ⟨u3', hu3, hI3⟩ := HC3.out i (by omega)
          obtain ⟨u4', hu4, hI4⟩ := HC4.out i (by omega)
          have hrw := HRW.out i hlt
          have HIRI : Hid (imRs d (i + 1) = imRs d i ++ imR d i) := rfl
          have hir := HIR.out i
          obtain ⟨D, hD⟩ : ∃ D, Ds.getD i [] = D := ⟨_, rfl⟩
          obtain ⟨P, hP⟩ : ∃ P, Hs.getD i [] = P := ⟨_, rfl⟩
          rw [hD] at hI3 hrw hir
          rw [hP] at hI4 hrw hir
          have HIR2 := hide hir
          have hwh := HWH.out
          have hdl := hrw.dl
          have hpl := hrw.pl
          have hDl : D.length ≤ 1600 := by omega
          have hPl : P.length ≤ 1600 := by omega
          have hP0 : 0 < P.length := by omega
          have HGP : Hid (hGood P = true) := (hGood_iff P).2 (fun c hc => by
            have h1 := hrw.each c (by omega)
            unfold StepOk at h1
            split at h1
            · rw [h1.2]; decide
            · split at h1
              · rw [h1]; decide
              · exact ⟨by omega, h1.2.2.2.1⟩)
          have HDB : Hid (∀ c, c < D.length → D.getD c 0 ≤ 65534) := fun c hc => by
            have h1 := hrw.each c (by omega)
            unfold StepOk at h1
            split at h1
            · rw [h1.1]; decide
            · split at h1
              · omega
              · exact h1.2.1
          have HI3 : Hid (∀ V, Below G W0 V → V.cell? ⟨b3, o3 + i, none⟩ = some u3' ∧ IS V u3' D) := fun V hV => by
            have hw : Below w.heap.size w V := HB.out.trans (hV.mono (by have := HGW.out; omega))
            exact ⟨cell_kept hu3 hw, hI3.below hw⟩
          have g4 := cell_kept hu4 hBW
          have hI4' := hI4.below hBW
          have HPK := hide (specPack_any P u4' w11 (by omega) hI4')
          obtain ⟨a4', c4', rfl⟩ := hI4.slice
          clear hD hP hrw hir hdl hpl hu3 hI3 hu4 hI4 hI4' hBW
          go_wp2_with fail
          refine HPK.out.mono ?_
          rintro e w12 ⟨vp, rfl, hbs, hb12⟩
          have HB12 : Hid (Below G W0 w12) := hbl.trans (hb12.mono hG11)
          have hG12 : G ≤ w12.heap.size := by have := hb12.size; omega
          have HO12 := hide (kept_below HO11.out hb12)
          have hsz : (pkF P).size = (pkL P (3 * P.length)).length := by rw [pkF_yes HGP.out, byt_size]
          have hpn : 0 < (pkL P (3 * P.length)).length := by rw [pkL_len]; unfold pkN; omega
          have hpm : (pkL P (3 * P.length)).length ≤ 700 := by rw [pkL_len]; unfold pkN; omega
          have HPLO := pkL_lo P (3 * P.length)
          rw [pkF_yes HGP.out] at hbs
          obtain ⟨ap, bp, op, cp, rfl, hap, hcp⟩ := hbs
          obtain ⟨Z, hZ⟩ : ∃ Z, pkL P (3 * P.length) = Z := ⟨_, rfl⟩
          rw [hZ] at hsz hpn hpm hap hcp HPLO HIR2 ⊢
          rw [byt_size] at hap
          obtain rfl := hap hpn
          have HZC : Hid (∀ j, j < Z.length → w12.cell? ⟨bp, op + j, none⟩ = some (.int .u8 (Z.getD j 0 : Nat))) := fun j hj => by
            rw [hcp j (by rw [byt_size]; exact hj), byt_bts HPLO hj]
          rw [byt_size]
          have HPZ := hide hpm
          clear hb12 hcp HPLO hZ hsz HPK hbl y0 y1 y2 y3 y4 hap
          go_wp2_with (at_builtin; refine wp_app_at rfl _ _ rfl G _ l11 rfl HO12.out bp op cp Z rfl HZC.out (by omega) hG12 ?_)
          intro v13 w13 l13 hl ho hg
          have HB13 : Hid (Below G W0 w13) := app_below HB12.out HO12.out hG12 hg
          have hG13 : G ≤ w13.heap.size := by have := HB13.out.size; have := HGG.out; omega
          have HL13 : Hid (l13 = l11 ++ Z) := hl.out
          have hll13 : l13.length ≤ 120000 := by rw [hl.out, List.length_append]; omega
          have HO13 : Hid (w13.ownsRow G 5 1 v13 (l13 ++ imD D 0).length (cv (l13 ++ imD D 0))) := by
            show World.ownsRow _ _ _ _ _ _ _
            rw [show imD D 0 = [] from rfl, List.append_nil]
            exact ho
          clear hl ho hg HO12 HB12 hG12 HO11 HB11 hG11 HZC
          go_wp2
          go_loopw [3, 9] (fun ox cx wr => ∃ c : Nat, c ≤ D.length ∧ cx = .int .i64 c ∧ wr.ownsRow G 5 1 ox (l13 ++ imD D c).length (cv (l13 ++ imD D c)) ∧ Below G W0 wr) (fun _ cx _ => D.length - (intOf cx).toNat)
          case atStart => exact ⟨0, Nat.zero_le _, rfl, HO13.out, HB13.out⟩
          case round =>
            clear HO13 HB13 hG13
            obtain ⟨c, hc, rfl, hown, hbl⟩ := hrel
            rename World => w14
            have HO14 := hide hown
            have HB14 := hide hbl
            have hG14 : G ≤ w14.heap.size := by have := hbl.size; have := HGG.out; omega
            have HDC : Hid (imD D (c + 1) = imD D c ++ le 2 (dv (D.getD c 0))) := rfl
            obtain ⟨l14, hl14⟩ : ∃ l, l13 ++ imD D c = l := ⟨_, rfl⟩
            rw [hl14] at HO14
            have hll14 : l14.length ≤ 125000 := by rw [← hl14, List.length_append, imD_len]; omega
            have HL14 := hide hl14
            obtain ⟨g3, hI3⟩ := HI3.out w14 hbl
            obtain ⟨aD, bD, oD, cD, rfl, hAD, hCD⟩ := hI3
            clear hown hl14
            have y0 := (HAT.out w14 hbl).cell 0
            have y1 := (HAT.out w14 hbl).cell 1
            have y2 := (HAT.out w14 hbl).cell 2
            have y3 := (HAT.out w14 hbl).cell 3
            have y4 := (HAT.out w14 hbl).cell 4
            simp only [List.getElem?_toArray, List.getElem?_cons_succ, List.getElem?_cons_zero] at y0 y1 y2 y3 y4
            by_cases hlt2 : c < D.length
            · have hlti2 : (c : Int) < (D.length : Int) := by omega
              obtain rfl := hAD (by omega)
              have gd := hCD c hlt2
              have hdb := HDB.out c hlt2
              obtain ⟨x, hx⟩ : ∃ x, D.getD c 0 = x := ⟨_, rfl⟩
              rw [hx] at gd hdb HDC
              obtain ⟨q, hq⟩ : ∃ q, dv x = q := ⟨_, rfl⟩
              have hqb : q ≤ 65535 := by rw [← hq]; unfold dv; split <;> omega
              rw [hq] at HDC
              have HBX := hide (l7little_any q 2 w14 (by omega) (by omega))
              clear hx hbl hAD hCD
              by_cases r0 : x < 0
              case' pos =>
                have s0 : decide (x < 0) = true := decide_eq_true r0
                have HQ : Hid ((65535 : Int) = (q : Nat)) := by show _ = _; rw [← hq]; unfold dv; rw [if_pos r0]; rfl
              case' neg =>
                have s0 : decide (x < 0) = false := decide_eq_false r0
                have HQ : Hid (x = (q : Nat)) := by show _ = _; rw [← hq]; unfold dv; rw [if_neg r0]; omega
              all_goals
                clear r0 hq
                go_wp2_with fail
                rw [HQ.out]
                refine HBX.out.mono ?_
                rintro e wc ⟨vc, rfl, hoc, hbc⟩
                obtain ⟨gc, cc, rfl, _, _, hcs, _⟩ := own_slice hoc (by rw [le_len]; omega)
                have HCS := hide hcs
                have HBc : Hid (Below G W0 wc) := HB14.out.trans (hbc.mono hG14)
                have hGc : G ≤ wc.heap.size := by have := hbc.size; omega
                have HOc := hide (kept_below HO14.out hbc)
                clear hoc hbc hcs
                rw [le_len]
                go_wp2_with (at_builtin; refine wp_app rfl _ _ rfl G _ l14 rfl HOc.out gc cc (le 2 q) (by rw [le_len]; rfl) HCS.out (by rw [le_len]; omega) hGc ?_)
                intro v15 w15 l15 hl ho hg
                have HB15 : Hid (Below G W0 w15) := app_below HBc.out HOc.out hGc hg
                have HO15 := hide ho
                have HZ15 : Hid (l15 = l13 ++ imD D (c + 1)) := by
                  show _ = _
                  rw [hl.out, ← HL14.out, HDC.out, List.append_assoc]
                rw [HZ15.out] at HO15
                clear hl ho hg y0 y1 y2 y3 y4 g3 gd
                go_wp2
                go_roundw
                case rel => exact ⟨c + 1, by omega, by go_num, HO15.out, HB15.out⟩
                case measure => simp [intOf]; omega
            · have hge2 : ¬ (c : Int) < (D.length : Int) := by omega
              obtain rfl : c = D.length := by omega
              have HZ14 : Hid (l14 = PF ++ imRs d (i + 1)) := by
                show _ = _
                rw [← HL14.out, HL13.out, ← HL11.out, HIRI.out, HIR2.out]
                simp only [List.append_assoc]
              rw [HZ14.out] at HO14
              clear hbl hAD hCD
              go_wp2
              go_roundw
              case rel => exact ⟨i + 1, by omega, by go_num, HO14.out, HB14.out⟩
              case measure => simp [intOf]; omega
        · have hge : ¬ (i : Int) < (T.length : Int) := by omega
          obtain rfl : i = T.length := by omega
          have HZB : Hid (l11 = imB d) := by show _ = _; rw [← HL11.out, HIB.out, HPF.out]
          rw [HZB.out] at HO11
          have HLB : Hid (Lo (imB d)) := imB_lo HOK.out
          have HBS : Hid (BS w11 u3 (byt (imB d))) := own_bs HO11.out HLB.out
          have HCR := hide (specCrc_any u3 (byt (imB d)) w11 (by rw [byt_size]; have := HBL.out; omega) HBS.out)
          have hcr := crc_lt (byt (imB d))
          obtain ⟨q, hq⟩ : ∃ q, crc (byt (imB d)) = q := ⟨_, rfl⟩
          rw [hq] at HCR hcr HIM
          have HLT := hide (l7little_any q 4 w11 (by omega) (by omega))
          clear hq hbl
          go_wp2_with fail
          refine HCR.out.mono ?_
          rintro e wq ⟨rfl, hwq⟩
          subst hwq
          rename World => w11
          go_wp2_with fail
          refine HLT.out.mono ?_
          rintro e wc ⟨vc, rfl, hoc, hbc⟩
          obtain ⟨gc, cc, rfl, _, _, hcs, _⟩ := own_slice hoc (by rw [le_len]; omega)
          have HCS := hide hcs
          have HBc : Hid (Below G W0 wc) := HB11.out.trans (hbc.mono hG11)
          have hGc : G ≤ wc.heap.size := by have := hbc.size; omega
          have HOc := hide (kept_below HO11.out hbc)
          clear hoc hbc hcs y0 y1 y2 y3 y4
          rw [le_len]
          go_wp2_with (at_builtin; refine wp_app rfl _ _ rfl G _ (imB d) rfl HOc.out gc cc (le 4 q) (by rw [le_len]; rfl) HCS.out (by rw [le_len]; have := HBL.out; omega) hGc ?_)
          intro v15 w15 l15 hl ho hg
          have HB15 : Hid (Below w.heap.size w w15) := HB.out.trans ((app_below HBc.out HOc.out hGc hg).mono (by have := HGW.out; omega))
          have HZ15 : Hid (l15 = im d) := by show _ = _; rw [hl.out, HIM.out]
          rw [HZ15.out] at ho
          have HO15 := hide ho
          clear hl ho hg
          go_wp2
          go_ret
          exact ⟨_, rfl, by rw [HGW.out]; exact HO15.out, HB15.out⟩
end Go.Proofs.YtpnocklldlacjaaDoor
