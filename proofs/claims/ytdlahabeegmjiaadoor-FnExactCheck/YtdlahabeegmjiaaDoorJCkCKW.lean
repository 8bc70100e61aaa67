/-
  The walk of spec.l3checkMacro.
-/
import Derived.Test.YtdlahabeegmjiaaDoorJCkCKZ
namespace Go.Proofs.YtdlahabeegmjiaaDoor
open Go.RowKit


set_option maxHeartbeats 8000000 in
set_option maxRecDepth 1000000 in
theorem ck_macro {w0 : World} {C : Nat} {tv : Value} {L : List Nd} (hT : vT L = true) (hN : NS w0 tv L) : CmC w0 C tv L := by
  intro i c vv U V hg hk hA hv
  have hL4 := (vT_good hT).2.1
  have hil := (hg.step (by omega)).1
  have hili : (i : Int) < (L.length : Int) := by omega
  obtain ⟨tb, tq, tc, vt, vn, vy, htv, hNC, hNV⟩ := hN.nod hil
  have HN := hide hN
  subst htv
  obtain ⟨n0, n1, n2, n3, n4, n5⟩ := hNC.below hA.bl
  have HNV := hide hNV
  obtain ⟨a1, c1, a2, c2, a3, c3, rfl, rfl, rfl⟩ := hNV.slc
  have g0 := hA.blk.cell 0
  simp only [List.getElem?_toArray, List.getElem?_cons_zero] at g0
  have HG := hide hg
  have HA := hide hA
  have HT := hide hT
  obtain ⟨d, hd⟩ : ∃ d, ndA L i = d := ⟨_, rfl⟩
  have HD := hide hd
  rw [hd] at n0 n1 n2 n3 n4 n5 HNV hk
  obtain ⟨Va, hVa⟩ : ∃ W, World.alloc V (.cells #[.int .i64 0, .int .i64 0, .slice none 0 0, .slice none 0 0, .slice none 0 0, .int .i64 0] 42) = W := ⟨_, rfl⟩
  have hOb : Blk Va (World.heap V).size 42 #[.int .i64 0, .int .i64 0, .slice none 0 0, .slice none 0 0, .slice none 0 0, .int .i64 0] := by rw [← hVa]; exact Blk.new _ _ _
  have o0 := hOb.cell 0
  have of0 := hOb.frozen 0
  have o1 := hOb.cell 1
  have of1 := hOb.frozen 1
  have o2 := hOb.cell 2
  have of2 := hOb.frozen 2
  have o3 := hOb.cell 3
  have of3 := hOb.frozen 3
  have o4 := hOb.cell 4
  have of4 := hOb.frozen 4
  have o5 := hOb.cell 5
  have of5 := hOb.frozen 5
  simp only [List.getElem?_toArray, List.getElem?_cons_succ, List.getElem?_cons_zero] at o0 o1 o2 o3 o4 o5
  obtain ⟨V2, hV2⟩ : ∃ W, set6w Va (World.heap V).size (.int .i64 (d).kind) (.int .i64 (d).n) (.slice a1 (d).text.size c1) (.slice a2 (d).names.length c2) (.slice a3 (d).types.length c3) (.int .i64 (d).count) = W := ⟨_, rfl⟩
  have hCp : Blk V2 (World.heap V).size 42 #[.int .i64 (d).kind, .int .i64 (d).n, .slice a1 (d).text.size c1, .slice a2 (d).names.length c2, .slice a3 (d).types.length c3, .int .i64 (d).count] := by rw [← hV2]; exact hOb.set6w _ _ _ _ _ _
  have hBl : Below (World.heap V).size V V2 := by
    have hA : Below (World.heap V).size V Va := by rw [← hVa]; exact (Below.refl _ _).alloc (Nat.le_refl _) _
    rw [← hV2]
    exact (((((hA.setCell (Nat.le_refl _) _).setCell (Nat.le_refl _) _).setCell (Nat.le_refl _) _).setCell (Nat.le_refl _) _).setCell (Nat.le_refl _) _).setCell (Nat.le_refl _) _
  unfold set6w at hV2
  have HBl := hide hBl
  have HCp := hide hCp
  have m3 := hCp.cell 3
  have m4 := hCp.cell 4
  simp only [List.getElem?_toArray, List.getElem?_cons_succ, List.getElem?_cons_zero] at m3 m4
  have hA2 := hA.below hBl
  have HA2 := hide hA2
  have HVC : Hid (C < V.heap.size) := hA.blk.lt
  have p0 := hA2.blk.cell 0
  simp only [List.getElem?_toArray, List.getElem?_cons_zero] at p0
  clear hN hA hNC hNV hA2 hBl hCp hd hg hT
  have hfl := (HG.out.fld (by omega)).2.2.2.1
  have hty := (HG.out.fld (by omega)).2.2.2.2.1
  rw [HD.out] at hfl hty
  unfold nOf at hfl
  unfold vTy at hty
  rw [if_pos hk] at hfl hty
  rw [Bool.and_eq_true, decide_eq_true_eq] at hty
  have hnl : d.names.length = 1 + d.types.length := by omega
  have HTL : Hid (d.types.length ≤ 10) := hty.1
  have HNL := hide hnl
  have hn0 : 0 < d.names.length := by omega
  have HNZ := hide (HG.out.nmle (by omega))
  rw [HD.out] at HNZ
  have HK := hide hk
  rw [hk] at n0 hV2
  obtain ⟨nb, no, nc, nu, e5, hnu, hbs⟩ := HNV.out.nm0 hn0
  injection e5 with e5 _ e6
  subst e5 e6
  have hnur := cell_kept hnu HA2.out.bl
  have HBS := hide hbs
  have HNW : Hid (nb < w0.heap.size) := World.block_lt_of_cell? _ _ hnu
  obtain ⟨nm, hnm⟩ : ∃ y, d.names.getD 0 .empty = y := ⟨_, rfl⟩
  have HNM := hide hnm
  rw [hnm] at HBS
  have HMC := hide (fun W (hW : Below V2.heap.size V2 W) => l3macro_any HT.out HN.out (HA2.out.bl.trans (hW.mono HA2.out.bl.size)) HBS.out)
  obtain ⟨na', nb', no', nc', hnuE, _, _⟩ := HBS.out
  subst hnuE
  obtain ⟨J, hJ⟩ : ∃ J, macA L nm = J := ⟨_, rfl⟩
  have HJ := hide hJ
  simp only [hJ] at HMC
  clear hk hfl hty hnl hnu hbs hnm hJ
  go_enter Tryd.func12, Tryd.ntmps12
  go_upto_region 1 with fail
  go_cut [24] from 14 to 23 (fun s24 wx => s24 = .bool (J != (i : Int)) ∧ Hid (Below V2.heap.size V2 wx))
  case first =>
    refine wp_region_held_drew (S := fun W => Hid (Below V2.heap.size V2 W)) (by kernel_rfl) ((Below.refl _ _).drew) (fun hHeld => ?_)
    refine wpAnyH_take (i := 0) (v := ?_) rfl (by kernel_rfl) (by kernel_rfl) (by kernel_rfl) (fun _ _ _ h => h) (Or.inl ⟨by rfl, ?_⟩) hHeld ?_
    rotate_left 1
    · intro Wx hSW; simp only [List.getElem_toArray, List.getElem_cons_zero]; go_simp; try with_reducible rfl
    try simp only [Act.put, List.getElem_toArray, List.getElem_cons_zero, List.setIfInBounds_toArray, List.set_cons_zero, List.set_cons_succ]
    refine wpAnyH_take (i := 1) (v := ?_) rfl (by kernel_rfl) (by kernel_rfl) (by kernel_rfl) (fun _ _ _ h => h) (Or.inl ⟨by rfl, ?_⟩) hHeld ?_
    rotate_left 1
    · intro Wx hSW; simp only [List.getElem_toArray, List.getElem_cons_zero, List.getElem_cons_succ]; go_simp; try with_reducible rfl
    try simp only [Act.put, List.getElem_toArray, List.getElem_cons_zero, List.getElem_cons_succ, List.setIfInBounds_toArray, List.set_cons_zero, List.set_cons_succ]
    refine wpAnyH_take (i := 2) (v := ?_) rfl (by kernel_rfl) (by kernel_rfl) (by kernel_rfl) (fun _ _ _ h => h) (Or.inl ⟨by rfl, ?_⟩) hHeld ?_
    rotate_left 1
    · intro Wx hSW; simp only [List.getElem_toArray, List.getElem_cons_zero, List.getElem_cons_succ]; go_simp; try with_reducible rfl
    try simp only [Act.put, List.getElem_toArray, List.getElem_cons_zero, List.getElem_cons_succ, List.setIfInBounds_toArray, List.set_cons_zero, List.set_cons_succ]
    refine wpAnyH_take (i := 3) (v := ?_) rfl (by kernel_rfl) (by kernel_rfl) (by kernel_rfl) (fun _ _ _ h => h) (Or.inl ⟨by rfl, ?_⟩) hHeld ?_
    rotate_left 1
    · intro Wx hSW; simp only [List.getElem_toArray, List.getElem_cons_zero, List.getElem_cons_succ]; have z0 := cell_kept p0 hSW.out; have z1 := cell_kept m3 hSW.out; have z2 := cell_kept hnur hSW.out; go_simp; try with_reducible rfl
    try simp only [Act.put, List.getElem_toArray, List.getElem_cons_zero, List.getElem_cons_succ, List.setIfInBounds_toArray, List.set_cons_zero, List.set_cons_succ]
    refine wpAnyH_take (i := 4) (v := ?_) rfl (by kernel_rfl) (by kernel_rfl) (by kernel_rfl) (fun _ _ _ h => h) (Or.inl ⟨by rfl, ?_⟩) hHeld ?_
    rotate_left 1
    · intro Wx hSW; simp only [List.getElem_toArray, List.getElem_cons_zero, List.getElem_cons_succ]; go_simp; try with_reducible rfl
    try simp only [Act.put, List.getElem_toArray, List.getElem_cons_zero, List.getElem_cons_succ, List.setIfInBounds_toArray, List.set_cons_zero, List.set_cons_succ]
    refine wpAnyH_take (i := 5) (v := ?_) rfl (by kernel_rfl) (by kernel_rfl) (by kernel_rfl) (fun _ _ _ h => h) (Or.inl ⟨by rfl, ?_⟩) hHeld ?_
    rotate_left 1
    · intro Wx hSW; simp only [List.getElem_toArray, List.getElem_cons_zero, List.getElem_cons_succ]; have z0 := cell_kept p0 hSW.out; have z1 := cell_kept m3 hSW.out; have z2 := cell_kept hnur hSW.out; go_simp; try with_reducible rfl
    try simp only [Act.put, List.getElem_toArray, List.getElem_cons_zero, List.getElem_cons_succ, List.setIfInBounds_toArray, List.set_cons_zero, List.set_cons_succ]
    refine wpAnyH_take (i := 6) (v := ?_) rfl (by kernel_rfl) (by kernel_rfl) (by kernel_rfl) (fun _ _ _ h => h) (Or.inl ⟨by rfl, ?_⟩) hHeld ?_
    rotate_left 1
    · intro Wx hSW; simp only [List.getElem_toArray, List.getElem_cons_zero, List.getElem_cons_succ]; go_simp; try with_reducible rfl
    try simp only [Act.put, List.getElem_toArray, List.getElem_cons_zero, List.getElem_cons_succ, List.setIfInBounds_toArray, List.set_cons_zero, List.set_cons_succ]
    refine wpAnyH_take (i := 7) (v := ?_) rfl (by kernel_rfl) (by kernel_rfl) (by kernel_rfl) (fun _ _ _ h => h) (Or.inl ⟨by rfl, ?_⟩) hHeld ?_
    rotate_left 1
    · intro Wx hSW; simp only [List.getElem_toArray, List.getElem_cons_zero, List.getElem_cons_succ]; have z0 := cell_kept p0 hSW.out; have z1 := cell_kept m3 hSW.out; have z2 := cell_kept hnur hSW.out; go_simp; try with_reducible rfl
    try simp only [Act.put, List.getElem_toArray, List.getElem_cons_zero, List.getElem_cons_succ, List.setIfInBounds_toArray, List.set_cons_zero, List.set_cons_succ]
    refine wpAnyH_take (i := 9) (v := ?_) rfl (by kernel_rfl) (by kernel_rfl) (by kernel_rfl) (fun _ _ _ h => h) (Or.inl ⟨by rfl, ?_⟩) hHeld ?_
    rotate_left 1
    · intro Wx hSW; simp only [List.getElem_toArray, List.getElem_cons_zero, List.getElem_cons_succ]; go_simp; try with_reducible rfl
    try simp only [Act.put, List.getElem_toArray, List.getElem_cons_zero, List.getElem_cons_succ, List.setIfInBounds_toArray, List.set_cons_zero, List.set_cons_succ]
    refine wpAnyH_ready (rs := [8]) (by kernel_rfl) (by simp) ?_
    refine AllReadyH.cons rfl (fun K hK => ?_) AllReadyH.nil
    go_simp
    refine (HMC.out _ ((Below.refl _ _).drew)).mono ?_
    rintro r V3 ⟨rfl, hb3⟩
    have HB3 : Hid (Below V2.heap.size V2 V3) := ((Below.refl V2.heap.size V2).drew).trans hb3
    clear hb3
    refine hK.out _ _ (HB3.out) (fun hHeld => ?_)
    clear hK K
    try simp only [Act.put, List.getElem_toArray, List.getElem_cons_zero, List.getElem_cons_succ, List.setIfInBounds_toArray, List.set_cons_zero, List.set_cons_succ]
    refine wpAnyH_take (i := 10) (v := ?_) rfl (by kernel_rfl) (by kernel_rfl) (by kernel_rfl) (fun _ _ _ h => h) (Or.inl ⟨by rfl, ?_⟩) hHeld ?_
    rotate_left 1
    · intro Wx hSW; simp only [List.getElem_toArray, List.getElem_cons_zero, List.getElem_cons_succ]; go_simp; try with_reducible rfl
    try simp only [Act.put, List.getElem_toArray, List.getElem_cons_zero, List.getElem_cons_succ, List.setIfInBounds_toArray, List.set_cons_zero, List.set_cons_succ]
    refine wpAnyH_done (by kernel_rfl) ?_ _
    go_wp2_with fail
    go_meet
    exact ⟨rfl, HB3.out⟩
  case rest =>
    obtain ⟨rfl, HB3⟩ := hcut
    obtain ⟨V3, hV3⟩ : ∃ W, W = wc := ⟨_, rfl⟩
    subst hV3
    clear g0 n0 n1 n2 n3 n4 n5 hVa hV2 o0 of0 o1 of1 o2 of2 o3 of3 o4 of4 o5 of5 HMC hnur p0 m3 m4
    obtain ⟨cB, hcB⟩ : ∃ z, (if macA L (d.names.getD 0 .empty) ≠ (i : Int) then c.badN i else c) = z := ⟨_, rfl⟩
    have hcBv : cB.vars = c.vars := by rw [← hcB]; split <;> rfl
    have HCM : Hid (ckM L c i = { ckB L (ckS L 61) (ckP i d.names.tail d.types { cB with vars := [] }) ((kidsOf L i).getD 0 0) with vars := c.vars }) := by show _ = _; unfold ckM; simp only; rw [HD.out, hcB]
    have HCB := hide hcB
    have HCBV := hide hcBv
    clear hcB hcBv
    go_upto_if 24 with fail
    go_cut [24] from 25 to 35 (fun _ wx => Hid (CkA w0 wx C (.slice (some ⟨tb, tq, none⟩) L.length tc) cB vv U ∧ Gw (· = C) V wx ∧ Blk wx V.heap.size 42 #[.int .i64 d.kind, .int .i64 d.n, .slice a1 d.text.size c1, .slice (some ⟨nb, no, none⟩) d.names.length c2, .slice a3 d.types.length c3, .int .i64 d.count]))
    case first =>
      have hA3 := HA2.out.below HB3.out
      have hG3 : Gw (· = C) V V3 := Gw.of_below (HBl.out.trans (HB3.out.mono HBl.out.size))
      have hC3 := HCp.out.below HB3.out
      have HA3 := hide hA3
      have HG3 := hide hG3
      have HC3 := hide hC3
      by_cases qj : J = (i : Int)
      · have HE : Hid (cB = c) := by show _ = _; rw [← HCB.out, HNM.out, HJ.out, if_neg (fun h => h qj)]
        have t1 : (J != (i : Int)) = false := by rw [qj]; simp
        clear hA3 hG3 hC3 qj
        go_wp2_with fail
        go_meet
        exact ⟨by rw [HE.out]; exact HA3.out, HG3.out, HC3.out⟩
      · have HE : Hid (cB = c.badN i) := by show _ = _; rw [← HCB.out, HNM.out, HJ.out, if_pos qj]
        have t1 : (J != (i : Int)) = true := by rw [bne_iff_ne]; exact qj
        have y2 := hA3.blk.cell 2
        have yf2 := hA3.blk.frozen 2
        simp only [List.getElem?_toArray, List.getElem?_cons_succ, List.getElem?_cons_zero] at y2
        have HS := hide (hA3.setN (fstI c.names i))
        have HFI := hide (l3first_any c.names i V3)
        obtain ⟨FF, hFF⟩ : ∃ z, fstI c.names i = z := ⟨_, rfl⟩
        have HE2 : Hid (c.badN i = { c with names := FF }) := by show _ = _; rw [← hFF]; rfl
        rw [hFF] at HS HFI
        clear hA3 hG3 hC3 qj hFF
        go_wp2_with fail
        refine HFI.out.mono ?_
        rintro r w' ⟨rfl, rfl⟩
        go_wp2_with fail
        go_meet
        exact ⟨by rw [HE.out, HE2.out]; exact HS.out, HG3.out.trans (Gw.set _ _ _ _) (fun _ _ q => q), (Gw.set _ _ _ _).blk HC3.out (fun q => by have := HVC.out; omega)⟩
    case rest =>
      obtain ⟨V4, hV4⟩ : ∃ W, W = wc := ⟨_, rfl⟩
      subst hV4
      have HA4 := hide hcut.out.1
      have HG4 := hide hcut.out.2.1
      have HC4 := hide hcut.out.2.2
      have y1 := hcut.out.1.blk.cell 1
      have yf1 := hcut.out.1.blk.frozen 1
      simp only [List.getElem?_toArray, List.getElem?_cons_succ, List.getElem?_cons_zero] at y1
      obtain ⟨va, cap, hvv, hcap, hob⟩ := hcut.out.1.own
      rw [HCBV.out] at hvv hcap
      obtain ⟨vl, hvl⟩ : ∃ z, c.vars.length = z := ⟨_, rfl⟩
      rw [hvl] at hvv hcap
      subst hvv
      have HOB := hide hob
      have HVL := hide hvl
      clear hcut hob hvl HB3
      obtain ⟨V5, hV5⟩ : ∃ W, V4.setCell ⟨C, 1, none⟩ (.slice none 0 0) = W := ⟨_, rfl⟩
      have hA5 : CkA w0 V5 C (.slice (some ⟨tb, tq, none⟩) L.length tc) { cB with vars := [] } (.slice none 0 0) [] := by
        rw [← hV5]
        exact ⟨HA4.out.blk.set 1 _, VO.nil _ _ _, HA4.out.bl.setCell HA4.out.lo _, HA4.out.lo⟩
      have HA5 := hide hA5
      have HG5 : Hid (Gw (· = C) V4 V5) := by show Gw _ _ _; rw [← hV5]; exact Gw.set _ _ _ _
      have hC5 : Blk V5 V.heap.size _ _ := HG5.out.blk HC4.out (fun q => by have := HVC.out; omega)
      have HC5 := hide hC5
      obtain ⟨R, hRR⟩ : ∃ R, ckP i d.names.tail d.types { cB with vars := [] } = R := ⟨_, rfl⟩
      have HRR := hide hRR
      rw [hRR] at HCM
      have HCL : Hid (C < V5.heap.size ∧ V.heap.size < V5.heap.size) := ⟨HA5.out.blk.lt, hC5.lt⟩
      have HTN : Hid (d.names.tail.length = d.types.length) := by show _ = _; rw [List.length_tail]; have := HNL.out; omega
      obtain ⟨PN, hPN⟩ : ∃ z, d.names.tail = z := ⟨_, rfl⟩
      have HPN := hide hPN
      rw [hPN] at HRR HTN
      clear hA5 hC5 hRR hPN
      go_wp2_with fail
      go_loopw [6] (fun ix wr => ∃ k m : Nat, m ≤ d.types.length ∧ Hid (k = m + 1) ∧ ix = .int .i64 (k : Int) ∧ ∃ cc vr Ur, Hid (ckP i (PN.drop m) (d.types.drop m) cc = R ∧ cc.vars.length = m ∧ CkA w0 wr C (.slice (some ⟨tb, tq, none⟩) L.length tc) cc vr Ur ∧ Gw (CkX C (.slice none 0 0)) V5 wr ∧ CkM V5 (.slice none 0 0) vr)) (fun ix _ => d.types.length + 1 - (intOf ix).toNat)
      case atStart => exact ⟨1, 0, Nat.zero_le _, rfl, by go_num, _, _, _, by rw [List.drop_zero, List.drop_zero]; exact HRR.out, rfl, HA5.out, Gw.refl _ _, CkM.refl _ _⟩
      case round =>
        obtain ⟨k, m, hm, HKM, rfl, cc, vr, Ur, HI⟩ := hrel
        rename World => V6
        have hC6 := HI.out.2.2.2.1.blk HC5.out (fun q => by
          have := HCL.out
          have := HVC.out
          rcases q with q | q
          · omega
          · cases q)
        have w3 := hC6.cell 3
        have w4 := hC6.cell 4
        simp only [List.getElem?_toArray, List.getElem?_cons_succ, List.getElem?_cons_zero] at w3 w4
        have HC6 := hide hC6
        clear hC6
        have hm10 : m ≤ 10 := Nat.le_trans hm HTL.out
        by_cases hlt : m < d.types.length
        · have hlti : (k : Int) < (d.names.length : Int) := by have := HNL.out; have := HKM.out; omega
          obtain ⟨_, b', o', cc', f1, f2, f3⟩ := HNV.out.names
          injection f1 with f1 _ f4
          have f2 := f2 hn0
          rw [f2] at f1
          injection f1 with f1
          injection f1 with f1 f5
          subst f1 f5
          obtain ⟨uk, huk, hbk⟩ := f3 (m + 1) (by have := HNL.out; omega)
          rw [← HKM.out] at huk
          have hmem : d.names.getD (m + 1) .empty ∈ d.names := by
            have h1 : m + 1 < d.names.length := by have := HNL.out; omega
            rw [List.getD_eq_getElem?_getD, List.getElem?_eq_getElem h1]; exact List.getElem_mem h1
          have hkz := HNZ.out _ hmem
          have etl : PN.drop m = d.names.getD (m + 1) .empty :: PN.drop (m + 1) := by
            have h1 : m < d.names.tail.length := by rw [HPN.out, HTN.out]; exact hlt
            have h2 : m + 1 < d.names.length := by have := HNL.out; omega
            rw [← HPN.out, List.drop_eq_getElem_cons h1, List.getElem_tail, List.getD_eq_getElem?_getD, List.getElem?_eq_getElem h2]
            rfl
          have ety : d.types.drop m = d.types.getD m 0 :: d.types.drop (m + 1) := by
            rw [List.drop_eq_getElem_cons hlt, List.getD_eq_getElem?_getD, List.getElem?_eq_getElem hlt]
            rfl
          obtain ⟨nk, hnk⟩ : ∃ z, d.names.getD (m + 1) .empty = z := ⟨_, rfl⟩
          obtain ⟨tk, htk⟩ : ∃ z, d.types.getD m 0 = z := ⟨_, rfl⟩
          rw [hnk] at hbk hkz etl
          obtain ⟨b3, o3, hb3, hc3⟩ : ∃ b3 o3, a3 = some ⟨b3, o3, none⟩ ∧ w0.cell? ⟨b3, o3 + m, none⟩ = some (.int .i64 tk) := by
            obtain ⟨_, b3, o3, cc3, g1, g2, g3⟩ := HNV.out.types
            injection g1 with g1 _ g4
            have g2 := g2 (by omega)
            rw [g2] at g1
            have g3 := g3 m hlt
            rw [htk] at g3
            exact ⟨b3, o3, g1, g3⟩
          rw [htk] at ety
          subst hb3
          have huk6 := cell_kept huk HI.out.2.2.1.bl
          have hty6 := cell_kept hc3 HI.out.2.2.1.bl
          have HBK := hide hbk
          have HUW : Hid (nb < w0.heap.size ∧ b3 < w0.heap.size) := ⟨World.block_lt_of_cell? _ _ huk, World.block_lt_of_cell? _ _ hc3⟩
          -- is the name there already?
          have hvf := vrT_find cc.vars nk cc.vars.length (Nat.le_refl _)
          rw [List.take_of_length_le (Nat.le_refl _)] at hvf
          have hfr := fdI_rng (cc.vars.map vrOf) nk cc.vars.length
          have hvlen : (cc.vars.map vrOf).length = cc.vars.length := List.length_map _
          have HFD := hide (fun j => by
            have h := l3find_any (below_drewN HI.out.2.2.1.bl j) (HI.out.2.2.1.below (below_drewN (Below.refl _ _) j)).vo HBK.out (by rw [hvlen, HI.out.2.1]; omega)
            rw [hvlen] at h
            exact h)
          obtain ⟨FD, hFD⟩ : ∃ z, fdI (cc.vars.map vrOf) nk cc.vars.length = z := ⟨_, rfl⟩
          simp only [hFD] at HFD
          rw [hFD] at hvf hfr
          have HSM : Hid (decide (0 ≤ FD) = (vrT cc.vars nk).isSome) := by
            show _ = _
            cases hx : vrT cc.vars nk with
            | none =>
              have := hvf.1.1 hx
              rw [this]; rfl
            | some t =>
              obtain ⟨j, hj, _⟩ := hvf.2 t hx
              rw [hj]
              exact decide_eq_true (by omega)
          obtain ⟨bb, hbb⟩ : ∃ b, (vrT cc.vars nk).isSome = b := ⟨_, rfl⟩
          rw [hbb] at HSM
          have HBB := hide hbb
          obtain ⟨cD, hcD⟩ : ∃ z, (if (vrT cc.vars nk).isSome then cc.badN i else cc) = z := ⟨_, rfl⟩
          have hcDv : cD.vars = cc.vars := by rw [← hcD]; split <;> rfl
          have HST : Hid (ckP i (PN.drop (m + 1)) (d.types.drop (m + 1)) { cD with vars := cD.vars ++ [(nk, tk)] } = R) := by
            show _ = _
            have h1 := HI.out.1
            rw [etl, ety, ckP, hcD] at h1
            rw [hcDv]
            exact h1
          have HCD := hide hcD
          have HCDV := hide hcDv
          have HKZ := hide hkz
          obtain ⟨xa, xb, xo, xc, rfl, _, _⟩ := hbk
          obtain ⟨ya, yc, hvr, hyc, hyb⟩ := HI.out.2.2.1.own
          rw [HI.out.2.1] at hvr hyc
          subst hvr
          have HYB := hide hyb
          have k1 := HI.out.2.2.1.blk.cell 1
          simp only [List.getElem?_toArray, List.getElem?_cons_succ, List.getElem?_cons_zero] at k1
          have hsub : (k : Int) - 1 = (m : Int) := by have := HKM.out; omega
          have hwr : IntKind.i64.wrap ((m : Nat) : Int) = (m : Int) := by rw [IntKind.wrap_i64]; omega
          have hk11 : k ≤ 11 := by have := HKM.out; omega
          have hlti2 : (m : Int) < (d.types.length : Int) := by omega
          clear f2 f3 huk hmem etl ety hnk htk hc3 hvf hfr hvlen hFD hcD hcDv hkz hyb hbb
          go_upto_region 7 with fail
          go_cut [58] from 48 to 57 (fun s58 wx => s58 = .bool bb ∧ ∃ j, wx = V6.drewN j)
          case first =>
            go_quiet ((go_at_call 28; exact Calls.quiet_of (HFD.out _)))
            go_wp2_with fail
            go_meet
            exact ⟨by rw [← HSM.out], _, rfl⟩
          case rest =>
            obtain ⟨rfl, jj, hwj⟩ := hcut
            obtain ⟨V7, hV7⟩ : ∃ W, W = wc := ⟨_, rfl⟩
            subst hV7
            have hb7 : Below V6.heap.size V6 V7 := by rw [hwj]; exact below_drewN (Below.refl _ _) _
            have HB7 := hide hb7
            clear hwj HFD
            go_upto_if 58 with fail
            go_cut [58] from 59 to 67 (fun _ wx => Hid (CkA w0 wx C (.slice (some ⟨tb, tq, none⟩) L.length tc) cD (.slice ya m yc) Ur ∧ Gw (· = C) V6 wx))
            case first =>
              have hA7 := HI.out.2.2.1.below hb7
              have HA7 := hide hA7
              cases bb with
              | false =>
                have HE : Hid (cD = cc) := by show _ = _; rw [← HCD.out, HBB.out]; rfl
                clear hA7 hb7
                go_wp2_with fail
                go_meet
                exact ⟨by rw [HE.out]; exact HA7.out, Gw.of_below HB7.out⟩
              | true =>
                have HE : Hid (cD = cc.badN i) := by show _ = _; rw [← HCD.out, HBB.out]; rfl
                have y2 := hA7.blk.cell 2
                have yf2 := hA7.blk.frozen 2
                simp only [List.getElem?_toArray, List.getElem?_cons_succ, List.getElem?_cons_zero] at y2
                have HS := hide (hA7.setN (fstI cc.names i))
                have HFI := hide (l3first_any cc.names i V7)
                obtain ⟨FF, hFF⟩ : ∃ z, fstI cc.names i = z := ⟨_, rfl⟩
                have HE2 : Hid (cc.badN i = { cc with names := FF }) := by show _ = _; rw [← hFF]; rfl
                rw [hFF] at HS HFI
                clear hA7 hb7 hFF
                go_wp2_with fail
                refine HFI.out.mono ?_
                rintro r w' ⟨rfl, rfl⟩
                go_wp2_with fail
                go_meet
                exact ⟨by rw [HE.out, HE2.out]; exact HS.out, (Gw.of_below (P := (· = C)) HB7.out).trans (Gw.set _ _ _ _) (fun _ _ q => q)⟩
            case rest =>
              obtain ⟨V8, hV8⟩ : ∃ W, W = wc := ⟨_, rfl⟩
              subst hV8
              have HA8 := hide hcut.out.1
              have HG8 := hide hcut.out.2
              have v1 := hcut.out.1.blk.cell 1
              simp only [List.getElem?_toArray, List.getElem?_cons_succ, List.getElem?_cons_zero] at v1
              have c3k := hcut.out.2.cell w3 (fun q => by have q : V.heap.size = C := q; have := HVC.out; omega)
              have c4k := hcut.out.2.cell w4 (fun q => by have q : V.heap.size = C := q; have := HVC.out; omega)
              have cnk := hcut.out.2.cell huk6 (fun q => by have q : nb = C := q; have := HUW.out; have := HI.out.2.2.1.lo; omega)
              have ctk := hcut.out.2.cell hty6 (fun q => by have q : b3 = C := q; have := HUW.out; have := HI.out.2.2.1.lo; omega)
              have hcl : cD.vars.length = m := by rw [HCDV.out]; exact HI.out.2.1
              have HCL8 := hide hcl
              have HYB8 : Hid (∀ k, Value.ownBlock (.slice ya m yc) = some k → V5.heap.size ≤ k) := fun k hk => by
                rcases HI.out.2.2.2.2 with q | ⟨b, q, hb⟩
                · rw [q] at hk; cases hk
                · rw [q] at hk; injection hk with hk; omega
              have v1a := cell_kept v1 ((Below.refl V8.heap.size V8).alloc (Nat.le_refl _) (.cells #[.slice xa nk.size xc, .int .i64 tk, .int .i64 0, .int .i64 0, .string ⟨#[]⟩] 67))
              clear hcut hcl hb7 k1 w3 w4 huk6 hty6 HB7
              go_wp2_with fail
              refine wp_region_held_drew (S := fun X0 => Hid (X0.cell? ⟨V.heap.size, 3, none⟩ = some (.slice (some ⟨nb, no, none⟩) d.names.length c2) ∧ X0.cell? ⟨V.heap.size, 4, none⟩ = some (.slice (some ⟨b3, o3, none⟩) d.types.length c3) ∧ X0.cell? ⟨nb, no + k, none⟩ = some (.slice xa nk.size xc) ∧ X0.cell? ⟨b3, o3 + m, none⟩ = some (.int .i64 tk))) (by kernel_rfl) (⟨c3k, c4k, cnk, ctk⟩) (fun hHeld => ?_)
              refine wpAnyH_take (i := 0) (v := ?_) rfl (by kernel_rfl) (by kernel_rfl) (by kernel_rfl) (fun _ _ _ h => h) (Or.inl ⟨by rfl, ?_⟩) hHeld ?_
              rotate_left 1
              · intro Wx hSW; simp only [List.getElem_toArray, List.getElem_cons_zero]; go_simp; try with_reducible rfl
              try simp only [Act.put, List.getElem_toArray, List.getElem_cons_zero, List.setIfInBounds_toArray, List.set_cons_zero, List.set_cons_succ]
              refine wpAnyH_take (i := 1) (v := ?_) rfl (by kernel_rfl) (by kernel_rfl) (by kernel_rfl) (fun _ _ _ h => h) (Or.inl ⟨by rfl, ?_⟩) hHeld ?_
              rotate_left 1
              · intro Wx hSW; simp only [List.getElem_toArray, List.getElem_cons_zero, List.getElem_cons_succ]; go_simp; try with_reducible rfl
              try simp only [Act.put, List.getElem_toArray, List.getElem_cons_zero, List.getElem_cons_succ, List.setIfInBounds_toArray, List.set_cons_zero, List.set_cons_succ]
              refine wpAnyH_take (i := 2) (v := ?_) rfl (by kernel_rfl) (by kernel_rfl) (by kernel_rfl) (fun _ _ _ h => h) (Or.inl ⟨by rfl, ?_⟩) hHeld ?_
              rotate_left 1
              · intro Wx hSW; simp only [List.getElem_toArray, List.getElem_cons_zero, List.getElem_cons_succ]; go_simp; try with_reducible rfl
              try simp only [Act.put, List.getElem_toArray, List.getElem_cons_zero, List.getElem_cons_succ, List.setIfInBounds_toArray, List.set_cons_zero, List.set_cons_succ]
              refine wpAnyH_take (i := 3) (v := ?_) rfl (by kernel_rfl) (by kernel_rfl) (by kernel_rfl) (fun _ _ _ h => h) (Or.inl ⟨by rfl, ?_⟩) hHeld ?_
              rotate_left 1
              · intro Wx hSW; simp only [List.getElem_toArray, List.getElem_cons_zero, List.getElem_cons_succ]; go_simp; try with_reducible rfl
              try simp only [Act.put, List.getElem_toArray, List.getElem_cons_zero, List.getElem_cons_succ, List.setIfInBounds_toArray, List.set_cons_zero, List.set_cons_succ]
              refine wpAnyH_take (i := 5) (v := ?_) rfl (by kernel_rfl) (by kernel_rfl) (by kernel_rfl) (fun _ _ _ h => h) (Or.inl ⟨by rfl, ?_⟩) hHeld ?_
              rotate_left 1
              · intro Wx hSW; simp only [List.getElem_toArray, List.getElem_cons_zero, List.getElem_cons_succ]; go_simp; try with_reducible rfl
              try simp only [Act.put, List.getElem_toArray, List.getElem_cons_zero, List.getElem_cons_succ, List.setIfInBounds_toArray, List.set_cons_zero, List.set_cons_succ]
              refine wpAnyH_take (i := 6) (v := ?_) rfl (by kernel_rfl) (by kernel_rfl) (by kernel_rfl) (fun _ _ _ h => h) (Or.inl ⟨by rfl, ?_⟩) hHeld ?_
              rotate_left 1
              · intro Wx hSW; simp only [List.getElem_toArray, List.getElem_cons_zero, List.getElem_cons_succ]; obtain ⟨z0, z1, z2, z3⟩ := hSW.out; go_simp; try with_reducible rfl
              try simp only [Act.put, List.getElem_toArray, List.getElem_cons_zero, List.getElem_cons_succ, List.setIfInBounds_toArray, List.set_cons_zero, List.set_cons_succ]
              refine wpAnyH_take (i := 7) (v := ?_) rfl (by kernel_rfl) (by kernel_rfl) (by kernel_rfl) (fun _ _ _ h => h) (Or.inl ⟨by rfl, ?_⟩) hHeld ?_
              rotate_left 1
              · intro Wx hSW; simp only [List.getElem_toArray, List.getElem_cons_zero, List.getElem_cons_succ]; go_simp; try with_reducible rfl
              try simp only [Act.put, List.getElem_toArray, List.getElem_cons_zero, List.getElem_cons_succ, List.setIfInBounds_toArray, List.set_cons_zero, List.set_cons_succ]
              refine wpAnyH_take (i := 8) (v := ?_) rfl (by kernel_rfl) (by kernel_rfl) (by kernel_rfl) (fun _ _ _ h => h) (Or.inl ⟨by rfl, ?_⟩) hHeld ?_
              rotate_left 1
              · intro Wx hSW; simp only [List.getElem_toArray, List.getElem_cons_zero, List.getElem_cons_succ]; go_simp; try with_reducible rfl
              try simp only [Act.put, List.getElem_toArray, List.getElem_cons_zero, List.getElem_cons_succ, List.setIfInBounds_toArray, List.set_cons_zero, List.set_cons_succ]
              refine wpAnyH_take (i := 9) (v := ?_) rfl (by kernel_rfl) (by kernel_rfl) (by kernel_rfl) (fun _ _ _ h => h) (Or.inl ⟨by rfl, ?_⟩) hHeld ?_
              rotate_left 1
              · intro Wx hSW; simp only [List.getElem_toArray, List.getElem_cons_zero, List.getElem_cons_succ]; obtain ⟨z0, z1, z2, z3⟩ := hSW.out; go_simp; try with_reducible rfl
              try simp only [Act.put, List.getElem_toArray, List.getElem_cons_zero, List.getElem_cons_succ, List.setIfInBounds_toArray, List.set_cons_zero, List.set_cons_succ]
              refine wpAnyH_take (i := 10) (v := ?_) rfl (by kernel_rfl) (by kernel_rfl) (by kernel_rfl) (fun _ _ _ h => h) (Or.inl ⟨by rfl, ?_⟩) hHeld ?_
              rotate_left 1
              · intro Wx hSW; simp only [List.getElem_toArray, List.getElem_cons_zero, List.getElem_cons_succ]; go_simp; try with_reducible rfl
              try simp only [Act.put, List.getElem_toArray, List.getElem_cons_zero, List.getElem_cons_succ, List.setIfInBounds_toArray, List.set_cons_zero, List.set_cons_succ]
              refine wpAnyH_take (i := 11) (v := ?_) rfl (by kernel_rfl) (by kernel_rfl) (by kernel_rfl) (fun _ _ _ h => h) (Or.inl ⟨by rfl, ?_⟩) hHeld ?_
              rotate_left 1
              · intro Wx hSW; simp only [List.getElem_toArray, List.getElem_cons_zero, List.getElem_cons_succ]; obtain ⟨z0, z1, z2, z3⟩ := hSW.out; go_simp; try with_reducible rfl
              try simp only [Act.put, List.getElem_toArray, List.getElem_cons_zero, List.getElem_cons_succ, List.setIfInBounds_toArray, List.set_cons_zero, List.set_cons_succ]
              refine wpAnyH_take (i := 12) (v := ?_) rfl (by kernel_rfl) (by kernel_rfl) (by kernel_rfl) (fun _ _ _ h => h) (Or.inl ⟨by rfl, ?_⟩) hHeld ?_
              rotate_left 1
              · intro Wx hSW; simp only [List.getElem_toArray, List.getElem_cons_zero, List.getElem_cons_succ]; go_simp; try with_reducible rfl
              try simp only [Act.put, List.getElem_toArray, List.getElem_cons_zero, List.getElem_cons_succ, List.setIfInBounds_toArray, List.set_cons_zero, List.set_cons_succ]
              refine wpAnyH_take (i := 13) (v := ?_) rfl (by kernel_rfl) (by kernel_rfl) (by kernel_rfl) (fun _ _ _ h => h) (Or.inl ⟨by rfl, ?_⟩) hHeld ?_
              rotate_left 1
              · intro Wx hSW; simp only [List.getElem_toArray, List.getElem_cons_zero, List.getElem_cons_succ]; go_simp; try with_reducible rfl
              try simp only [Act.put, List.getElem_toArray, List.getElem_cons_zero, List.getElem_cons_succ, List.setIfInBounds_toArray, List.set_cons_zero, List.set_cons_succ]
              refine wpAnyH_take (i := 14) (v := ?_) rfl (by kernel_rfl) (by kernel_rfl) (by kernel_rfl) (fun _ _ _ h => h) (Or.inl ⟨by rfl, ?_⟩) hHeld ?_
              rotate_left 1
              · intro Wx hSW; simp only [List.getElem_toArray, List.getElem_cons_zero, List.getElem_cons_succ]; go_simp; try with_reducible rfl
              try simp only [Act.put, List.getElem_toArray, List.getElem_cons_zero, List.getElem_cons_succ, List.setIfInBounds_toArray, List.set_cons_zero, List.set_cons_succ]
              refine wpAnyH_take (i := 15) (v := ?_) rfl (by kernel_rfl) (by kernel_rfl) (by kernel_rfl) (fun _ _ _ h => h) (Or.inl ⟨by rfl, ?_⟩) hHeld ?_
              rotate_left 1
              · intro Wx hSW; simp only [List.getElem_toArray, List.getElem_cons_zero, List.getElem_cons_succ]; obtain ⟨z0, z1, z2, z3⟩ := hSW.out; go_simp; try with_reducible rfl
              try simp only [Act.put, List.getElem_toArray, List.getElem_cons_zero, List.getElem_cons_succ, List.setIfInBounds_toArray, List.set_cons_zero, List.set_cons_succ]
              refine wpAnyH_take (i := 16) (v := ?_) rfl (by kernel_rfl) (by kernel_rfl) (by kernel_rfl) (fun _ _ _ h => h) (Or.inl ⟨by rfl, ?_⟩) hHeld ?_
              rotate_left 1
              · intro Wx hSW; simp only [List.getElem_toArray, List.getElem_cons_zero, List.getElem_cons_succ]; go_simp; try with_reducible rfl
              try simp only [Act.put, List.getElem_toArray, List.getElem_cons_zero, List.getElem_cons_succ, List.setIfInBounds_toArray, List.set_cons_zero, List.set_cons_succ]
              apply key_rest
              · intro HKEY
                refine wpAnyH_ready (rs := [4, 17]) (by kernel_rfl) (by simp) ?_
                refine AllReadyH.cons rfl (fun K hK => ?_) (AllReadyH.cons rfl (fun K hK => ?_) AllReadyH.nil)
                · go_simp
                  refine hK.out _ _ (hHeld) (fun hHeld => ?_)
                  clear hK K
                  try simp only [Act.put, List.getElem_toArray, List.getElem_cons_zero, List.getElem_cons_succ, List.setIfInBounds_toArray, List.set_cons_zero, List.set_cons_succ]
                  refine wpAnyH_ready (rs := [17]) (by kernel_rfl) (by simp) ?_
                  refine AllReadyH.cons rfl (fun K hK => ?_) AllReadyH.nil
                  go_simp
                  refine hK.out _ _ (⟨cell_kept hHeld.out.1 ((Below.refl _ _).alloc (Nat.le_refl _) _), cell_kept hHeld.out.2.1 ((Below.refl _ _).alloc (Nat.le_refl _) _), cell_kept hHeld.out.2.2.1 ((Below.refl _ _).alloc (Nat.le_refl _) _), cell_kept hHeld.out.2.2.2 ((Below.refl _ _).alloc (Nat.le_refl _) _)⟩) (fun hHeld => ?_)
                  clear hK K
                  try simp only [Act.put, List.getElem_toArray, List.getElem_cons_zero, List.getElem_cons_succ, List.setIfInBounds_toArray, List.set_cons_zero, List.set_cons_succ]
                  exact HKEY.out
                · go_simp
                  refine hK.out _ _ (⟨cell_kept hHeld.out.1 ((Below.refl _ _).alloc (Nat.le_refl _) _), cell_kept hHeld.out.2.1 ((Below.refl _ _).alloc (Nat.le_refl _) _), cell_kept hHeld.out.2.2.1 ((Below.refl _ _).alloc (Nat.le_refl _) _), cell_kept hHeld.out.2.2.2 ((Below.refl _ _).alloc (Nat.le_refl _) _)⟩) (fun hHeld => ?_)
                  clear hK K
                  try simp only [Act.put, List.getElem_toArray, List.getElem_cons_zero, List.getElem_cons_succ, List.setIfInBounds_toArray, List.set_cons_zero, List.set_cons_succ]
                  refine wpAnyH_ready (rs := [4]) (by kernel_rfl) (by simp) ?_
                  refine AllReadyH.cons rfl (fun K hK => ?_) AllReadyH.nil
                  go_simp
                  refine hK.out _ _ (hHeld) (fun hHeld => ?_)
                  clear hK K
                  try simp only [Act.put, List.getElem_toArray, List.getElem_cons_zero, List.getElem_cons_succ, List.setIfInBounds_toArray, List.set_cons_zero, List.set_cons_succ]
                  exact HKEY.out
              obtain ⟨W5, hW5⟩ : ∃ W, (World.alloc V8 (.cells #[.slice xa nk.size xc, .int .i64 tk, .int .i64 0, .int .i64 0, .string ⟨#[]⟩] 67)).drew = W := ⟨_, rfl⟩
              have hb5 : Below V8.heap.size V8 W5 := by rw [← hW5]; exact ((Below.refl _ _).alloc (Nat.le_refl _) _).drew
              have hA5' := HA8.out.below hb5
              have HA5' := hide hA5'
              have hO5 := hA5'.vo.own
              rw [List.length_map, HCL8.out] at hO5
              have HO5 := hide hO5
              have hbk : Blk W5 V8.heap.size 67 #[.slice xa nk.size xc, .int .i64 tk, .int .i64 0, .int .i64 0, .string ⟨#[]⟩] := by rw [← hW5]; exact Blk.new _ _ _
              have HBk := hide (Cs.of_blk hbk)
              have hsz : C + 1 ≤ W5.heap.size := by have := hA5'.blk.lt; omega
              have hn10 : m + 1 ≤ 10000000 := by omega
              have HB5' := hide hb5
              have HX1 := hide (And.intro (cell_kept c3k hb5) (And.intro (cell_kept c4k hb5) (And.intro (cell_kept cnk hb5) (cell_kept ctk hb5))))
              rw [hW5]
              clear hA5' hO5 hbk hb5 hW5 hHeld
              refine wpAnyH_ready (rs := [18]) (by kernel_rfl) (by simp) ?_
              refine AllReadyH.cons rfl (fun K hK => ?_) AllReadyH.nil
              refine step_appGVr rfl (.tmp 72) (.tmp 85) rfl (C + 1) _ _ _ rfl HO5.out V8.heap.size 0 1 1 ((vrOf (nk, tk)).cs (.slice xa nk.size xc)) rfl rfl (fun j u hj => by rw [Nat.zero_add]; exact HBk.out j u hj) (fun u hu => ?_) hn10 hsz ?_
              · rcases List.mem_cons.1 hu with rfl | hu
                · rfl
                · rcases List.mem_cons.1 hu with rfl | hu
                  · rfl
                  · rcases List.mem_cons.1 hu with rfl | hu
                    · rfl
                    · rcases List.mem_cons.1 hu with rfl | hu
                      · rfl
                      · rw [List.mem_singleton.1 hu]; rfl
              intro v' V9 hown hgr hat
              obtain ⟨v6a, v6c, rfl⟩ := own_sl hown
              have HA9 := hide (HA5'.out.app HCL8.out HBK.out (by have := HKZ.out; show nk.size ≤ _; omega) hown hgr)
              have hG6 : Gw (fun k => Value.ownBlock (.slice ya m yc) = some k) W5 V9 := Gw.of_grown hgr (fun _ hk _ => hk)
              have hbl6 := hG6.blk HA5'.out.blk (fun q => by have := (HA5'.out.vo.own.lt _ q).1; omega)
              have u1 := hbl6.cell 1
              have uf1 := hbl6.frozen 1
              simp only [List.getElem?_toArray, List.getElem?_cons_succ, List.getElem?_cons_zero] at u1
              have HG6 := hide hG6
              have HAT := hide hat
              clear hown hgr hat hG6 hbl6 HO5 HBk hsz hn10
              refine hK.out _ _ (⟨HG6.out.cell HX1.out.1 (fun q => by have q : Value.ownBlock _ = some V.heap.size := q; have := HYB8.out _ q; have := HCL.out; omega), HG6.out.cell HX1.out.2.1 (fun q => by have q : Value.ownBlock _ = some V.heap.size := q; have := HYB8.out _ q; have := HCL.out; omega), HG6.out.cell HX1.out.2.2.1 (fun q => by have q : Value.ownBlock _ = some nb := q; have := HYB8.out _ q; have := HUW.out; have := HI.out.2.2.1.lo; have := HCL.out; omega), HG6.out.cell HX1.out.2.2.2 (fun q => by have q : Value.ownBlock _ = some b3 := q; have := HYB8.out _ q; have := HUW.out; have := HI.out.2.2.1.lo; have := HCL.out; omega)⟩) (fun hHeld => ?_)
              clear hK K
              try simp only [Act.put, List.getElem_toArray, List.getElem_cons_zero, List.getElem_cons_succ, List.setIfInBounds_toArray, List.set_cons_zero, List.set_cons_succ]
              refine wpAnyH_take (i := 19) (v := ?_) rfl (by kernel_rfl) (by kernel_rfl) (by kernel_rfl) (fun _ _ _ h => h) (Or.inl ⟨by rfl, ?_⟩) hHeld ?_
              rotate_left 1
              · intro Wx hSW; simp only [List.getElem_toArray, List.getElem_cons_zero, List.getElem_cons_succ]; go_simp; try with_reducible rfl
              try simp only [Act.put, List.getElem_toArray, List.getElem_cons_zero, List.getElem_cons_succ, List.setIfInBounds_toArray, List.set_cons_zero, List.set_cons_succ]
              refine wpAnyH_take (i := 20) (v := ?_) rfl (by kernel_rfl) (by kernel_rfl) (by kernel_rfl) (fun _ _ _ h => h) (Or.inl ⟨by rfl, ?_⟩) hHeld ?_
              rotate_left 1
              · intro Wx hSW; simp only [List.getElem_toArray, List.getElem_cons_zero, List.getElem_cons_succ]; go_simp; try with_reducible rfl
              try simp only [Act.put, List.getElem_toArray, List.getElem_cons_zero, List.getElem_cons_succ, List.setIfInBounds_toArray, List.set_cons_zero, List.set_cons_succ]
              refine wpAnyH_ready (rs := [21]) (by kernel_rfl) (by simp) ?_
              refine AllReadyH.cons rfl (fun K hK => ?_) AllReadyH.nil
              go_simp
              refine hK.out _ _ (⟨(Gw.set _ _ _ _).cell hHeld.out.1 (fun q => by have q : V.heap.size = C := q; have := HVC.out; omega), (Gw.set _ _ _ _).cell hHeld.out.2.1 (fun q => by have q : V.heap.size = C := q; have := HVC.out; omega), (Gw.set _ _ _ _).cell hHeld.out.2.2.1 (fun q => by have q : nb = C := q; have := HUW.out; have := HI.out.2.2.1.lo; omega), (Gw.set _ _ _ _).cell hHeld.out.2.2.2 (fun q => by have q : b3 = C := q; have := HUW.out; have := HI.out.2.2.1.lo; omega)⟩) (fun hHeld => ?_)
              clear hK K
              try simp only [Act.put, List.getElem_toArray, List.getElem_cons_zero, List.getElem_cons_succ, List.setIfInBounds_toArray, List.set_cons_zero, List.set_cons_succ]
              refine wpAnyH_done (by kernel_rfl) ?_ _
              have HR9 : Hid (ckP i (PN.drop (m + 1)) (d.types.drop (m + 1)) { cD with vars := cD.vars ++ [(nk, tk)] } = R ∧ ({ cD with vars := cD.vars ++ [(nk, tk)] } : Ck).vars.length = m + 1 ∧ CkA w0 (V9.setCell ⟨C, 1, none⟩ (.slice v6a (m + 1) v6c)) C (.slice (some ⟨tb, tq, none⟩) L.length tc) { cD with vars := cD.vars ++ [(nk, tk)] } (.slice v6a (m + 1) v6c) (Ur ++ [.slice xa nk.size xc]) ∧ Gw (CkX C (.slice none 0 0)) V5 (V9.setCell ⟨C, 1, none⟩ (.slice v6a (m + 1) v6c)) ∧ CkM V5 (.slice none 0 0) (.slice v6a (m + 1) v6c)) := by
                refine ⟨HST.out, by show (cD.vars ++ [(nk, tk)]).length = _; rw [List.length_append, HCL8.out]; rfl, HA9.out, ?_, ?_⟩
                · refine (((HI.out.2.2.2.1.trans HG8.out (fun _ _ q => .inl q)).trans (Gw.of_below (P := CkX C (.slice none 0 0)) HB5'.out) (fun _ _ q => q)).trans HG6.out (fun k hk q => ?_)).trans (Gw.set _ _ _ _) (fun _ _ q => .inl q)
                  have := HYB8.out k q
                  omega
                · rcases HAT.out with q | q
                  · rcases HI.out.2.2.2.2 with p | ⟨b, p, hb⟩
                    · exact .inl (q.trans p)
                    · exact .inr ⟨b, q.trans p, hb⟩
                  · exact .inr ⟨_, q, by have := HB5'.out.size; have := HG8.out.size; have := HI.out.2.2.2.1.size; omega⟩
              clear hHeld HI HG8 HA8 HG6 HAT HB5' HA9 HA5'
              go_wp2
              go_roundw
              case rel => exact ⟨k + 1, m + 1, by omega, by have := HKM.out; show k + 1 = m + 1 + 1; omega, by go_num, _, _, _, HR9⟩
              case measure => have := HKM.out; simp [intOf]; omega
        · obtain rfl : m = d.types.length := by omega
          have hge : ¬ (k : Int) < (d.names.length : Int) := by have := HNL.out; have := HKM.out; omega
          have hrun := HI.out.1
          rw [List.drop_of_length_le (by rw [HTN.out]; exact Nat.le_refl _), List.drop_length, ckP] at hrun
          subst hrun
          have hk1 : (kidsOf L i).length = 1 := by
            have hcnt := (HG.out.fld (by omega)).1
            rw [kids_len]
            rw [HD.out] at hcnt
            rw [HD.out]
            unfold vCnt at hcnt
            rw [HK.out] at hcnt
            simp at hcnt
            omega
          obtain ⟨k0, hkX⟩ : ∃ k0, kidsOf L i = [k0] := by
            match hkk : kidsOf L i, hk1 with
            | [k0], _ => exact ⟨k0, rfl⟩
          have hkg := (HG.out.step (by omega)).2.2.2.2 0 k0 (by rw [hkX]; rfl)
          have hkge := HG.out.kge (by omega) (j := 0) (k := k0) (by rw [hkX]; rfl)
          have hCM := HCM.out
          rw [hkX] at hCM
          have hCM : ckM L c i = { ckB L (ckS L 61) cc k0 with vars := c.vars } := hCM
          have HCM2 := hide hCM
          have HKO := hide (fun W (hb : Below w0.heap.size w0 W) => kids_own (by omega) (by omega) HG.out (HN.out.below hb))
          simp only [hkX] at HKO
          have HCB := hide ((ck_all (C := C) HT.out hL4 HN.out 58 (by omega)).2)
          have HGK := hide hkg.1
          have y0 := HI.out.2.2.1.blk.cell 0
          simp only [List.getElem?_toArray, List.getElem?_cons_zero] at y0
          have HBU : Hid (cc.vars.length + 4000 ≤ 10000 + k0) := by show _ ≤ _; rw [HI.out.2.1]; omega
          have HCC : Hid (C < V6.heap.size) := HI.out.2.2.1.blk.lt
          clear hk1 hkX hkg hkge hCM w4
          have HKO6 := hide (HKO.out V6 HI.out.2.2.1.bl)
          clear HKO
          go_wp2_with fail
          refine HKO6.out.mono ?_
          rintro r V9 ⟨kv, rfl, hks, hb9⟩
          obtain ⟨g, kc', e1, hgB, hcells⟩ := kid_at hks (by show 0 < 1; omega)
          subst e1
          have hcell := hcells 0 k0 rfl
          have hA9 := HI.out.2.2.1.below hb9
          have HBC := hide (HCB.out 61 k0 cc vr Ur V9 (by omega) HGK.out hA9 HBU.out)
          have HB9 := hide hb9
          have HVR : Hid (∀ k, vr.ownBlock = some k → V5.heap.size ≤ k) := fun k hk => by
            rcases HI.out.2.2.2.2 with q | ⟨b, q, hb⟩
            · rw [q] at hk; cases hk
            · rw [q] at hk; injection hk with hk; omega
          obtain ⟨y, hy⟩ : ∃ z, ckB L (ckS L 61) cc k0 = z := ⟨_, rfl⟩
          rw [hy] at HBC HCM2
          clear hks hcells hA9 hb9 hy hgB w3
          go_wp2_with fail
          refine HBC.out.mono ?_
          rintro r V10 ⟨rfl, vv10, U10, hA10, hG10, hM10⟩
          have z1 := hA10.blk.cell 1
          have zf1 := hA10.blk.frozen 1
          simp only [List.getElem?_toArray, List.getElem?_cons_succ, List.getElem?_cons_zero] at z1
          have HA10 := hide hA10
          have HG10 := hide hG10
          clear hA10 hG10 hM10 HBC
          go_wp2
          go_end0
          have hs45 := HG5.out.size
          have hs56 := HI.out.2.2.2.1.size
          have hgs := Gw.set V10 C 1 (.slice va vl cap)
          have hvo : VO w0 (V10.setCell ⟨C, 1, none⟩ (.slice va vl cap)) (C + 1) (.slice va vl cap) (c.vars.map vrOf) U := by
            have h4 := HA4.out.vo
            rw [HCBV.out] at h4
            have hne : ∀ k, Value.ownBlock (.slice va vl cap) = some k → k ≠ C ∧ k < V4.heap.size := fun k hk => by have := HOB.out k hk; omega
            exact ((((h4.gw HG5.out (fun k hk q => (hne k hk).1 q)).gw HI.out.2.2.2.1 (fun k hk q => by
              rcases q with q | q
              · exact (hne k hk).1 q
              · cases q)).gw (Gw.of_below (P := fun _ => False) HB9.out) (fun _ _ q => q)).gw HG10.out (fun k hk q => by
              rcases q with q | q
              · exact (hne k hk).1 q
              · have := HVR.out k q
                have := (hne k hk).2
                omega)).gw hgs (fun k hk q => (hne k hk).1 q)
          rw [HCM2.out]
          refine ⟨rfl, _, U, ⟨HA10.out.blk.set 1 _, hvo, HA10.out.bl.setCell HA10.out.lo _, HA10.out.lo⟩, ?_, CkM.refl _ _⟩
          have hs04 := HG4.out.size
          refine (((((HG4.out.ckx (vv := .slice va vl cap)).trans HG5.out (fun _ _ q => .inl q)).trans HI.out.2.2.2.1 (fun k hk q => ?_)).trans (Gw.of_below (P := CkX C (.slice va vl cap)) HB9.out) (fun _ _ q => q)).trans HG10.out (fun k hk q => ?_)).trans hgs (fun _ _ q => .inl q)
          · rcases q with q | q
            · exact .inl q
            · cases q
          · rcases q with q | q
            · exact .inl q
            · have := HVR.out k q
              omega
end Go.Proofs.YtdlahabeegmjiaaDoor
