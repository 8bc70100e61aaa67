/-
  The walk of impl.newOutline.
-/
import Derived.Test.YtdlahabeegmjiaaDoorJCkIKO
namespace Go.Proofs.YtdlahabeegmjiaaDoor
open Go.RowKit

theorem link_all {w0 : World} {tv : Value} {L : List Nd} {B M : Nat} (hl : L.length ≤ 4000) (hN : NS w0 tv L) (hB0 : w0.heap.size ≤ B) : ∀ f, f ≤ 60 → LkC w0 tv L B M f
  | 0, _ => fun i e V _ he => by cases he
  | f + 1, hf => link_succ hl hN hf hB0 (link_all hl hN hB0 f (by omega))
/-- A valid tree ends with its list. -/
theorem vT_whole {L : List Nd} (h : vT L = true) : sE L.length (cn L) 60 0 = some L.length := by
  obtain ⟨h0, h1, h2, _⟩ := vT_good h
  have h2 : (L.getD 0 .zero).kind = 0 := h2
  rw [vT_end h0 h1 h2, beq_iff_eq] at h
  exact ((bE_sE (okN_nn (L := L)) (st := stN L) 60 (Nat.le_refl _) 0 L.length h0 (by omega)).1 h).1
theorem macL_snoc (L : List Nd) (nm : ByteArray) (a : Nat) : ∀ X, macL L nm (X ++ [a]) = if macL L nm X < 0 then (if (ndA L a).kind = 1 ∧ (ndA L a).names.getD 0 .empty = nm then (a : Int) else -1) else macL L nm X
  | [] => by
    rw [List.nil_append, macL, macL, if_pos (show (-1 : Int) < 0 by decide)]
    rfl
  | x :: X => by
    rw [List.cons_append, macL, macL, macL_snoc L nm a X]
    split
    · rw [if_neg (by omega)]
    · rfl
/-- The outline of a tree. -/
structure OlA (w0 w1 : World) (tv : Value) (L : List Nd) (B M : Nat) : Prop where
  bl : Below w0.heap.size w0 w1
  lo : w0.heap.size ≤ B
  kid : ∀ j, j < L.length → KdR w1 (B + 1) B L j
  mac : ∃ n, MapS w1 M n (macZ L)

set_option maxHeartbeats 4000000 in
set_option maxRecDepth 1000000 in
theorem newOutline_any {w0 : World} {tv : Value} {L : List Nd} (hT : vT L = true) (hN : NS w0 tv L) : Calls Tryd.prog 16 #[tv] w0 fun r w1 => ∃ B M, r = .returned (.agg #[tv, .slice (some ⟨B, 0, none⟩) L.length L.length, .map (some M)]) ∧ OlA w0 w1 tv L B M := by
  obtain ⟨hL0, hL4, hk0, hG⟩ := vT_good hT
  have hwh := vT_whole hT
  have HN := hide hN
  have HT := hide hT
  have hmem := (hG.step (by omega)).2.2.2.2
  have HGD : Hid (∀ (j k : Nat), (kidsOf L 0)[j]? = some k → Gd L 59 k ∧ 0 < k ∧ k < L.length) := fun j k h => ⟨(hmem j k h).1, by have := (hG.kge (by omega) h).1; omega, (hG.kge (by omega) h).2⟩
  have HKL : Hid ((kidsOf L 0).length ≤ L.length) := kds_le (by omega) hG
  obtain ⟨tb, tq, tc, vt, vn, vy, htv, hNC, hNV⟩ := hN.nod hL0
  subst htv
  have hmm := @run_makeMap Tryd.prog
  obtain ⟨w1, hw1⟩ : ∃ W, w0.alloc (.cells #[.slice none 0 0, .slice none 0 0, .map none] 48) = W := ⟨_, rfl⟩
  have hb1 : Below w0.heap.size w0 w1 := by rw [← hw1]; exact (Below.refl _ _).alloc (Nat.le_refl _) _
  have hR1 : Blk w1 w0.heap.size 48 #[.slice none 0 0, .slice none 0 0, .map none] := by rw [← hw1]; exact Blk.new _ _ _
  have hmk := run_make_row' (P := Tryd.prog) 45 33 (.slice none 0 0) 24 Tryd.underlying45 (by kernel_rfl) rfl .i64 .i64 L.length (by omega) (by omega) w1
  have HRI := hide (World.rowIs_made w1 (.slice none 0 0) L.length 33)
  obtain ⟨w2, hw2⟩ : ∃ W, w1.alloc (.cells (madeCells #[.slice none 0 0] L.length) 33) = W := ⟨_, rfl⟩
  have hB2 : Blk w2 w1.heap.size 33 (madeCells #[.slice none 0 0] L.length) := by rw [← hw2]; exact Blk.new _ _ _
  have hb2 : Below w1.heap.size w1 w2 := by rw [← hw2]; exact (Below.refl _ _).alloc (Nat.le_refl _) _
  rw [hw2] at hmk HRI
  have hz2 : w2.heap.size = w1.heap.size + 1 := by rw [← hw2]; exact World.size_alloc _ _
  obtain ⟨w3, hw3⟩ : ∃ W, w2.alloc (.map #[] 0) = W := ⟨_, rfl⟩
  have hb3 : Below w2.heap.size w2 w3 := by rw [← hw3]; exact (Below.refl _ _).alloc (Nat.le_refl _) _
  have hM3 : MapS w3 w2.heap.size 0 (fun _ => 0) := by rw [← hw3]; exact MapS.made w2
  have hz3 : w3.heap.size = w2.heap.size + 1 := by rw [← hw3, World.size_alloc]
  obtain ⟨B, hB⟩ : ∃ B, w1.heap.size = B := ⟨_, rfl⟩
  obtain ⟨M, hM⟩ : ∃ M, w2.heap.size = M := ⟨_, rfl⟩
  obtain ⟨O, hO⟩ : ∃ O, w3.heap.size = O := ⟨_, rfl⟩
  have hRB : w0.heap.size < B := by rw [← hB]; exact hR1.lt
  have HZ : Hid (w0.heap.size < B ∧ M = B + 1 ∧ O = B + 2) := ⟨hRB, by omega, by omega⟩
  obtain ⟨w4, hw4⟩ : ∃ W, w3.alloc (.cells #[.slice (some ⟨tb, tq, none⟩) L.length tc, .slice (some ⟨B, 0, none⟩) L.length L.length, .map (some M)] 48) = W := ⟨_, rfl⟩
  rw [hB] at hmk HRI hB2
  rw [hM] at hM3
  have hb4 : Below w3.heap.size w3 w4 := by rw [← hw4]; exact (Below.refl _ _).alloc (Nat.le_refl _) _
  have hO4 : Blk w4 O 48 #[.slice (some ⟨tb, tq, none⟩) L.length tc, .slice (some ⟨B, 0, none⟩) L.length L.length, .map (some M)] := by rw [← hO, ← hw4]; exact Blk.new _ _ _
  have hM4 := hM3.below hb4
  have hb24 : Below w2.heap.size w2 w4 := hb3.trans (hb4.mono hb3.size)
  have hb14 : Below w1.heap.size w1 w4 := hb2.trans (hb24.mono hb2.size)
  have hb04 : Below w0.heap.size w0 w4 := hb1.trans (hb14.mono hb1.size)
  have hB4 := (Gw.of_below (P := fun _ => False) hb24).blk hB2 (fun q => q)
  have hR4 := (Gw.of_below (P := fun _ => False) hb14).blk hR1 (fun q => q)
  have hcs : (madeCells #[Value.slice none 0 0] L.length).size = L.length := by rw [size_madeCells]
  have hnil : ∀ j, 0 ≤ j → j < L.length → w4.cell? ⟨B, j, none⟩ = some (.slice none 0 0) := fun j _ hj => by
    have h1 := HRI.out.cell hj
    exact cell_kept h1 hb24
  have i0 := hO4.cell 0
  have i1 := hO4.cell 1
  have i2 := hO4.cell 2
  simp only [List.getElem?_toArray, List.getElem?_cons_succ, List.getElem?_cons_zero] at i0 i1 i2
  have hlk0 := (link_all hL4 hN (Nat.le_of_lt hRB) 60 (Nat.le_refl _) 0 L.length w4 hG hwh hb04 ⟨_, hB4, hcs⟩ hnil (M := M))
  rw [show ((0 : Nat) : Int) = 0 from rfl] at hlk0
  have HLK := hide hlk0
  have HR4 := hide hR4
  have HO4 := hide hO4
  have HM4 := hide hM4
  have HB04 := hide hb04
  have HZ4 : Hid (w4.heap.size = O + 1) := by show _ = _; rw [← hw4, World.size_alloc, hO]
  clear hlk0 hNC hNV hN hT hmem hG hwh hR1 hB2 hb2 hb3 hM3 hb4 hO4 hM4 hb24 hb14 hb04 hB4 hR4 hcs hnil HRI hz2 hz3 hb1 hk0 hRB
  go_enter Tryd.func16, Tryd.ntmps16
  go_wp2_with fail
  refine HLK.out.mono ?_
  rintro r V ⟨rfl, hQ⟩
  have hOV := hQ.gw.blk HO4.out (fun q => by have := HZ.out; omega)
  have o1 := hOV.cell 1
  have o2 := hOV.cell 2
  simp only [List.getElem?_toArray, List.getElem?_cons_succ, List.getElem?_cons_zero] at o1 o2
  have hMV := hQ.gw.block M HM4.out.lt (fun q => by have := HZ.out; omega)
  have HMV := hide (HM4.out.keep hMV)
  have HQ := hide hQ
  obtain ⟨u0, hu0, hown0⟩ := hQ.ins 0 (Nat.le_refl _) hL0
  obtain ⟨ua, uc, rfl⟩ := own_sl hown0
  have HU := hide hown0
  have HOV := hide hOV
  clear i0 i1 i2 hQ hOV hMV hown0 hmk hmm hw2 hw3 hw4 hM hO hB hw1
  obtain ⟨X, hX⟩ : ∃ X, kidsOf L 0 = X := ⟨_, rfl⟩
  have HX := hide hX
  rw [hX] at HGD HKL HU hu0
  clear hX
  have HBV : Hid (Below w0.heap.size w0 V) := HQ.out.gw.below HB04.out HB04.out.size (fun k hk w => by have := HZ.out; omega)
  go_wp2_with fail
  go_loopw [5, 6, 20] (fun _ _ ix wr => ∃ k : Nat, k ≤ X.length ∧ ix = .int .i64 k ∧ Hid (MapS wr M k (fun nm => (macL L nm (X.take k)).toNat) ∧ Gw (· = M) V wr)) (fun _ _ ix _ => X.length - (intOf ix).toNat)
  case atStart => exact ⟨0, Nat.zero_le _, rfl, HMV.out.ext (fun _ => rfl), Gw.refl _ _⟩
  case round =>
    obtain ⟨k, hk, rfl, HI⟩ := hrel
    rename World => V3
    by_cases hlt : k < X.length
    · have hlti : (k : Int) < (X.length : Int) := by omega
      have hX4 : X.length ≤ 4000 := Nat.le_trans HKL.out hL4
      obtain ⟨i, hi⟩ : ∃ i, X[k]? = some i := ⟨X[k], List.getElem?_eq_getElem hlt⟩
      obtain ⟨ug, uc', e1, hugB, hucells⟩ := kid_at HU.out (by omega)
      injection e1 with e1 _ e2
      subst e1 e2
      have hcell := HI.out.2.cell (hucells k i hi) (fun w => by have w : ug = M := w; have := HZ.out; have := HZ4.out; omega)
      obtain ⟨hgd, hi0, hil⟩ := HGD.out k i hi
      have hili : (i : Int) < (L.length : Int) := by omega
      have hB3 : Below w0.heap.size w0 V3 := HI.out.2.below HBV.out HBV.out.size (fun k hk w => by have := HZ.out; omega)
      have hO3 := HI.out.2.blk HOV.out (fun w => by have := HZ.out; omega)
      obtain ⟨b', o', c', vt, vn, vy, e3, hNC, hNV⟩ := HN.out.nod hil
      injection e3 with e3 _ e4
      injection e3 with e3
      injection e3 with e3 e5
      subst e3 e4 e5
      have hNCr := hNC.below hB3
      have HNV := hide hNV
      have hn1 : (ndA L i).kind = 1 → 0 < (ndA L i).names.length := fun h => by
        have := (hgd.fld (by omega)).2.2.2.1
        unfold nOf at this
        rw [if_pos h] at this
        omega
      have hnz := fun (h : (ndA L i).kind = 1) => hgd.nmle (by omega) ((ndA L i).names.getD 0 .empty) (by rw [List.getD_eq_getElem?_getD, List.getElem?_eq_getElem (hn1 h)]; exact List.getElem_mem (hn1 h))
      obtain ⟨a1, c1, a2, c2, a3, c3, rfl, rfl, rfl⟩ := hNV.slc
      have HSN := hide (fun nm => macL_snoc L nm i (X.take k))
      have etk : X.take (k + 1) = X.take k ++ [i] := by rw [List.take_add_one, hi]; rfl
      simp only [← etk] at HSN
      have HGE : Hid (∀ nm, -1 ≤ macL L nm (X.take k) ∧ macL L nm (X.take k) ≠ 0) := fun nm => by
        have h1 := macL_mem L nm (X.take k)
        refine ⟨h1.1, fun h0 => ?_⟩
        obtain ⟨j, hj, hj0⟩ := List.getElem_of_mem (List.mem_of_mem_take (h1.2 0 h0).1)
        have := (HGD.out j 0 (by rw [List.getElem?_eq_getElem hj, hj0])).2.1
        omega
      obtain ⟨d, hd⟩ : ∃ d, ndA L i = d := ⟨_, rfl⟩
      rw [hd] at hNCr HNV hn1 hnz
      simp only [hd] at HSN
      obtain ⟨n0, n1, n2, n3, n4, n5⟩ := hNCr
      clear hNC hNV hgd hd hucells hi etk
      obtain ⟨Va, hVa⟩ : ∃ W, World.alloc V3 (.cells #[.int .i64 0, .int .i64 0, .slice none 0 0, .slice none 0 0, .slice none 0 0, .int .i64 0] 42) = W := ⟨_, rfl⟩
      have hOb : Blk Va (World.heap V3).size 42 #[.int .i64 0, .int .i64 0, .slice none 0 0, .slice none 0 0, .slice none 0 0, .int .i64 0] := by rw [← hVa]; exact Blk.new _ _ _
      have o0 := hOb.cell 0
      have of0 := hOb.frozen 0
      have o1 := hOb.cell 1
      have of1 := hOb.frozen 1
      have o2 := hOb.cell 2
      have of2 := hOb.frozen 2
      have o3 := hOb.cell 3
      have of3 := hOb.frozen 3
      have o4 := hOb.cell 4
      have of4 := hOb.frozen 4
      have o5 := hOb.cell 5
      have of5 := hOb.frozen 5
      simp only [List.getElem?_toArray, List.getElem?_cons_succ, List.getElem?_cons_zero] at o0 o1 o2 o3 o4 o5
      obtain ⟨V4, hV4⟩ : ∃ W, set6w Va (World.heap V3).size (.int .i64 (d).kind) (.int .i64 (d).n) (.slice a1 (d).text.size c1) (.slice a2 (d).names.length c2) (.slice a3 (d).types.length c3) (.int .i64 (d).count) = W := ⟨_, rfl⟩
      have hCp : Blk V4 (World.heap V3).size 42 #[.int .i64 (d).kind, .int .i64 (d).n, .slice a1 (d).text.size c1, .slice a2 (d).names.length c2, .slice a3 (d).types.length c3, .int .i64 (d).count] := by rw [← hV4]; exact hOb.set6w _ _ _ _ _ _
      have hBl : Below (World.heap V3).size V3 V4 := by
        have hA : Below (World.heap V3).size V3 Va := by rw [← hVa]; exact (Below.refl _ _).alloc (Nat.le_refl _) _
        rw [← hV4]
        exact (((((hA.setCell (Nat.le_refl _) _).setCell (Nat.le_refl _) _).setCell (Nat.le_refl _) _).setCell (Nat.le_refl _) _).setCell (Nat.le_refl _) _).setCell (Nat.le_refl _) _
      unfold set6w at hV4
      have m0 := hCp.cell 0
      have m3 := hCp.cell 3
      simp only [List.getElem?_toArray, List.getElem?_cons_succ, List.getElem?_cons_zero] at m0 m3
      have hO4 := hO3.below hBl
      have p2 := hO4.cell 2
      simp only [List.getElem?_toArray, List.getElem?_cons_succ, List.getElem?_cons_zero] at p2
      have hM4 := HI.out.1.below hBl
      have HM4' := hide hM4
      have HGV : Hid (Gw (· = M) V V4) := HI.out.2.trans (Gw.of_below (P := (· = M)) hBl) (fun _ _ w => w)
      have hB4 := hB3.trans (hBl.mono hB3.size)
      by_cases q1 : d.kind = 1
      · have t1 : (d.kind == 1) = true := by rw [beq_iff_eq]; exact q1
        obtain ⟨nb, no, nc, nu, e5, hnu, hbs⟩ := HNV.out.nm0 (hn1 q1)
        injection e5 with e5 _ e6
        subst e5 e6
        have hnur := cell_kept hnu hB4
        have hbsr := hbs.below hB4
        have hcv1 : ∀ j, (convert 31 9 nu).run Tryd.prog (V4.drewN j) = .ok (.string (d.names.getD 0 .empty)) (V4.drewN j) := fun j => toStr_bs (hbsr.below (below_drewN (Below.refl _ _) j))
        have HBS0 := hide hbs
        have HB40 := hide hB4
        have hnl := hn1 q1
        have hnz := hnz q1
        obtain ⟨na', nb', no', nc', rfl, _, _⟩ := hbs
        obtain ⟨nm, hnm⟩ : ∃ y, d.names.getD 0 .empty = y := ⟨_, rfl⟩
        rw [hnm] at hnur hcv1 hnz HBS0
        simp only [hnm] at HSN
        have hlk := fun j => (hM4.below (below_drewN (Below.refl _ _) j)).look (nm := nm) (by omega)
        rw [q1] at n0 m0 hV4
        simp only [q1] at HSN
        have HNB : Hid (nb < w0.heap.size) := World.block_lt_of_cell? _ _ hnu
        have HVM : Hid (M < V3.heap.size) := HI.out.1.lt
        clear hnm hbsr hnu hB3 hB4 hM4 hO3 hO4 hn1
        by_cases q2 : (macL L nm (X.take k)).toNat = 0
        · simp only [q2] at hlk
          go_wp2_with fail
          go_quiet (fail)
          go_wp2_with fail
          generalize hV5 : V4.drewN _ = V5
          have hb5 : Below V4.heap.size V4 V5 := by rw [← hV5]; exact below_drewN (Below.refl _ _) _
          have x2 := cell_kept p2 hb5
          have x3 := cell_kept m3 hb5
          have xn := cell_kept hnur hb5
          have HCW : Hid (∀ W, Gw (· = M) V5 W → (convert 31 9 (.slice na' nm.size nc')).run Tryd.prog W = .ok (.string nm) W) := fun W hW => toStr_bs (HBS0.out.below (hW.below (HB40.out.trans (hb5.mono HB40.out.size)) (Nat.le_trans HB40.out.size hb5.size) (fun k hk w => by have := HZ.out; omega)))
          obtain ⟨W8, hrun, hM8, hG8, hz8⟩ := ((HM4'.out.below hb5).below ((Below.refl _ _).drew)).put (nm := nm) (by omega) (v := i) (by omega) (by omega)
          have HK8 : Hid (W8.cell? ⟨O, 2, none⟩ = some (.map (some M)) ∧ W8.cell? ⟨V3.heap.size, 3, none⟩ = some (.slice (some ⟨nb, no, none⟩) d.names.length c2) ∧ W8.cell? ⟨nb, no, none⟩ = some (.slice na' nm.size nc') ∧ Gw (· = M) V5 W8) := ⟨hG8.cell x2 (fun w => by have w : O = M := w; have := HZ.out; omega), hG8.cell x3 (fun w => by have w : V3.heap.size = M := w; have := HVM.out; omega), hG8.cell xn (fun w => by have w : nb = M := w; have := HNB.out; have := HZ.out; omega), (Gw.of_below (P := (· = M)) ((Below.refl _ _).drew)).trans hG8 (fun _ _ w => w)⟩
          have HR : Hid (MapS W8 M (k + 1) (fun nm => (macL L nm (X.take (k + 1))).toNat) ∧ Gw (· = M) V W8) := by
            refine ⟨hM8.ext (fun x => ?_), ((HGV.out.trans (Gw.of_below (P := (· = M)) hb5) (fun _ _ w => w)).trans (Gw.of_below (P := (· = M)) ((Below.refl _ _).drew)) (fun _ _ w => w)).trans hG8 (fun _ _ w => w)⟩
            rw [HSN.out x]
            have hge := HGE.out x
            by_cases w : x = nm
            · subst w
              rw [if_pos rfl, if_pos (by omega), if_pos ⟨trivial, rfl⟩]
              omega
            · rw [if_neg w]
              split
              · rw [if_neg (fun h => w h.2.symm)]
                omega
              · rfl
          clear hM8 hG8 hz8 hV5 hb5 p2 m3 hnur hlk hcv1 m0 t1
          go_wp2_with fail
          refine wp_region_held_drew (S := fun X => Hid (X.cell? ⟨O, 2, none⟩ = some (.map (some M)) ∧ X.cell? ⟨V3.heap.size, 3, none⟩ = some (.slice (some ⟨nb, no, none⟩) d.names.length c2) ∧ X.cell? ⟨nb, no, none⟩ = some (.slice na' nm.size nc') ∧ Gw (· = M) V5 X)) (by kernel_rfl) (⟨x2, x3, xn, Gw.of_below (Below.refl _ _).drew⟩) (fun hHeld => ?_)
          refine wpAnyH_take (i := 0) (v := ?_) rfl (by kernel_rfl) (by kernel_rfl) (by kernel_rfl) (fun _ _ _ h => h) (Or.inl ⟨by rfl, ?_⟩) hHeld ?_
          rotate_left 1
          · intro Wx hSW; simp only [List.getElem_toArray, List.getElem_cons_zero]; go_simp; try with_reducible rfl
          try simp only [Act.put, List.getElem_toArray, List.getElem_cons_zero, List.setIfInBounds_toArray, List.set_cons_zero, List.set_cons_succ]
          refine wpAnyH_take (i := 1) (v := ?_) rfl (by kernel_rfl) (by kernel_rfl) (by kernel_rfl) (fun _ _ _ h => h) (Or.inl ⟨by rfl, ?_⟩) hHeld ?_
          rotate_left 1
          · intro Wx hSW; simp only [List.getElem_toArray, List.getElem_cons_zero, List.getElem_cons_succ]; obtain ⟨z0, z1, z2, z3⟩ := hSW.out; go_simp; try with_reducible rfl
          try simp only [Act.put, List.getElem_toArray, List.getElem_cons_zero, List.getElem_cons_succ, List.setIfInBounds_toArray, List.set_cons_zero, List.set_cons_succ]
          refine wpAnyH_take (i := 2) (v := ?_) rfl (by kernel_rfl) (by kernel_rfl) (by kernel_rfl) (fun _ _ _ h => h) (Or.inl ⟨by rfl, ?_⟩) hHeld ?_
          rotate_left 1
          · intro Wx hSW; simp only [List.getElem_toArray, List.getElem_cons_zero, List.getElem_cons_succ]; go_simp; try with_reducible rfl
          try simp only [Act.put, List.getElem_toArray, List.getElem_cons_zero, List.getElem_cons_succ, List.setIfInBounds_toArray, List.set_cons_zero, List.set_cons_succ]
          refine wpAnyH_take (i := 3) (v := ?_) rfl (by kernel_rfl) (by kernel_rfl) (by kernel_rfl) (fun _ _ _ h => h) (Or.inl ⟨by rfl, ?_⟩) hHeld ?_
          rotate_left 1
          · intro Wx hSW; simp only [List.getElem_toArray, List.getElem_cons_zero, List.getElem_cons_succ]; obtain ⟨z0, z1, z2, z3⟩ := hSW.out; go_simp; try with_reducible rfl
          try simp only [Act.put, List.getElem_toArray, List.getElem_cons_zero, List.getElem_cons_succ, List.setIfInBounds_toArray, List.set_cons_zero, List.set_cons_succ]
          refine wpAnyH_take (i := 4) (v := ?_) rfl (by kernel_rfl) (by kernel_rfl) (by kernel_rfl) (fun _ _ _ h => h) (Or.inl ⟨by rfl, ?_⟩) hHeld ?_
          rotate_left 1
          · intro Wx hSW; simp only [List.getElem_toArray, List.getElem_cons_zero, List.getElem_cons_succ]; go_simp; try with_reducible rfl
          try simp only [Act.put, List.getElem_toArray, List.getElem_cons_zero, List.getElem_cons_succ, List.setIfInBounds_toArray, List.set_cons_zero, List.set_cons_succ]
          refine wpAnyH_take (i := 5) (v := ?_) rfl (by kernel_rfl) (by kernel_rfl) (by kernel_rfl) (fun _ _ _ h => h) (Or.inl ⟨by rfl, ?_⟩) hHeld ?_
          rotate_left 1
          · intro Wx hSW; simp only [List.getElem_toArray, List.getElem_cons_zero, List.getElem_cons_succ]; obtain ⟨z0, z1, z2, z3⟩ := hSW.out; go_simp; try with_reducible rfl
          try simp only [Act.put, List.getElem_toArray, List.getElem_cons_zero, List.getElem_cons_succ, List.setIfInBounds_toArray, List.set_cons_zero, List.set_cons_succ]
          refine wpAnyH_take (i := 6) (v := ?_) rfl (by kernel_rfl) (by kernel_rfl) (by kernel_rfl) (fun _ _ _ h => h) (Or.inl ⟨by rfl, ?_⟩) hHeld ?_
          rotate_left 1
          · intro Wx hSW; simp only [List.getElem_toArray, List.getElem_cons_zero, List.getElem_cons_succ]; obtain ⟨z0, z1, z2, z3⟩ := hSW.out; have z4 := HCW.out Wx z3; go_simp; try with_reducible rfl
          try simp only [Act.put, List.getElem_toArray, List.getElem_cons_zero, List.getElem_cons_succ, List.setIfInBounds_toArray, List.set_cons_zero, List.set_cons_succ]
          refine wpAnyH_take (i := 7) (v := ?_) rfl (by kernel_rfl) (by kernel_rfl) (by kernel_rfl) (fun _ _ _ h => h) (Or.inl ⟨by rfl, ?_⟩) hHeld ?_
          rotate_left 1
          · intro Wx hSW; simp only [List.getElem_toArray, List.getElem_cons_zero, List.getElem_cons_succ]; go_simp; try with_reducible rfl
          try simp only [Act.put, List.getElem_toArray, List.getElem_cons_zero, List.getElem_cons_succ, List.setIfInBounds_toArray, List.set_cons_zero, List.set_cons_succ]
          refine wpAnyH_ready (rs := [8]) (by kernel_rfl) (by simp) ?_
          refine AllReadyH.cons rfl (fun K hK => ?_) AllReadyH.nil
          go_simp
          refine hK.out _ _ (HK8.out) (fun hHeld => ?_)
          clear hK K
          try simp only [Act.put, List.getElem_toArray, List.getElem_cons_zero, List.getElem_cons_succ, List.setIfInBounds_toArray, List.set_cons_zero, List.set_cons_succ]
          refine wpAnyH_done (by kernel_rfl) ?_ _
          go_wp2
          go_roundw
          case rel => exact ⟨k + 1, by omega, by go_num, HR⟩
          case measure => simp [intOf]; omega
        · obtain ⟨l0, hl0⟩ : ∃ l, (macL L nm (X.take k)).toNat = l := ⟨_, rfl⟩
          rw [hl0] at q2
          simp only [hl0] at hlk
          have t2 : ((l0 : Int) == 0) = false := by rw [beq_eq_false_iff_ne]; omega
          have HR : Hid (∀ W, Below V4.heap.size V4 W → MapS W M (k + 1) (fun nm => (macL L nm (X.take (k + 1))).toNat) ∧ Gw (· = M) V W) := fun W hW => by
            obtain ⟨D, o1, o2⟩ := HM4'.out.below hW
            refine ⟨MapS.ext ⟨D, o1.mono (by omega), o2⟩ (fun x => ?_), HGV.out.trans (Gw.of_below (P := (· = M)) hW) (fun _ _ w => w)⟩
            rw [HSN.out x]
            have hge := HGE.out x
            split
            · by_cases w : x = nm
              · subst w; omega
              · rw [if_neg (fun h => w h.2.symm)]
                omega
            · rfl
          clear hl0
          go_wp2_with fail
          go_quiet (fail)
          go_wp2
          go_roundw
          case rel => exact ⟨k + 1, by omega, by go_num, HR.out _ (below_drewN (Below.refl _ _) _)⟩
          case measure => simp [intOf]; omega
      · have t1 : (d.kind == 1) = false := by rw [beq_eq_false_iff_ne]; exact q1
        have HR : Hid (∀ W, Below V4.heap.size V4 W → MapS W M (k + 1) (fun nm => (macL L nm (X.take (k + 1))).toNat) ∧ Gw (· = M) V W) := fun W hW => by
          obtain ⟨D, o1, o2⟩ := HM4'.out.below hW
          refine ⟨MapS.ext ⟨D, o1.mono (by omega), o2⟩ (fun x => ?_), HGV.out.trans (Gw.of_below (P := (· = M)) hW) (fun _ _ w => w)⟩
          rw [HSN.out x]
          have hge := HGE.out x
          rw [if_neg (show ¬ (d.kind = 1 ∧ d.names.getD 0 .empty = x) from fun h => q1 h.1)]
          split
          · omega
          · rfl
        clear hM4 hB3 hB4 hO3 hO4 hn1 hnz q1
        go_wp2_with fail
        go_quiet (fail)
        go_wp2
        go_roundw
        case rel => exact ⟨k + 1, by omega, by go_num, HR.out _ (below_drewN (Below.refl _ _) _)⟩
        case measure => simp [intOf]; omega
    · obtain rfl : k = X.length := by omega
      have hge : ¬ (X.length : Int) < (X.length : Int) := by omega
      have hO3 := HI.out.2.blk HOV.out (fun w => by have := HZ.out; omega)
      have hR3 := HI.out.2.blk (HQ.out.gw.blk HR4.out (fun w => by have := HZ.out; omega)) (fun w => by have := HZ.out; omega)
      have r0 := hO3.cell 0
      have r1 := hO3.cell 1
      have r2 := hO3.cell 2
      simp only [List.getElem?_toArray, List.getElem?_cons_succ, List.getElem?_cons_zero] at r0 r1 r2
      have s0 := hR3.cell 0
      have s1 := hR3.cell 1
      have s2 := hR3.cell 2
      have sf0 := hR3.frozen 0
      have sf1 := hR3.frozen 1
      have sf2 := hR3.frozen 2
      simp only [List.getElem?_toArray, List.getElem?_cons_succ, List.getElem?_cons_zero] at s0 s1 s2
      have HR3 := hide hR3
      clear hO3 hR3
      go_wp2
      refine bodyPost_ret (results_one rfl _ _ _ w0.heap.size 48 _ (0, 0) rfl (((HR3.out.set 0 _).set 1 _).set 2 _) Tryd.underlying48 (by kernel_rfl)) rfl ?_
      have hGs : Gw (· = w0.heap.size) V3 (((V3.setCell ⟨w0.heap.size, 0, none⟩ (.slice (some ⟨tb, tq, none⟩) L.length tc)).setCell ⟨w0.heap.size, 1, none⟩ (.slice (some ⟨B, 0, none⟩) L.length L.length)).setCell ⟨w0.heap.size, 2, none⟩ (.map (some M))) := ((Gw.set _ _ _ _).trans (Gw.set _ _ _ _) (fun _ _ w => w)).trans (Gw.set _ _ _ _) (fun _ _ w => w)
      have hz := HZ.out
      have hz4 := HZ4.out
      have hGV := HI.out.2
      refine ⟨B, M, rfl, ⟨hGs.below (hGV.below HBV.out HBV.out.size (fun k hk w => by omega)) (Nat.le_trans HBV.out.size hGV.size) (fun k hk w => by omega), by omega, fun j hj => ?_, X.length, ?_⟩⟩
      · obtain ⟨u, c1, c2⟩ := HQ.out.ins j (Nat.zero_le _) hj
        refine ⟨u, hGs.cell (hGV.cell c1 (fun w => by have w : B = M := w; omega)) (fun w => by have w : B = w0.heap.size := w; omega), ?_⟩
        exact own_base (hGs.own (hGV.own c2 (fun g hg w => by have := (World.ownsRow.lt c2 g hg).1; omega)) (fun g hg w => by have := (World.ownsRow.lt c2 g hg).1; omega)) (by omega)
      · have hm := HI.out.1.gw hGs (fun w => by omega)
        rw [List.take_of_length_le (Nat.le_refl _), ← HX.out] at hm
        rw [← HX.out]
        exact hm
end Go.Proofs.YtdlahabeegmjiaaDoor
