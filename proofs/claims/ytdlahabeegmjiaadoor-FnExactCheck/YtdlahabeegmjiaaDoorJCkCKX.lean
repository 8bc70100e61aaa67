/-
  The walk of spec.l3takes.
-/
import Derived.Test.YtdlahabeegmjiaaDoorJCkCKU
namespace Go.Proofs.YtdlahabeegmjiaaDoor
open Go.RowKit

/-- What l3takes leaves. -/
def TaQ (w0 : World) (C : Nat) (tv : Value) (vv : Value) (U : List Value) (V : World) (c : Ck) (i : Nat) (x : Option (List Int)) (r : Ending) (V' : World) : Prop :=
  ∃ u b, r = .returned (.tuple #[u, .bool b]) ∧ Gw (· = C) V V' ∧ (x = none → b = false ∧ u = .slice none 0 0 ∧ CkA w0 V' C tv (c.badN i) vv U) ∧ ∀ W, x = some W → b = true ∧ IS V' u W ∧ CkA w0 V' C tv c vv U
theorem own_set0 {w : World} {B n : Nat} {va : Option Addr} {vc : Nat} {xs : List Int} (h : w.ownsRow B 3 1 (.slice va n vc) n (inv xs)) (hn : 0 < n) (hx : xs.length = n) : ∃ g, va = some ⟨g, 0, none⟩ ∧ B ≤ g ∧ (∃ u, w.cell? ⟨g, 0, none⟩ = some u) ∧ w.frozen? ⟨g, 0, none⟩ = false ∧ ∀ x : Int, IS (w.setCell ⟨g, 0, none⟩ (.int .i64 x)) (.slice (some ⟨g, 0, none⟩) n vc) (xs.set 0 x) := by
  rcases h.2 with ⟨hv, h0⟩ | ⟨g, cap, cur, hv, hB, hg, _⟩
  · omega
  · injection hv with hv _ hc
    subst hv hc
    have hcl := h.cells (g := g) rfl
    have key : ∀ j, j < n → w.cell? ⟨g, j, none⟩ = some (.int .i64 (xs.getD j 0)) := fun j hj => by
      have h1 := hcl j (.int .i64 (xs.getD j 0)) (by unfold inv; rw [List.getElem?_map, List.getElem?_eq_getElem (by omega)]; simp [List.getD, show j < xs.length by omega])
      have e : (⟨g, 0, none⟩ : Addr).add j = ⟨g, j, none⟩ := by unfold Addr.add; split <;> simp_all
      rw [e] at h1
      exact h1
    refine ⟨g, rfl, hB, ⟨_, key 0 hn⟩, by simp [World.frozen?, hg], fun x => ⟨_, g, 0, vc, by rw [List.length_set, hx], fun _ => rfl, fun j hj => ?_⟩⟩
    rw [List.length_set] at hj
    rw [Nat.zero_add]
    by_cases q : j = 0
    · subst q
      rw [World.cell?_setCell_same _ _ _ (key 0 hn)]
      simp [List.getD, hj]
    · rw [World.cell?_setCell_other _ _ _ _ (fun h => q (by have := congrArg Addr.off h; exact this.symm)), key j (by omega)]
      have e : (xs.set 0 x).getD j 0 = xs.getD j 0 := by
        rw [List.getD_eq_getElem?_getD, List.getD_eq_getElem?_getD, List.getElem?_set_ne (by omega)]
      rw [e]

set_option maxHeartbeats 8000000 in
set_option maxRecDepth 1000000 in
theorem ta_call {w0 V : World} {C : Nat} {tv : Value} {L : List Nd} {f i n : Nat} {c : Ck} {vv : Value} {U : List Value} (hN : NS w0 tv L) (hf : f + 1 ≤ 60) (hg : Gd L (f + 1) i) (hA : CkA w0 V C tv c vv U) (hT : vT L = true) (hk : (ndA L i).kind = 4) :
    Calls Tryd.prog 32 #[.pointer (some ⟨C, 0, none⟩), .int .i64 (i : Nat), .int .i64 (n : Nat)] V (TaQ w0 C tv vv U V c i (takesT L i n)) := by
  have hil := (hg.step hf).1
  obtain ⟨tb, to, tc, vt, vn, vy, htv, hNC, hNV⟩ := hN.nod hil
  have HN := hide hN
  subst htv
  have hNCr := hNC.below hA.bl
  have HNV := hide hNV
  obtain ⟨a1, c1, a2, c2, a3, c3, rfl, rfl, rfl⟩ := hNV.slc
  have HA := hide hA
  have g0 := hA.blk.cell 0
  simp only [List.getElem?_toArray, List.getElem?_cons_zero] at g0
  have hili : (i : Int) < (L.length : Int) := by omega
  have HNL := hide (hg.name hf (.inr (.inl hk)))
  have HE : Hid (takesT L i n = if macA L ((ndA L i).names.getD 0 .empty) < 0 then none else some (ndA L (macA L ((ndA L i).names.getD 0 .empty)).toNat).types) := by show _ = _; unfold takesT; rw [if_pos hk]
  have HKK := hide hk
  have HVT := hide hT
  obtain ⟨d, hd⟩ : ∃ d, ndA L i = d := ⟨_, rfl⟩
  rw [hd] at hNCr HNV HKK HNL HE
  obtain ⟨n0, n1, n2, n3, n4, n5⟩ := hNCr
  obtain ⟨Va, hVa⟩ : ∃ W, World.alloc V (.cells #[.int .i64 0, .int .i64 0, .slice none 0 0, .slice none 0 0, .slice none 0 0, .int .i64 0] 42) = W := ⟨_, rfl⟩
  have hOb : Blk Va (World.heap V).size 42 #[.int .i64 0, .int .i64 0, .slice none 0 0, .slice none 0 0, .slice none 0 0, .int .i64 0] := by rw [← hVa]; exact Blk.new _ _ _
  have o0 := hOb.cell 0
  have of0 := hOb.frozen 0
  have o1 := hOb.cell 1
  have of1 := hOb.frozen 1
  have o2 := hOb.cell 2
  have of2 := hOb.frozen 2
  have o3 := hOb.cell 3
  have of3 := hOb.frozen 3
  have o4 := hOb.cell 4
  have of4 := hOb.frozen 4
  have o5 := hOb.cell 5
  have of5 := hOb.frozen 5
  simp only [List.getElem?_toArray, List.getElem?_cons_succ, List.getElem?_cons_zero] at o0 o1 o2 o3 o4 o5
  obtain ⟨V2, hV2⟩ : ∃ W, set6w Va (World.heap V).size (.int .i64 (d).kind) (.int .i64 (d).n) (.slice a1 (d).text.size c1) (.slice a2 (d).names.length c2) (.slice a3 (d).types.length c3) (.int .i64 (d).count) = W := ⟨_, rfl⟩
  have hCp : Blk V2 (World.heap V).size 42 #[.int .i64 (d).kind, .int .i64 (d).n, .slice a1 (d).text.size c1, .slice a2 (d).names.length c2, .slice a3 (d).types.length c3, .int .i64 (d).count] := by rw [← hV2]; exact hOb.set6w _ _ _ _ _ _
  have hBl : Below (World.heap V).size V V2 := by
    have hA : Below (World.heap V).size V Va := by rw [← hVa]; exact (Below.refl _ _).alloc (Nat.le_refl _) _
    rw [← hV2]
    exact (((((hA.setCell (Nat.le_refl _) _).setCell (Nat.le_refl _) _).setCell (Nat.le_refl _) _).setCell (Nat.le_refl _) _).setCell (Nat.le_refl _) _).setCell (Nat.le_refl _) _
  unfold set6w at hV2
  have HBl := hide hBl
  obtain ⟨nb, no, nc, nu, e5, hnu, hbs⟩ := HNV.out.nm0 (by rw [HNL.out]; omega)
  injection e5 with e5 _ e6
  subst e5 e6
  have m0 := hCp.cell 0
  have m3 := hCp.cell 3
  simp only [List.getElem?_toArray, List.getElem?_cons_succ, List.getElem?_cons_zero] at m0 m3
  rw [HKK.out] at n0 m0 hV2
  have hA2 := hA.below hBl
  have HA2 := hide hA2
  have hnur := cell_kept hnu hA2.bl
  have p0 := hA2.blk.cell 0
  simp only [List.getElem?_toArray, List.getElem?_cons_zero] at p0
  obtain ⟨nm, hnm⟩ : ∃ y, d.names.getD 0 .empty = y := ⟨_, rfl⟩
  rw [hnm] at HE hbs
  have HMC := hide (fun W (hW : Below V2.heap.size V2 W) => l3macro_any HVT.out HN.out (hA2.bl.trans (hW.mono hA2.bl.size)) hbs)
  obtain ⟨na', nb', no', nc', hnuE, _, _⟩ := hbs
  subst hnuE
  have hnl1 : 0 < d.names.length := by rw [HNL.out]; omega
  have hmr : ∀ (X : List Nat), -1 ≤ macL L nm X ∧ ∀ j : Nat, macL L nm X = (j : Int) → j ∈ X := by
    intro X
    induction X with
    | nil => exact ⟨by rw [macL]; omega, fun j h => by rw [macL] at h; omega⟩
    | cons x X ih =>
      rw [macL]
      split
      · exact ⟨by omega, fun j h => by have : x = j := by omega
                                       rw [this]; exact List.mem_cons_self ..⟩
      · exact ⟨ih.1, fun j h => List.mem_cons_of_mem _ (ih.2 j h)⟩
  have hMr : -1 ≤ macA L nm := (hmr (kidsOf L 0)).1
  have hMj : ∀ j : Nat, macA L nm = (j : Int) → j < L.length := fun j h => by
    have hm := (hmr (kidsOf L 0)).2 j h
    obtain ⟨q, hq, hqj⟩ := List.getElem_of_mem hm
    have hG0 := (vT_good HVT.out).2.2.2
    have := ((hG0.step (by omega)).2.2.2.2 q j (by rw [List.getElem?_eq_getElem hq, hqj])).1
    exact (this.step (by omega)).1
  obtain ⟨J, hJ⟩ : ∃ J, macA L nm = J := ⟨_, rfl⟩
  rw [hJ] at HE hMr hMj
  simp only [hJ] at HMC
  have HFI := hide (fun W => l3first_any c.names i W)
  clear hN hNC hNV hg hk hCp hd hA hBl hA2 hT hmr hJ hnu
  go_enter Tryd.func32, Tryd.ntmps32
  go_wp2_with fail
  refine wp_region_held_drew (S := fun W => Hid (Below V2.heap.size V2 W)) (by kernel_rfl) ((Below.refl _ _).drew) (fun hHeld => ?_)
  refine wpAnyH_take (i := 0) (v := ?_) rfl (by kernel_rfl) (by kernel_rfl) (by kernel_rfl) (fun _ _ _ h => h) (Or.inl ⟨by rfl, ?_⟩) hHeld ?_
  rotate_left 1
  · intro Wx hSW; simp only [List.getElem_toArray, List.getElem_cons_zero]; go_simp; try with_reducible rfl
  try simp only [Act.put, List.getElem_toArray, List.getElem_cons_zero, List.setIfInBounds_toArray, List.set_cons_zero, List.set_cons_succ]
  refine wpAnyH_take (i := 1) (v := ?_) rfl (by kernel_rfl) (by kernel_rfl) (by kernel_rfl) (fun _ _ _ h => h) (Or.inl ⟨by rfl, ?_⟩) hHeld ?_
  rotate_left 1
  · intro Wx hSW; simp only [List.getElem_toArray, List.getElem_cons_zero, List.getElem_cons_succ]; go_simp; try with_reducible rfl
  try simp only [Act.put, List.getElem_toArray, List.getElem_cons_zero, List.getElem_cons_succ, List.setIfInBounds_toArray, List.set_cons_zero, List.set_cons_succ]
  refine wpAnyH_take (i := 2) (v := ?_) rfl (by kernel_rfl) (by kernel_rfl) (by kernel_rfl) (fun _ _ _ h => h) (Or.inl ⟨by rfl, ?_⟩) hHeld ?_
  rotate_left 1
  · intro Wx hSW; simp only [List.getElem_toArray, List.getElem_cons_zero, List.getElem_cons_succ]; go_simp; try with_reducible rfl
  try simp only [Act.put, List.getElem_toArray, List.getElem_cons_zero, List.getElem_cons_succ, List.setIfInBounds_toArray, List.set_cons_zero, List.set_cons_succ]
  refine wpAnyH_take (i := 3) (v := ?_) rfl (by kernel_rfl) (by kernel_rfl) (by kernel_rfl) (fun _ _ _ h => h) (Or.inl ⟨by rfl, ?_⟩) hHeld ?_
  rotate_left 1
  · intro Wx hSW; simp only [List.getElem_toArray, List.getElem_cons_zero, List.getElem_cons_succ]; have s0 := cell_kept p0 hSW.out; have s3 := cell_kept m3 hSW.out; have sn := cell_kept hnur hSW.out; go_simp; try with_reducible rfl
  try simp only [Act.put, List.getElem_toArray, List.getElem_cons_zero, List.getElem_cons_succ, List.setIfInBounds_toArray, List.set_cons_zero, List.set_cons_succ]
  refine wpAnyH_take (i := 4) (v := ?_) rfl (by kernel_rfl) (by kernel_rfl) (by kernel_rfl) (fun _ _ _ h => h) (Or.inl ⟨by rfl, ?_⟩) hHeld ?_
  rotate_left 1
  · intro Wx hSW; simp only [List.getElem_toArray, List.getElem_cons_zero, List.getElem_cons_succ]; go_simp; try with_reducible rfl
  try simp only [Act.put, List.getElem_toArray, List.getElem_cons_zero, List.getElem_cons_succ, List.setIfInBounds_toArray, List.set_cons_zero, List.set_cons_succ]
  refine wpAnyH_take (i := 5) (v := ?_) rfl (by kernel_rfl) (by kernel_rfl) (by kernel_rfl) (fun _ _ _ h => h) (Or.inl ⟨by rfl, ?_⟩) hHeld ?_
  rotate_left 1
  · intro Wx hSW; simp only [List.getElem_toArray, List.getElem_cons_zero, List.getElem_cons_succ]; have s0 := cell_kept p0 hSW.out; have s3 := cell_kept m3 hSW.out; have sn := cell_kept hnur hSW.out; go_simp; try with_reducible rfl
  try simp only [Act.put, List.getElem_toArray, List.getElem_cons_zero, List.getElem_cons_succ, List.setIfInBounds_toArray, List.set_cons_zero, List.set_cons_succ]
  refine wpAnyH_take (i := 6) (v := ?_) rfl (by kernel_rfl) (by kernel_rfl) (by kernel_rfl) (fun _ _ _ h => h) (Or.inl ⟨by rfl, ?_⟩) hHeld ?_
  rotate_left 1
  · intro Wx hSW; simp only [List.getElem_toArray, List.getElem_cons_zero, List.getElem_cons_succ]; go_simp; try with_reducible rfl
  try simp only [Act.put, List.getElem_toArray, List.getElem_cons_zero, List.getElem_cons_succ, List.setIfInBounds_toArray, List.set_cons_zero, List.set_cons_succ]
  refine wpAnyH_take (i := 7) (v := ?_) rfl (by kernel_rfl) (by kernel_rfl) (by kernel_rfl) (fun _ _ _ h => h) (Or.inl ⟨by rfl, ?_⟩) hHeld ?_
  rotate_left 1
  · intro Wx hSW; simp only [List.getElem_toArray, List.getElem_cons_zero, List.getElem_cons_succ]; have s0 := cell_kept p0 hSW.out; have s3 := cell_kept m3 hSW.out; have sn := cell_kept hnur hSW.out; go_simp; try with_reducible rfl
  try simp only [Act.put, List.getElem_toArray, List.getElem_cons_zero, List.getElem_cons_succ, List.setIfInBounds_toArray, List.set_cons_zero, List.set_cons_succ]
  refine wpAnyH_ready (rs := [8]) (by kernel_rfl) (by simp) ?_
  refine AllReadyH.cons rfl (fun K hK => ?_) AllReadyH.nil
  go_simp
  go_at_call 26
  refine (HMC.out _ (Below.refl _ _).drew).mono ?_
  rintro r V3 ⟨rfl, hb3⟩
  have HB3 : Hid (Below V2.heap.size V2 V3) := (Below.refl _ _).drew.trans hb3
  clear hb3
  go_wp2_with fail
  refine hK.out _ _ (HB3.out) (fun hHeld => ?_)
  clear hK K
  try simp only [Act.put, List.getElem_toArray, List.getElem_cons_zero, List.getElem_cons_succ, List.setIfInBounds_toArray, List.set_cons_zero, List.set_cons_succ]
  refine wpAnyH_take (i := 9) (v := ?_) rfl (by kernel_rfl) (by kernel_rfl) (by kernel_rfl) (fun _ _ _ h => h) (Or.inl ⟨by rfl, ?_⟩) hHeld ?_
  rotate_left 1
  · intro Wx hSW; simp only [List.getElem_toArray, List.getElem_cons_zero, List.getElem_cons_succ]; go_simp; try with_reducible rfl
  try simp only [Act.put, List.getElem_toArray, List.getElem_cons_zero, List.getElem_cons_succ, List.setIfInBounds_toArray, List.set_cons_zero, List.set_cons_succ]
  refine wpAnyH_done (by kernel_rfl) ?_ _
  have hA3 := HA2.out.below HB3.out
  have HGV := hide (HBl.out.trans (HB3.out.mono HBl.out.size))
  have x0 := hA3.blk.cell 0
  have x2 := hA3.blk.cell 2
  have xf2 := hA3.blk.frozen 2
  simp only [List.getElem?_toArray, List.getElem?_cons_succ, List.getElem?_cons_zero] at x0 x2
  have HS3 := hide (hA3.setN (fstI c.names i))
  have HA3 := hide hA3
  by_cases hJ0 : J < 0
  · have d0 : decide (J < 0) = true := decide_eq_true hJ0
    rw [if_pos hJ0] at HE
    obtain ⟨FI, hFI⟩ : ∃ x, fstI c.names i = x := ⟨_, rfl⟩
    have HBN : Hid (c.badN i = { c with names := FI }) := by show _ = _; rw [← hFI]; rfl
    rw [hFI] at HS3
    simp only [hFI] at HFI
    clear hFI hA3
    go_wp2_with fail
    refine (HFI.out _).mono ?_
    rintro r w' ⟨rfl, rfl⟩
    go_wp2
    go_ret2
    rw [HE.out]
    exact ⟨_, _, rfl, (Gw.of_below HGV.out).trans (Gw.set _ _ _ _) (fun _ _ q => q), fun _ => ⟨rfl, rfl, by rw [HBN.out]; exact HS3.out⟩, fun W h => (by cases h)⟩
  · have d0 : decide (J < 0) = false := decide_eq_false hJ0
    rw [if_neg hJ0] at HE
    obtain ⟨j, rfl⟩ : ∃ j : Nat, J = (j : Int) := ⟨J.toNat, by omega⟩
    rw [Int.toNat_natCast] at HE
    have hjl := hMj j rfl
    have hjli : (j : Int) < (L.length : Int) := by omega
    obtain ⟨tb', to', tc', vt', vn', vy', e7, hNC', hNV'⟩ := HN.out.nod hjl
    injection e7 with e7 _ e8
    injection e7 with e7
    injection e7 with e7 e9
    subst e7 e8 e9
    have y4 := (hNC'.below hA3.bl).types
    have HIS := hide (hNV'.types.below hA3.bl)
    obtain ⟨_, _, _, _, b3, d3, e10, e11, rfl⟩ := hNV'.slc
    clear hNC' hNV' hA3
    go_wp2
    go_ret2
    rw [HE.out]
    exact ⟨_, _, rfl, Gw.of_below HGV.out, fun h => (by cases h), fun W h => (by injection h with h; rw [← h]; exact ⟨rfl, HIS.out, HA3.out⟩)⟩

set_option maxHeartbeats 8000000 in
set_option maxRecDepth 1000000 in
theorem ta_list {w0 V : World} {C : Nat} {tv : Value} {L : List Nd} {f i n : Nat} {c : Ck} {vv : Value} {U : List Value} (hN : NS w0 tv L) (hf : f + 1 ≤ 60) (hg : Gd L (f + 1) i) (hA : CkA w0 V C tv c vv U) (hk : (ndA L i).kind ≠ 4) (hn : n ≤ 100000) (hn0 : (ndA L i).kind = 6 ∨ (ndA L i).kind = 14 ∨ (ndA L i).kind = 15 → 0 < n) :
    Calls Tryd.prog 32 #[.pointer (some ⟨C, 0, none⟩), .int .i64 (i : Nat), .int .i64 (n : Nat)] V (TaQ w0 C tv vv U V c i (takesT L i n)) := by
  have hil := (hg.step hf).1
  obtain ⟨tb, to, tc, vt, vn, vy, htv, hNC, hNV⟩ := hN.nod hil
  have HN := hide hN
  subst htv
  have hNCr := hNC.below hA.bl
  have HNV := hide hNV
  obtain ⟨a1, c1, a2, c2, a3, c3, rfl, rfl, rfl⟩ := hNV.slc
  have HA := hide hA
  have g0 := hA.blk.cell 0
  simp only [List.getElem?_toArray, List.getElem?_cons_zero] at g0
  have hili : (i : Int) < (L.length : Int) := by omega
  have HE : Hid (takesT L i n = some (if (ndA L i).kind = 6 then (List.replicate n (0 : Int)).set 0 2 else if (ndA L i).kind = 14 ∨ (ndA L i).kind = 15 then (List.replicate n (0 : Int)).set 0 1 else List.replicate n 0)) := by show _ = _; unfold takesT; rw [if_neg hk]
  have t4 : ((ndA L i).kind == 4) = false := by rw [beq_eq_false_iff_ne]; exact hk
  obtain ⟨d, hd⟩ : ∃ d, ndA L i = d := ⟨_, rfl⟩
  rw [hd] at hNCr HNV HE t4 hn0
  obtain ⟨n0, n1, n2, n3, n4, n5⟩ := hNCr
  obtain ⟨Va, hVa⟩ : ∃ W, World.alloc V (.cells #[.int .i64 0, .int .i64 0, .slice none 0 0, .slice none 0 0, .slice none 0 0, .int .i64 0] 42) = W := ⟨_, rfl⟩
  have hOb : Blk Va (World.heap V).size 42 #[.int .i64 0, .int .i64 0, .slice none 0 0, .slice none 0 0, .slice none 0 0, .int .i64 0] := by rw [← hVa]; exact Blk.new _ _ _
  have o0 := hOb.cell 0
  have of0 := hOb.frozen 0
  have o1 := hOb.cell 1
  have of1 := hOb.frozen 1
  have o2 := hOb.cell 2
  have of2 := hOb.frozen 2
  have o3 := hOb.cell 3
  have of3 := hOb.frozen 3
  have o4 := hOb.cell 4
  have of4 := hOb.frozen 4
  have o5 := hOb.cell 5
  have of5 := hOb.frozen 5
  simp only [List.getElem?_toArray, List.getElem?_cons_succ, List.getElem?_cons_zero] at o0 o1 o2 o3 o4 o5
  obtain ⟨V2, hV2⟩ : ∃ W, set6w Va (World.heap V).size (.int .i64 (d).kind) (.int .i64 (d).n) (.slice a1 (d).text.size c1) (.slice a2 (d).names.length c2) (.slice a3 (d).types.length c3) (.int .i64 (d).count) = W := ⟨_, rfl⟩
  have hCp : Blk V2 (World.heap V).size 42 #[.int .i64 (d).kind, .int .i64 (d).n, .slice a1 (d).text.size c1, .slice a2 (d).names.length c2, .slice a3 (d).types.length c3, .int .i64 (d).count] := by rw [← hV2]; exact hOb.set6w _ _ _ _ _ _
  have hBl : Below (World.heap V).size V V2 := by
    have hA : Below (World.heap V).size V Va := by rw [← hVa]; exact (Below.refl _ _).alloc (Nat.le_refl _) _
    rw [← hV2]
    exact (((((hA.setCell (Nat.le_refl _) _).setCell (Nat.le_refl _) _).setCell (Nat.le_refl _) _).setCell (Nat.le_refl _) _).setCell (Nat.le_refl _) _).setCell (Nat.le_refl _) _
  unfold set6w at hV2
  have HBl := hide hBl
  have HCp := hide hCp
  have m0 := hCp.cell 0
  simp only [List.getElem?_toArray, List.getElem?_cons_zero] at m0
  clear hN hNC hNV hg hk hd hA hBl hCp
  go_enter Tryd.func32, Tryd.ntmps32
  go_wp2_with fail
  clear g0 n0 n1 n2 n3 n4 n5 hVa hV2 o0 of0 o1 of1 o2 of2 o3 of3 o4 of4 o5 of5 m0 t4
  go_loopw [9, 11] (fun vx ix wr => ∃ k : Nat, k ≤ n ∧ ix = .int .i64 k ∧ wr.ownsRow V2.heap.size 3 1 vx k (inv (List.replicate k 0)) ∧ Below V2.heap.size V2 wr) (fun _ ix _ => n - (intOf ix).toNat)
  case atStart => exact ⟨0, Nat.zero_le _, rfl, World.ownsRow_nil _ _ _ _, Below.refl _ _⟩
  case round =>
    obtain ⟨k, hk, rfl, ho, hb⟩ := hrel
    rename World => V3
    obtain ⟨va, vc, rfl⟩ := own_sl ho
    by_cases hlt : k < n
    · have hlti : (k : Int) < (n : Int) := by omega
      have HO := hide (ho.alloc (.cells #[.int .i64 0] 3))
      have HB := hide (hb.alloc hb.size (.cells #[.int .i64 0] 3))
      have HBk := hide (Cs.of_blk (Blk.new V3 3 #[.int .i64 0]))
      clear ho hb
      go_wp2_with (at_builtin; refine wp_appGIn rfl (.tmp 55) (.tmp 56) rfl V2.heap.size _ _ _ rfl HO.out V3.heap.size 0 1 1 [.int .i64 0] rfl rfl (fun j u hj => by rw [Nat.zero_add]; exact HBk.out j u hj) (fun u hu => by rw [List.mem_singleton.1 hu]; rfl) (by omega) HB.out.size ?_)
      intro v' V4 hown hg hat
      have hb4 := HB.out.grown hg HB.out.size (fun j hj => (World.ownsRow.lt HO.out j hj).1)
      have e1 : inv (List.replicate k 0) ++ [Value.int .i64 0] = inv (List.replicate (k + 1) 0) := by
        unfold inv
        rw [List.replicate_succ', List.map_append]; rfl
      rw [e1] at hown
      have HO4 := hide hown
      have HB4 := hide hb4
      obtain ⟨va4, vc4, rfl⟩ := own_sl hown
      clear hown hg hat hb4 e1 HO HB HBk
      go_wp2
      go_roundw
      case rel => exact ⟨k + 1, by omega, by go_num, HO4.out, HB4.out⟩
      case measure => simp [intOf]; omega
    · obtain rfl : k = n := by omega
      have hge : ¬ (k : Int) < (k : Int) := by omega
      have hCp := HCp.out.below hb
      have m0 := hCp.cell 0
      simp only [List.getElem?_toArray, List.getElem?_cons_zero] at m0
      have HGV := hide (HBl.out.trans (hb.mono HBl.out.size))
      have HO := hide ho
      have hCV := HA.out.blk.lt
      have HV2 : Hid (V.heap.size < V2.heap.size) := HCp.out.lt
      have hA3 := HA.out.below HGV.out
      have HA3 := hide hA3
      have HIS0 := hide (RwG.is (l := List.replicate k (0 : Int)) (by rw [List.length_replicate]; exact RwG.of_own (G := fun _ => True) ho (fun _ _ => trivial)))
      by_cases q6 : d.kind = 6
      · rw [if_pos q6] at HE
        rw [q6] at m0
        have hk0 := hn0 (.inl q6)
        obtain ⟨g, rfl, hgB, ⟨u0, r0⟩, rf0, hset⟩ := own_set0 ho hk0 (by rw [List.length_replicate])
        have HST := hide (hset 2)
        have HBX := hide (HGV.out.setCell (p := ⟨g, 0, none⟩) (by show V.heap.size ≤ g; have := HV2.out; omega) (.int .i64 2))
        have hCx := hCp.other (b' := g) 0 (.int .i64 2) (by have := HV2.out; omega)
        have mx0 := hCx.cell 0
        simp only [List.getElem?_toArray, List.getElem?_cons_zero] at mx0
        rw [q6] at mx0
        clear hCx
        have hlk : (0 : Int) < (k : Int) := by omega
        clear hset hgB ho hb hA3 hCp
        go_wp2
        go_ret2
        rw [HE.out]
        exact ⟨_, _, rfl, Gw.of_below HBX.out, fun h => (by cases h), fun W h => (by injection h with h; rw [← h]; exact ⟨rfl, HST.out, HA.out.below HBX.out⟩)⟩
      · have t6 : (d.kind == 6) = false := by rw [beq_eq_false_iff_ne]; exact q6
        rw [if_neg q6] at HE
        by_cases q14 : d.kind = 14
        · rw [if_pos (.inl q14)] at HE
          rw [q14] at m0 t6
          have hk0 := hn0 (.inr (.inl q14))
          obtain ⟨g, rfl, hgB, ⟨u0, r0⟩, rf0, hset⟩ := own_set0 ho hk0 (by rw [List.length_replicate])
          have HST := hide (hset 1)
          have HBX := hide (HGV.out.setCell (p := ⟨g, 0, none⟩) (by show V.heap.size ≤ g; have := HV2.out; omega) (.int .i64 1))
          have hlk : (0 : Int) < (k : Int) := by omega
          clear hset hgB ho hb hA3 hCp
          go_wp2
          go_ret2
          rw [HE.out]
          exact ⟨_, _, rfl, Gw.of_below HBX.out, fun h => (by cases h), fun W h => (by injection h with h; rw [← h]; exact ⟨rfl, HST.out, HA.out.below HBX.out⟩)⟩
        · have t14 : (d.kind == 14) = false := by rw [beq_eq_false_iff_ne]; exact q14
          by_cases q15 : d.kind = 15
          · rw [if_pos (.inr q15)] at HE
            rw [q15] at m0 t6 t14
            have hk0 := hn0 (.inr (.inr q15))
            obtain ⟨g, rfl, hgB, ⟨u0, r0⟩, rf0, hset⟩ := own_set0 ho hk0 (by rw [List.length_replicate])
            have HST := hide (hset 1)
            have HBX := hide (HGV.out.setCell (p := ⟨g, 0, none⟩) (by show V.heap.size ≤ g; have := HV2.out; omega) (.int .i64 1))
            have hlk : (0 : Int) < (k : Int) := by omega
            clear hset hgB ho hb hA3 hCp
            go_wp2
            go_ret2
            rw [HE.out]
            exact ⟨_, _, rfl, Gw.of_below HBX.out, fun h => (by cases h), fun W h => (by injection h with h; rw [← h]; exact ⟨rfl, HST.out, HA.out.below HBX.out⟩)⟩
          · have t15 : (d.kind == 15) = false := by rw [beq_eq_false_iff_ne]; exact q15
            rw [if_neg (fun h => h.elim q14 q15)] at HE
            clear ho hb hA3 hCp
            go_wp2
            go_ret2
            rw [HE.out]
            exact ⟨_, _, rfl, Gw.of_below HGV.out, fun h => (by cases h), fun W h => (by injection h with h; rw [← h]; exact ⟨rfl, HIS0.out, HA3.out⟩)⟩
end Go.Proofs.YtdlahabeegmjiaaDoor
