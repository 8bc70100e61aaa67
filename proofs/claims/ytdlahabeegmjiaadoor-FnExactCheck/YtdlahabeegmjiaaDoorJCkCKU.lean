/-
  The walk of spec.l3typeOf: expressions with signs.
-/
import Derived.Test.YtdlahabeegmjiaaDoorJCkCKN
namespace Go.Proofs.YtdlahabeegmjiaaDoor
open Go.RowKit


set_option maxHeartbeats 8000000 in
set_option maxRecDepth 1000000 in
theorem ty_21 {w0 V : World} {C : Nat} {tv : Value} {L : List Nd} {f F i : Nat} {c : Ck} {vv : Value} {U : List Value} (hN : NS w0 tv L) (hf : f + 1 ≤ 60) (hg : Gd L (f + 1) i) (hA : CkA w0 V C tv c vv U) (hl : L.length ≤ 4000) (hk : (ndA L i).kind = 21) (IH : TyC w0 C tv L f) (hF : f ≤ F) (hvl : c.vars.length ≤ 1048576) :
    Calls Tryd.prog 31 #[.pointer (some ⟨C, 0, none⟩), .int .i64 (i : Nat)] V (TyQ w0 C tv vv U V (tyO L (F + 1) c i)) := by
  have hil := (hg.step hf).1
  obtain ⟨tb, to, tc, vt, vn, vy, htv, hNC, hNV⟩ := hN.nod hil
  have HN := hide hN
  subst htv
  have hNCr := hNC.below hA.bl
  have HNV := hide hNV
  obtain ⟨a1, c1, a2, c2, a3, c3, rfl, rfl, rfl⟩ := hNV.slc
  have HA := hide hA
  have g0 := hA.blk.cell 0
  simp only [List.getElem?_toArray, List.getElem?_cons_zero] at g0
  have hili : (i : Int) < (L.length : Int) := by omega
  obtain ⟨hkl, hkg⟩ := hg.opd hf (by omega)
  rw [hk, if_neg (by decide)] at hkl
  have HKO := hide (fun W (hW : NS W (.slice (some ⟨tb, to, none⟩) L.length tc) L) => kids_own (f := f) (i := i) (by omega) hf hg hW)
  obtain ⟨k0, hk0⟩ : ∃ k, (kidsOf L i)[0]? = some k := ⟨(kidsOf L i)[0], List.getElem?_eq_getElem (by omega)⟩
  have e0 : (kidsOf L i).getD 0 0 = k0 := by rw [List.getD_eq_getElem?_getD, hk0]; rfl
  have HE : Hid (tyO L (F + 1) c i = if (tyO L F c k0).1 = 3 then (3, (tyO L F c k0).2) else (match tyB 21 (ndA L i).n (tyO L F c k0).1 (tyO L F c k0).1 with | none => (3, (tyO L F c k0).2.badT i) | some t => (t, (tyO L F c k0).2))) := by
    show _ = _
    rw [tyO, if_neg (by omega), if_neg (by omega), if_neg (by omega), if_neg (by omega)]
    have e20 : ¬ (21 : Int) = 20 := by decide
    simp only [e0, hk, e20, if_false]
    by_cases q : (tyO L F c k0).1 = 3
    · rw [if_pos (.inl q), if_pos q]
    · rw [if_neg (fun h => q (h.elim id id)), if_neg q]
      cases tyB 21 (ndA L i).n (tyO L F c k0).1 (tyO L F c k0).1 <;> rfl
  have HG0 := hide (hkg 0 k0 hk0)
  have HC0 : Hid (∀ W c U, CkA w0 W C (.slice (some ⟨tb, to, none⟩) L.length tc) c vv U → c.vars.length ≤ 1048576 → Calls Tryd.prog 31 #[.pointer (some ⟨C, 0, none⟩), .int .i64 (k0 : Nat)] W (TyQ w0 C (.slice (some ⟨tb, to, none⟩) L.length tc) vv U W (tyO L F c k0))) := fun W c U hW hv => IH F k0 c vv U W hF HG0.out.1 HG0.out.2.1 HG0.out.2.2 hW hv
  have HKK := hide hk
  have hva := tyO_vars L F c k0
  obtain ⟨X, hX⟩ : ∃ X, kidsOf L i = X := ⟨_, rfl⟩
  simp only [hX] at HKO
  rw [hX] at hk0 hkl
  obtain ⟨A, hA0⟩ : ∃ A, tyO L F c k0 = A := ⟨_, rfl⟩
  rw [hA0] at HE hva
  have HA0 := hide hA0
  obtain ⟨d, hd⟩ : ∃ d, ndA L i = d := ⟨_, rfl⟩
  rw [hd] at hNCr HNV HKK HE
  obtain ⟨n0, n1, n2, n3, n4, n5⟩ := hNCr
  obtain ⟨Va, hVa⟩ : ∃ W, World.alloc V (.cells #[.int .i64 0, .int .i64 0, .slice none 0 0, .slice none 0 0, .slice none 0 0, .int .i64 0] 42) = W := ⟨_, rfl⟩
  have hOb : Blk Va (World.heap V).size 42 #[.int .i64 0, .int .i64 0, .slice none 0 0, .slice none 0 0, .slice none 0 0, .int .i64 0] := by rw [← hVa]; exact Blk.new _ _ _
  have o0 := hOb.cell 0
  have of0 := hOb.frozen 0
  have o1 := hOb.cell 1
  have of1 := hOb.frozen 1
  have o2 := hOb.cell 2
  have of2 := hOb.frozen 2
  have o3 := hOb.cell 3
  have of3 := hOb.frozen 3
  have o4 := hOb.cell 4
  have of4 := hOb.frozen 4
  have o5 := hOb.cell 5
  have of5 := hOb.frozen 5
  simp only [List.getElem?_toArray, List.getElem?_cons_succ, List.getElem?_cons_zero] at o0 o1 o2 o3 o4 o5
  obtain ⟨V2, hV2⟩ : ∃ W, set6w Va (World.heap V).size (.int .i64 (d).kind) (.int .i64 (d).n) (.slice a1 (d).text.size c1) (.slice a2 (d).names.length c2) (.slice a3 (d).types.length c3) (.int .i64 (d).count) = W := ⟨_, rfl⟩
  have hCp : Blk V2 (World.heap V).size 42 #[.int .i64 (d).kind, .int .i64 (d).n, .slice a1 (d).text.size c1, .slice a2 (d).names.length c2, .slice a3 (d).types.length c3, .int .i64 (d).count] := by rw [← hV2]; exact hOb.set6w _ _ _ _ _ _
  have hBl : Below (World.heap V).size V V2 := by
    have hA : Below (World.heap V).size V Va := by rw [← hVa]; exact (Below.refl _ _).alloc (Nat.le_refl _) _
    rw [← hV2]
    exact (((((hA.setCell (Nat.le_refl _) _).setCell (Nat.le_refl _) _).setCell (Nat.le_refl _) _).setCell (Nat.le_refl _) _).setCell (Nat.le_refl _) _).setCell (Nat.le_refl _) _
  unfold set6w at hV2
  have HBl := hide hBl
  have HCp := hide hCp
  have hA2 := hA.below hBl
  have HA2 := hide hA2
  have p0 := hA2.blk.cell 0
  simp only [List.getElem?_toArray, List.getElem?_cons_zero] at p0
  have m0 := hCp.cell 0
  simp only [List.getElem?_toArray, List.getElem?_cons_zero] at m0
  have HKC := hide (HKO.out V2 (HN.out.below hA2.bl))
  have hCV := hA.blk.lt
  rw [HKK.out] at n0 m0 hV2 HCp
  clear hN hNC hNV hg hk hBl hCp hd hA hA2 HKO hkg hA0 hX IH e0
  go_enter Tryd.func31, Tryd.ntmps31
  go_wp2_with fail
  refine HKC.out.mono ?_
  rintro r V3 ⟨ku, rfl, hko, hb3⟩
  obtain ⟨kb, kc, rfl, hkb, hkcell⟩ := kid_at hko (by omega)
  have hkb2 : C < kb := by have := HBl.out.size; omega
  have hA3 := HA2.out.below hb3
  have hCp3 := HCp.out.below hb3
  have r0 := hkcell 0 k0 hk0
  have HC := hide (HC0.out V3 c U hA3 hvl)
  rw [HA0.out] at HC
  have HKCl := hide hkcell
  have HA3 := hide hA3
  have HCp3 := hide hCp3
  have HGV := hide (HBl.out.trans (hb3.mono HBl.out.size))
  have hXl : 0 < X.length := by omega
  have hXl1 : (X.length : Int) = 1 := by omega
  clear hko hb3 hkcell hA3 hCp3 HKC
  go_wp2_with fail
  refine HC.out.mono ?_
  rintro r V4 ⟨rfl, hA4, hg4⟩
  have hCp4 := hg4.blk HCp3.out (by show ¬ V.heap.size = C; omega)
  have HGQ : Hid (Gw (· = C) V V4) := (Gw.of_below HGV.out).trans hg4 (fun _ _ q => q)
  have HAQ := hide hA4
  have HTF := hide (l3typeFault_any hA4 i)
  have z0 := hCp4.cell 0
  have z1 := hCp4.cell 1
  simp only [List.getElem?_toArray, List.getElem?_cons_succ, List.getElem?_cons_zero] at z0 z1
  clear hA4 hg4 hCp4
  obtain ⟨a, ca⟩ := A
  simp only at HE HAQ HTF ⊢
  obtain ⟨N, hNn⟩ : ∃ n, d.n = n := ⟨_, rfl⟩
  rw [hNn] at z1 HE
  clear hNn r0
  by_cases qa3 : a = 3
  · have teqa3 : (a == 3) = true := by rw [beq_iff_eq]; exact qa3
    have tnqa3 : (a != 3) = false := by rw [bne_eq_false_iff_eq]; exact qa3
    rw [if_pos qa3] at HE
    go_wp2
    go_ret
    rw [HE.out]
    exact ⟨rfl, HAQ.out, HGQ.out⟩
  · have teqa3 : (a == 3) = false := by rw [beq_eq_false_iff_ne]; exact qa3
    have tnqa3 : (a != 3) = true := by rw [bne_iff_ne]; exact qa3
    rw [if_neg qa3] at HE
    by_cases qa2 : a = 2
    · have teqa2 : (a == 2) = true := by rw [beq_iff_eq]; exact qa2
      have tnqa2 : (a != 2) = false := by rw [bne_eq_false_iff_eq]; exact qa2
      have HE := hide (HE.out.trans (show _ = ((2 : Int), ca) by unfold tyB; simp [qa2]))
      go_wp2
      go_ret
      rw [HE.out]
      exact ⟨rfl, HAQ.out, HGQ.out⟩
    · have teqa2 : (a == 2) = false := by rw [beq_eq_false_iff_ne]; exact qa2
      have tnqa2 : (a != 2) = true := by rw [bne_iff_ne]; exact qa2
      have HE := hide (HE.out.trans (show _ = ((3 : Int), Ck.badT ca i) by unfold tyB; simp [qa2]))
      go_wp2_with fail
      refine HTF.out.mono ?_
      rintro r V6 ⟨rfl, hA6, hg6⟩
      have HA6 := hide hA6
      have HG6 := hide (HGQ.out.trans hg6 (fun _ _ q => q))
      clear hA6 hg6
      go_wp2
      go_ret
      rw [HE.out]
      exact ⟨rfl, HA6.out, HG6.out⟩

set_option maxHeartbeats 8000000 in
set_option maxRecDepth 1000000 in
theorem ty_22 {w0 V : World} {C : Nat} {tv : Value} {L : List Nd} {f F i : Nat} {c : Ck} {vv : Value} {U : List Value} (hN : NS w0 tv L) (hf : f + 1 ≤ 60) (hg : Gd L (f + 1) i) (hA : CkA w0 V C tv c vv U) (hl : L.length ≤ 4000) (hk : (ndA L i).kind = 22) (IH : TyC w0 C tv L f) (hF : f ≤ F) (hvl : c.vars.length ≤ 1048576) :
    Calls Tryd.prog 31 #[.pointer (some ⟨C, 0, none⟩), .int .i64 (i : Nat)] V (TyQ w0 C tv vv U V (tyO L (F + 1) c i)) := by
  have hil := (hg.step hf).1
  obtain ⟨tb, to, tc, vt, vn, vy, htv, hNC, hNV⟩ := hN.nod hil
  have HN := hide hN
  subst htv
  have hNCr := hNC.below hA.bl
  have HNV := hide hNV
  obtain ⟨a1, c1, a2, c2, a3, c3, rfl, rfl, rfl⟩ := hNV.slc
  have HA := hide hA
  have g0 := hA.blk.cell 0
  simp only [List.getElem?_toArray, List.getElem?_cons_zero] at g0
  have hili : (i : Int) < (L.length : Int) := by omega
  obtain ⟨hkl, hkg⟩ := hg.opd hf (by omega)
  rw [hk, if_neg (by decide)] at hkl
  have HKO := hide (fun W (hW : NS W (.slice (some ⟨tb, to, none⟩) L.length tc) L) => kids_own (f := f) (i := i) (by omega) hf hg hW)
  obtain ⟨k0, hk0⟩ : ∃ k, (kidsOf L i)[0]? = some k := ⟨(kidsOf L i)[0], List.getElem?_eq_getElem (by omega)⟩
  have e0 : (kidsOf L i).getD 0 0 = k0 := by rw [List.getD_eq_getElem?_getD, hk0]; rfl
  have HE : Hid (tyO L (F + 1) c i = if (tyO L F c k0).1 = 3 then (3, (tyO L F c k0).2) else (match tyB 22 (ndA L i).n (tyO L F c k0).1 (tyO L F c k0).1 with | none => (3, (tyO L F c k0).2.badT i) | some t => (t, (tyO L F c k0).2))) := by
    show _ = _
    rw [tyO, if_neg (by omega), if_neg (by omega), if_neg (by omega), if_neg (by omega)]
    have e20 : ¬ (22 : Int) = 20 := by decide
    simp only [e0, hk, e20, if_false]
    by_cases q : (tyO L F c k0).1 = 3
    · rw [if_pos (.inl q), if_pos q]
    · rw [if_neg (fun h => q (h.elim id id)), if_neg q]
      cases tyB 22 (ndA L i).n (tyO L F c k0).1 (tyO L F c k0).1 <;> rfl
  have HG0 := hide (hkg 0 k0 hk0)
  have HC0 : Hid (∀ W c U, CkA w0 W C (.slice (some ⟨tb, to, none⟩) L.length tc) c vv U → c.vars.length ≤ 1048576 → Calls Tryd.prog 31 #[.pointer (some ⟨C, 0, none⟩), .int .i64 (k0 : Nat)] W (TyQ w0 C (.slice (some ⟨tb, to, none⟩) L.length tc) vv U W (tyO L F c k0))) := fun W c U hW hv => IH F k0 c vv U W hF HG0.out.1 HG0.out.2.1 HG0.out.2.2 hW hv
  have HKK := hide hk
  have hva := tyO_vars L F c k0
  obtain ⟨X, hX⟩ : ∃ X, kidsOf L i = X := ⟨_, rfl⟩
  simp only [hX] at HKO
  rw [hX] at hk0 hkl
  obtain ⟨A, hA0⟩ : ∃ A, tyO L F c k0 = A := ⟨_, rfl⟩
  rw [hA0] at HE hva
  have HA0 := hide hA0
  obtain ⟨d, hd⟩ : ∃ d, ndA L i = d := ⟨_, rfl⟩
  rw [hd] at hNCr HNV HKK HE
  obtain ⟨n0, n1, n2, n3, n4, n5⟩ := hNCr
  obtain ⟨Va, hVa⟩ : ∃ W, World.alloc V (.cells #[.int .i64 0, .int .i64 0, .slice none 0 0, .slice none 0 0, .slice none 0 0, .int .i64 0] 42) = W := ⟨_, rfl⟩
  have hOb : Blk Va (World.heap V).size 42 #[.int .i64 0, .int .i64 0, .slice none 0 0, .slice none 0 0, .slice none 0 0, .int .i64 0] := by rw [← hVa]; exact Blk.new _ _ _
  have o0 := hOb.cell 0
  have of0 := hOb.frozen 0
  have o1 := hOb.cell 1
  have of1 := hOb.frozen 1
  have o2 := hOb.cell 2
  have of2 := hOb.frozen 2
  have o3 := hOb.cell 3
  have of3 := hOb.frozen 3
  have o4 := hOb.cell 4
  have of4 := hOb.frozen 4
  have o5 := hOb.cell 5
  have of5 := hOb.frozen 5
  simp only [List.getElem?_toArray, List.getElem?_cons_succ, List.getElem?_cons_zero] at o0 o1 o2 o3 o4 o5
  obtain ⟨V2, hV2⟩ : ∃ W, set6w Va (World.heap V).size (.int .i64 (d).kind) (.int .i64 (d).n) (.slice a1 (d).text.size c1) (.slice a2 (d).names.length c2) (.slice a3 (d).types.length c3) (.int .i64 (d).count) = W := ⟨_, rfl⟩
  have hCp : Blk V2 (World.heap V).size 42 #[.int .i64 (d).kind, .int .i64 (d).n, .slice a1 (d).text.size c1, .slice a2 (d).names.length c2, .slice a3 (d).types.length c3, .int .i64 (d).count] := by rw [← hV2]; exact hOb.set6w _ _ _ _ _ _
  have hBl : Below (World.heap V).size V V2 := by
    have hA : Below (World.heap V).size V Va := by rw [← hVa]; exact (Below.refl _ _).alloc (Nat.le_refl _) _
    rw [← hV2]
    exact (((((hA.setCell (Nat.le_refl _) _).setCell (Nat.le_refl _) _).setCell (Nat.le_refl _) _).setCell (Nat.le_refl _) _).setCell (Nat.le_refl _) _).setCell (Nat.le_refl _) _
  unfold set6w at hV2
  have HBl := hide hBl
  have HCp := hide hCp
  have hA2 := hA.below hBl
  have HA2 := hide hA2
  have p0 := hA2.blk.cell 0
  simp only [List.getElem?_toArray, List.getElem?_cons_zero] at p0
  have m0 := hCp.cell 0
  simp only [List.getElem?_toArray, List.getElem?_cons_zero] at m0
  have HKC := hide (HKO.out V2 (HN.out.below hA2.bl))
  have hCV := hA.blk.lt
  rw [HKK.out] at n0 m0 hV2 HCp
  clear hN hNC hNV hg hk hBl hCp hd hA hA2 HKO hkg hA0 hX IH e0
  go_enter Tryd.func31, Tryd.ntmps31
  go_wp2_with fail
  refine HKC.out.mono ?_
  rintro r V3 ⟨ku, rfl, hko, hb3⟩
  obtain ⟨kb, kc, rfl, hkb, hkcell⟩ := kid_at hko (by omega)
  have hkb2 : C < kb := by have := HBl.out.size; omega
  have hA3 := HA2.out.below hb3
  have hCp3 := HCp.out.below hb3
  have r0 := hkcell 0 k0 hk0
  have HC := hide (HC0.out V3 c U hA3 hvl)
  rw [HA0.out] at HC
  have HKCl := hide hkcell
  have HA3 := hide hA3
  have HCp3 := hide hCp3
  have HGV := hide (HBl.out.trans (hb3.mono HBl.out.size))
  have hXl : 0 < X.length := by omega
  have hXl1 : (X.length : Int) = 1 := by omega
  clear hko hb3 hkcell hA3 hCp3 HKC
  go_wp2_with fail
  refine HC.out.mono ?_
  rintro r V4 ⟨rfl, hA4, hg4⟩
  have hCp4 := hg4.blk HCp3.out (by show ¬ V.heap.size = C; omega)
  have HGQ : Hid (Gw (· = C) V V4) := (Gw.of_below HGV.out).trans hg4 (fun _ _ q => q)
  have HAQ := hide hA4
  have HTF := hide (l3typeFault_any hA4 i)
  have z0 := hCp4.cell 0
  have z1 := hCp4.cell 1
  simp only [List.getElem?_toArray, List.getElem?_cons_succ, List.getElem?_cons_zero] at z0 z1
  clear hA4 hg4 hCp4
  obtain ⟨a, ca⟩ := A
  simp only at HE HAQ HTF ⊢
  obtain ⟨N, hNn⟩ : ∃ n, d.n = n := ⟨_, rfl⟩
  rw [hNn] at z1 HE
  clear hNn r0
  by_cases qa3 : a = 3
  · have teqa3 : (a == 3) = true := by rw [beq_iff_eq]; exact qa3
    have tnqa3 : (a != 3) = false := by rw [bne_eq_false_iff_eq]; exact qa3
    rw [if_pos qa3] at HE
    go_wp2
    go_ret
    rw [HE.out]
    exact ⟨rfl, HAQ.out, HGQ.out⟩
  · have teqa3 : (a == 3) = false := by rw [beq_eq_false_iff_ne]; exact qa3
    have tnqa3 : (a != 3) = true := by rw [bne_iff_ne]; exact qa3
    rw [if_neg qa3] at HE
    by_cases qa0 : a = 0
    · have teqa0 : (a == 0) = true := by rw [beq_iff_eq]; exact qa0
      have tnqa0 : (a != 0) = false := by rw [bne_eq_false_iff_eq]; exact qa0
      have HE := hide (HE.out.trans (show _ = ((0 : Int), ca) by unfold tyB; simp [qa0]))
      go_wp2
      go_ret
      rw [HE.out]
      exact ⟨rfl, HAQ.out, HGQ.out⟩
    · have teqa0 : (a == 0) = false := by rw [beq_eq_false_iff_ne]; exact qa0
      have tnqa0 : (a != 0) = true := by rw [bne_iff_ne]; exact qa0
      have HE := hide (HE.out.trans (show _ = ((3 : Int), Ck.badT ca i) by unfold tyB; simp [qa0]))
      go_wp2_with fail
      refine HTF.out.mono ?_
      rintro r V6 ⟨rfl, hA6, hg6⟩
      have HA6 := hide hA6
      have HG6 := hide (HGQ.out.trans hg6 (fun _ _ q => q))
      clear hA6 hg6
      go_wp2
      go_ret
      rw [HE.out]
      exact ⟨rfl, HA6.out, HG6.out⟩

set_option maxHeartbeats 8000000 in
set_option maxRecDepth 1000000 in
theorem ty_20 {w0 V : World} {C : Nat} {tv : Value} {L : List Nd} {f F i : Nat} {c : Ck} {vv : Value} {U : List Value} (hN : NS w0 tv L) (hf : f + 1 ≤ 60) (hg : Gd L (f + 1) i) (hA : CkA w0 V C tv c vv U) (hl : L.length ≤ 4000) (hk : (ndA L i).kind = 20) (IH : TyC w0 C tv L f) (hF : f ≤ F) (hvl : c.vars.length ≤ 1048576) :
    Calls Tryd.prog 31 #[.pointer (some ⟨C, 0, none⟩), .int .i64 (i : Nat)] V (TyQ w0 C tv vv U V (tyO L (F + 1) c i)) := by
  have hil := (hg.step hf).1
  obtain ⟨tb, to, tc, vt, vn, vy, htv, hNC, hNV⟩ := hN.nod hil
  have HN := hide hN
  subst htv
  have hNCr := hNC.below hA.bl
  have HNV := hide hNV
  obtain ⟨a1, c1, a2, c2, a3, c3, rfl, rfl, rfl⟩ := hNV.slc
  have HA := hide hA
  have g0 := hA.blk.cell 0
  simp only [List.getElem?_toArray, List.getElem?_cons_zero] at g0
  have hili : (i : Int) < (L.length : Int) := by omega
  obtain ⟨hkl, hkg⟩ := hg.opd hf (by omega)
  rw [hk, if_pos rfl] at hkl
  have HKO := hide (fun W (hW : NS W (.slice (some ⟨tb, to, none⟩) L.length tc) L) => kids_own (f := f) (i := i) (by omega) hf hg hW)
  obtain ⟨k0, hk0⟩ : ∃ k, (kidsOf L i)[0]? = some k := ⟨(kidsOf L i)[0], List.getElem?_eq_getElem (by omega)⟩
  obtain ⟨k1, hk1⟩ : ∃ k, (kidsOf L i)[1]? = some k := ⟨(kidsOf L i)[1], List.getElem?_eq_getElem (by omega)⟩
  have e0 : (kidsOf L i).getD 0 0 = k0 := by rw [List.getD_eq_getElem?_getD, hk0]; rfl
  have e1 : (kidsOf L i).getD 1 0 = k1 := by rw [List.getD_eq_getElem?_getD, hk1]; rfl
  have HE : Hid (tyO L (F + 1) c i = if (tyO L F c k0).1 = 3 ∨ (tyO L F (tyO L F c k0).2 k1).1 = 3 then (3, (tyO L F (tyO L F c k0).2 k1).2) else (match tyB 20 (ndA L i).n (tyO L F c k0).1 (tyO L F (tyO L F c k0).2 k1).1 with | none => (3, (tyO L F (tyO L F c k0).2 k1).2.badT i) | some t => (t, (tyO L F (tyO L F c k0).2 k1).2))) := by
    show _ = _
    rw [tyO, if_neg (by omega), if_neg (by omega), if_neg (by omega), if_neg (by omega)]
    simp only [e0, e1, hk, if_true]
    split
    · rfl
    · cases tyB 20 (ndA L i).n (tyO L F c k0).1 (tyO L F (tyO L F c k0).2 k1).1 <;> rfl
  have HG0 := hide (hkg 0 k0 hk0)
  have HG1 := hide (hkg 1 k1 hk1)
  have HC0 : Hid (∀ W c U, CkA w0 W C (.slice (some ⟨tb, to, none⟩) L.length tc) c vv U → c.vars.length ≤ 1048576 → Calls Tryd.prog 31 #[.pointer (some ⟨C, 0, none⟩), .int .i64 (k0 : Nat)] W (TyQ w0 C (.slice (some ⟨tb, to, none⟩) L.length tc) vv U W (tyO L F c k0))) := fun W c U hW hv => IH F k0 c vv U W hF HG0.out.1 HG0.out.2.1 HG0.out.2.2 hW hv
  have HC1 : Hid (∀ W c U, CkA w0 W C (.slice (some ⟨tb, to, none⟩) L.length tc) c vv U → c.vars.length ≤ 1048576 → Calls Tryd.prog 31 #[.pointer (some ⟨C, 0, none⟩), .int .i64 (k1 : Nat)] W (TyQ w0 C (.slice (some ⟨tb, to, none⟩) L.length tc) vv U W (tyO L F c k1))) := fun W c U hW hv => IH F k1 c vv U W hF HG1.out.1 HG1.out.2.1 HG1.out.2.2 hW hv
  have HKK := hide hk
  have hva := tyO_vars L F c k0
  obtain ⟨X, hX⟩ : ∃ X, kidsOf L i = X := ⟨_, rfl⟩
  simp only [hX] at HKO
  rw [hX] at hk0 hkl hk1
  obtain ⟨A, hA0⟩ : ∃ A, tyO L F c k0 = A := ⟨_, rfl⟩
  rw [hA0] at HE hva
  have HA0 := hide hA0
  have hvb := tyO_vars L F A.2 k1
  obtain ⟨Bq, hB0⟩ : ∃ B, tyO L F A.2 k1 = B := ⟨_, rfl⟩
  rw [hB0] at HE hvb
  have HB0 := hide hB0
  obtain ⟨d, hd⟩ : ∃ d, ndA L i = d := ⟨_, rfl⟩
  rw [hd] at hNCr HNV HKK HE
  obtain ⟨n0, n1, n2, n3, n4, n5⟩ := hNCr
  obtain ⟨Va, hVa⟩ : ∃ W, World.alloc V (.cells #[.int .i64 0, .int .i64 0, .slice none 0 0, .slice none 0 0, .slice none 0 0, .int .i64 0] 42) = W := ⟨_, rfl⟩
  have hOb : Blk Va (World.heap V).size 42 #[.int .i64 0, .int .i64 0, .slice none 0 0, .slice none 0 0, .slice none 0 0, .int .i64 0] := by rw [← hVa]; exact Blk.new _ _ _
  have o0 := hOb.cell 0
  have of0 := hOb.frozen 0
  have o1 := hOb.cell 1
  have of1 := hOb.frozen 1
  have o2 := hOb.cell 2
  have of2 := hOb.frozen 2
  have o3 := hOb.cell 3
  have of3 := hOb.frozen 3
  have o4 := hOb.cell 4
  have of4 := hOb.frozen 4
  have o5 := hOb.cell 5
  have of5 := hOb.frozen 5
  simp only [List.getElem?_toArray, List.getElem?_cons_succ, List.getElem?_cons_zero] at o0 o1 o2 o3 o4 o5
  obtain ⟨V2, hV2⟩ : ∃ W, set6w Va (World.heap V).size (.int .i64 (d).kind) (.int .i64 (d).n) (.slice a1 (d).text.size c1) (.slice a2 (d).names.length c2) (.slice a3 (d).types.length c3) (.int .i64 (d).count) = W := ⟨_, rfl⟩
  have hCp : Blk V2 (World.heap V).size 42 #[.int .i64 (d).kind, .int .i64 (d).n, .slice a1 (d).text.size c1, .slice a2 (d).names.length c2, .slice a3 (d).types.length c3, .int .i64 (d).count] := by rw [← hV2]; exact hOb.set6w _ _ _ _ _ _
  have hBl : Below (World.heap V).size V V2 := by
    have hA : Below (World.heap V).size V Va := by rw [← hVa]; exact (Below.refl _ _).alloc (Nat.le_refl _) _
    rw [← hV2]
    exact (((((hA.setCell (Nat.le_refl _) _).setCell (Nat.le_refl _) _).setCell (Nat.le_refl _) _).setCell (Nat.le_refl _) _).setCell (Nat.le_refl _) _).setCell (Nat.le_refl _) _
  unfold set6w at hV2
  have HBl := hide hBl
  have HCp := hide hCp
  have hA2 := hA.below hBl
  have HA2 := hide hA2
  have p0 := hA2.blk.cell 0
  simp only [List.getElem?_toArray, List.getElem?_cons_zero] at p0
  have m0 := hCp.cell 0
  simp only [List.getElem?_toArray, List.getElem?_cons_zero] at m0
  have HKC := hide (HKO.out V2 (HN.out.below hA2.bl))
  have hCV := hA.blk.lt
  rw [HKK.out] at n0 m0 hV2 HCp
  clear hN hNC hNV hg hk hBl hCp hd hA hA2 HKO hkg hA0 hB0 hX IH e0 e1
  go_enter Tryd.func31, Tryd.ntmps31
  go_wp2_with fail
  refine HKC.out.mono ?_
  rintro r V3 ⟨ku, rfl, hko, hb3⟩
  obtain ⟨kb, kc, rfl, hkb, hkcell⟩ := kid_at hko (by omega)
  have hkb2 : C < kb := by have := HBl.out.size; omega
  have hA3 := HA2.out.below hb3
  have hCp3 := HCp.out.below hb3
  have r0 := hkcell 0 k0 hk0
  have HC := hide (HC0.out V3 c U hA3 hvl)
  rw [HA0.out] at HC
  have HKCl := hide hkcell
  have HA3 := hide hA3
  have HCp3 := hide hCp3
  have HGV := hide (HBl.out.trans (hb3.mono HBl.out.size))
  have hXl : 0 < X.length := by omega
  have hXl1 : (X.length : Int) = 2 := by omega
  clear hko hb3 hkcell hA3 hCp3 HKC
  go_wp2_with fail
  refine HC.out.mono ?_
  rintro r V4 ⟨rfl, hA4, hg4⟩
  have hCp4 := hg4.blk HCp3.out (by show ¬ V.heap.size = C; omega)
  have hkc4 := hg4.cell (HKCl.out 1 k1 hk1) (by show ¬ kb = C; omega)
  have z4 := hCp4.cell 0
  simp only [List.getElem?_toArray, List.getElem?_cons_zero] at z4
  have HC1q := hide (HC1.out V4 A.2 U hA4 (by rw [hva]; exact hvl))
  rw [HB0.out] at HC1q
  have HCp4 := hide hCp4
  have HG4 := hide hg4
  clear hA4 hg4 hCp4
  go_wp2_with fail
  refine HC1q.out.mono ?_
  rintro r V5 ⟨rfl, hA5, hg5⟩
  have hCp5 := hg5.blk HCp4.out (by show ¬ V.heap.size = C; omega)
  have HGQ : Hid (Gw (· = C) V V5) := ((Gw.of_below HGV.out).trans HG4.out (fun _ _ q => q)).trans hg5 (fun _ _ q => q)
  have HAQ := hide hA5
  have HTF := hide (l3typeFault_any hA5 i)
  have z0 := hCp5.cell 0
  have z1 := hCp5.cell 1
  simp only [List.getElem?_toArray, List.getElem?_cons_succ, List.getElem?_cons_zero] at z0 z1
  clear hA5 hg5 hCp5 HCp4 HG4 HC1q hkc4 z4
  obtain ⟨a, ca⟩ := A
  obtain ⟨b, cb⟩ := Bq
  simp only at HE HAQ HTF ⊢
  obtain ⟨N, hNn⟩ : ∃ n, d.n = n := ⟨_, rfl⟩
  rw [hNn] at z1 HE
  clear hNn r0
  by_cases qa3 : a = 3
  · have teqa3 : (a == 3) = true := by rw [beq_iff_eq]; exact qa3
    have tnqa3 : (a != 3) = false := by rw [bne_eq_false_iff_eq]; exact qa3
    rw [if_pos (.inl qa3)] at HE
    go_wp2
    go_ret
    rw [HE.out]
    exact ⟨rfl, HAQ.out, HGQ.out⟩
  · have teqa3 : (a == 3) = false := by rw [beq_eq_false_iff_ne]; exact qa3
    have tnqa3 : (a != 3) = true := by rw [bne_iff_ne]; exact qa3
    by_cases qb3 : b = 3
    · have teqb3 : (b == 3) = true := by rw [beq_iff_eq]; exact qb3
      have tnqb3 : (b != 3) = false := by rw [bne_eq_false_iff_eq]; exact qb3
      rw [if_pos (.inr qb3)] at HE
      go_wp2
      go_ret
      rw [HE.out]
      exact ⟨rfl, HAQ.out, HGQ.out⟩
    · have teqb3 : (b == 3) = false := by rw [beq_eq_false_iff_ne]; exact qb3
      have tnqb3 : (b != 3) = true := by rw [bne_iff_ne]; exact qb3
      rw [if_neg (fun h => h.elim qa3 qb3)] at HE
      by_cases ql1 : N ≤ 1
      · have tql1 : decide (N ≤ 1) = true := decide_eq_true ql1
        by_cases qa2 : a = 2
        · have teqa2 : (a == 2) = true := by rw [beq_iff_eq]; exact qa2
          have tnqa2 : (a != 2) = false := by rw [bne_eq_false_iff_eq]; exact qa2
          by_cases qb2 : b = 2
          · have teqb2 : (b == 2) = true := by rw [beq_iff_eq]; exact qb2
            have tnqb2 : (b != 2) = false := by rw [bne_eq_false_iff_eq]; exact qb2
            have HE := hide (HE.out.trans (show _ = ((2 : Int), cb) by unfold tyB; simp [ql1, qa2, qb2]))
            go_wp2
            go_ret
            rw [HE.out]
            exact ⟨rfl, HAQ.out, HGQ.out⟩
          · have teqb2 : (b == 2) = false := by rw [beq_eq_false_iff_ne]; exact qb2
            have tnqb2 : (b != 2) = true := by rw [bne_iff_ne]; exact qb2
            have HE := hide (HE.out.trans (show _ = ((3 : Int), Ck.badT cb i) by unfold tyB; simp [ql1, qa2, qb2]))
            go_wp2_with fail
            refine HTF.out.mono ?_
            rintro r V6 ⟨rfl, hA6, hg6⟩
            have HA6 := hide hA6
            have HG6 := hide (HGQ.out.trans hg6 (fun _ _ q => q))
            clear hA6 hg6
            go_wp2
            go_ret
            rw [HE.out]
            exact ⟨rfl, HA6.out, HG6.out⟩
        · have teqa2 : (a == 2) = false := by rw [beq_eq_false_iff_ne]; exact qa2
          have tnqa2 : (a != 2) = true := by rw [bne_iff_ne]; exact qa2
          have HE := hide (HE.out.trans (show _ = ((3 : Int), Ck.badT cb i) by unfold tyB; simp [ql1, qa2]))
          go_wp2_with fail
          refine HTF.out.mono ?_
          rintro r V6 ⟨rfl, hA6, hg6⟩
          have HA6 := hide hA6
          have HG6 := hide (HGQ.out.trans hg6 (fun _ _ q => q))
          clear hA6 hg6
          go_wp2
          go_ret
          rw [HE.out]
          exact ⟨rfl, HA6.out, HG6.out⟩
      · have tql1 : decide (N ≤ 1) = false := decide_eq_false ql1
        by_cases ql3 : N ≤ 3
        · have tql3 : decide (N ≤ 3) = true := decide_eq_true ql3
          by_cases qab : a = b
          · have teqab : (a == b) = true := by rw [beq_iff_eq]; exact qab
            have tnqab : (a != b) = false := by rw [bne_eq_false_iff_eq]; exact qab
            have HE := hide (HE.out.trans (show _ = ((2 : Int), cb) by unfold tyB; subst qab; simp [ql1, ql3]))
            go_wp2
            go_ret
            rw [HE.out]
            exact ⟨rfl, HAQ.out, HGQ.out⟩
          · have teqab : (a == b) = false := by rw [beq_eq_false_iff_ne]; exact qab
            have tnqab : (a != b) = true := by rw [bne_iff_ne]; exact qab
            have HE := hide (HE.out.trans (show _ = ((3 : Int), Ck.badT cb i) by unfold tyB; simp [ql1, ql3, qab]))
            go_wp2_with fail
            refine HTF.out.mono ?_
            rintro r V6 ⟨rfl, hA6, hg6⟩
            have HA6 := hide hA6
            have HG6 := hide (HGQ.out.trans hg6 (fun _ _ q => q))
            clear hA6 hg6
            go_wp2
            go_ret
            rw [HE.out]
            exact ⟨rfl, HA6.out, HG6.out⟩
        · have tql3 : decide (N ≤ 3) = false := decide_eq_false ql3
          by_cases qN8 : N = 8
          · have teqN8 : (N == 8) = true := by rw [beq_iff_eq]; exact qN8
            have tnqN8 : (N != 8) = false := by rw [bne_eq_false_iff_eq]; exact qN8
            by_cases qa2 : a = 2
            · have teqa2 : (a == 2) = true := by rw [beq_iff_eq]; exact qa2
              have tnqa2 : (a != 2) = false := by rw [bne_eq_false_iff_eq]; exact qa2
              have HE := hide (HE.out.trans (show _ = ((3 : Int), Ck.badT cb i) by unfold tyB; simp [qN8, qa2]))
              go_wp2_with fail
              refine HTF.out.mono ?_
              rintro r V6 ⟨rfl, hA6, hg6⟩
              have HA6 := hide hA6
              have HG6 := hide (HGQ.out.trans hg6 (fun _ _ q => q))
              clear hA6 hg6
              go_wp2
              go_ret
              rw [HE.out]
              exact ⟨rfl, HA6.out, HG6.out⟩
            · have teqa2 : (a == 2) = false := by rw [beq_eq_false_iff_ne]; exact qa2
              have tnqa2 : (a != 2) = true := by rw [bne_iff_ne]; exact qa2
              by_cases qb2 : b = 2
              · have teqb2 : (b == 2) = true := by rw [beq_iff_eq]; exact qb2
                have tnqb2 : (b != 2) = false := by rw [bne_eq_false_iff_eq]; exact qb2
                have HE := hide (HE.out.trans (show _ = ((3 : Int), Ck.badT cb i) by unfold tyB; simp [qN8, qa2, qb2]))
                go_wp2_with fail
                refine HTF.out.mono ?_
                rintro r V6 ⟨rfl, hA6, hg6⟩
                have HA6 := hide hA6
                have HG6 := hide (HGQ.out.trans hg6 (fun _ _ q => q))
                clear hA6 hg6
                go_wp2
                go_ret
                rw [HE.out]
                exact ⟨rfl, HA6.out, HG6.out⟩
              · have teqb2 : (b == 2) = false := by rw [beq_eq_false_iff_ne]; exact qb2
                have tnqb2 : (b != 2) = true := by rw [bne_iff_ne]; exact qb2
                have HE := hide (HE.out.trans (show _ = ((1 : Int), cb) by unfold tyB; simp [qN8, qa2, qb2]))
                go_wp2
                go_ret
                rw [HE.out]
                exact ⟨rfl, HAQ.out, HGQ.out⟩
          · have teqN8 : (N == 8) = false := by rw [beq_eq_false_iff_ne]; exact qN8
            have tnqN8 : (N != 8) = true := by rw [bne_iff_ne]; exact qN8
            by_cases qa0 : a = 0
            · have teqa0 : (a == 0) = true := by rw [beq_iff_eq]; exact qa0
              have tnqa0 : (a != 0) = false := by rw [bne_eq_false_iff_eq]; exact qa0
              by_cases qb0 : b = 0
              · have teqb0 : (b == 0) = true := by rw [beq_iff_eq]; exact qb0
                have tnqb0 : (b != 0) = false := by rw [bne_eq_false_iff_eq]; exact qb0
                by_cases ql7 : N ≤ 7
                · have tql7 : decide (N ≤ 7) = true := decide_eq_true ql7
                  have HE := hide (HE.out.trans (show _ = ((2 : Int), cb) by unfold tyB; simp [ql1, ql3, qN8, ql7, qa0, qb0]))
                  go_wp2
                  go_ret
                  rw [HE.out]
                  exact ⟨rfl, HAQ.out, HGQ.out⟩
                · have tql7 : decide (N ≤ 7) = false := decide_eq_false ql7
                  have HE := hide (HE.out.trans (show _ = ((0 : Int), cb) by unfold tyB; simp [ql1, ql3, qN8, ql7, qa0, qb0]))
                  go_wp2
                  go_ret
                  rw [HE.out]
                  exact ⟨rfl, HAQ.out, HGQ.out⟩
              · have teqb0 : (b == 0) = false := by rw [beq_eq_false_iff_ne]; exact qb0
                have tnqb0 : (b != 0) = true := by rw [bne_iff_ne]; exact qb0
                have HE := hide (HE.out.trans (show _ = ((3 : Int), Ck.badT cb i) by unfold tyB; simp [ql1, ql3, qN8, qa0, qb0]))
                go_wp2_with fail
                refine HTF.out.mono ?_
                rintro r V6 ⟨rfl, hA6, hg6⟩
                have HA6 := hide hA6
                have HG6 := hide (HGQ.out.trans hg6 (fun _ _ q => q))
                clear hA6 hg6
                go_wp2
                go_ret
                rw [HE.out]
                exact ⟨rfl, HA6.out, HG6.out⟩
            · have teqa0 : (a == 0) = false := by rw [beq_eq_false_iff_ne]; exact qa0
              have tnqa0 : (a != 0) = true := by rw [bne_iff_ne]; exact qa0
              have HE := hide (HE.out.trans (show _ = ((3 : Int), Ck.badT cb i) by unfold tyB; simp [ql1, ql3, qN8, qa0]))
              go_wp2_with fail
              refine HTF.out.mono ?_
              rintro r V6 ⟨rfl, hA6, hg6⟩
              have HA6 := hide hA6
              have HG6 := hide (HGQ.out.trans hg6 (fun _ _ q => q))
              clear hA6 hg6
              go_wp2
              go_ret
              rw [HE.out]
              exact ⟨rfl, HA6.out, HG6.out⟩
theorem ty_all {w0 : World} {C : Nat} {tv : Value} {L : List Nd} (hl : L.length ≤ 4000) (hN : NS w0 tv L) : ∀ f, f ≤ 60 → TyC w0 C tv L f
  | 0, _ => fun F i c vv U V _ hg _ _ _ _ => by obtain ⟨g, h⟩ := hg.pos; omega
  | f + 1, hf => fun F i c vv U V hF hg h16 h22 hA hv => by
    have IH := ty_all (C := C) hl hN f (by omega)
    obtain ⟨F', rfl⟩ : ∃ F', F = F' + 1 := ⟨F - 1, by omega⟩
    have hk : (ndA L i).kind = 16 ∨ (ndA L i).kind = 17 ∨ (ndA L i).kind = 18 ∨ (ndA L i).kind = 19 ∨ (ndA L i).kind = 20 ∨ (ndA L i).kind = 21 ∨ (ndA L i).kind = 22 := by omega
    rcases hk with h | h | h | h | h | h | h
    · exact ty_16 hN hf hg hA h
    · exact ty_17 hN hf hg hA h
    · exact ty_18 hN hf hg hA h
    · exact ty_19 hN hf hg hA h hv
    · exact ty_20 hN hf hg hA hl h IH (by omega) hv
    · exact ty_21 hN hf hg hA hl h IH (by omega) hv
    · exact ty_22 hN hf hg hA hl h IH (by omega) hv
end Go.Proofs.YtdlahabeegmjiaaDoor
