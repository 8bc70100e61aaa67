/-
  The walk of impl's defined word.
-/
import Derived.Test.YtdlahabeegmjiaaDoorJCkIKI
import Derived.Test.YtdlahabeegmjiaaDoorJCkNE3
import Derived.Deep.CutRange
namespace Go.Proofs.YtdlahabeegmjiaaDoor
open Go.RowKit

/-- A new scope is set in. -/
theorem CiA.newS {w1 V : World} {tv : Value} {L : List Nd} {B MM C S M n S' M' : Nat} {s : Ci} {bv : Value} {V5 : World} (h : CiA w1 V tv L B MM C S M s bv n) (hb : Below V.heap.size V V5) (hs : ScA V5 S' M' (.slice none 0 0) [] 0) (hM : V.heap.size ≤ M') : CiA w1 (V5.setCell ⟨C, 3, none⟩ (.pointer (some ⟨S', 0, none⟩))) tv L B MM C S' M' { s with vars := [] } (.slice none 0 0) 0 := by
  have hC := h.blk.lt
  have hw := h.bl.size
  have hm := hs.ms
  refine ⟨(h.below hb).blk.set 3 _, hs.gw (Gw.set V5 C 3 _) (fun k hk q => ?_), (h.below hb).bl.setCell h.lc _, by omega, h.lc, fun k hk q => ?_⟩
  · rcases hk with rfl | rfl | hk
    · omega
    · omega
    · cases hk
  · rcases hk with rfl | rfl | hk
    · omega
    · omega
    · cases hk
/-- The old scope is set back. -/
theorem CiA.backS {w1 V V5 V7 : World} {tv : Value} {L : List Nd} {B MM C S M n S' M' n' : Nat} {s s2 : Ci} {bv bv' : Value} (h : CiA w1 V tv L B MM C S M s bv n) (hb : Below V.heap.size V V5) (hS' : V.heap.size ≤ S' ∧ V.heap.size ≤ M') (h7 : CiA w1 V7 tv L B MM C S' M' s2 bv' n') (hg : Gw (CiX C S' M' (.slice none 0 0)) (V5.setCell ⟨C, 3, none⟩ (.pointer (some ⟨S', 0, none⟩))) V7) : CiA w1 (V7.setCell ⟨C, 3, none⟩ (.pointer (some ⟨S, 0, none⟩))) tv L B MM C S M { s2 with vars := s.vars } bv n ∧ Gw (· = C) V (V7.setCell ⟨C, 3, none⟩ (.pointer (some ⟨S, 0, none⟩))) := by
  have hC := h.blk.lt
  have hsc : ScA V7 S M bv s.vars n := ((h.below hb).sc.gw (Gw.set V5 C 3 _) (fun k hk q => h.cx k hk q)).gw hg (fun k hk q => by
    have h1 := (h.xlt k (.inr hk)).2
    rcases q with q | rfl | rfl | q
    · exact h.cx k hk q
    · omega
    · omega
    · cases q)
  refine ⟨⟨h7.blk.set 3 _, hsc.gw (Gw.set V7 C 3 _) (fun k hk q => h.cx k hk q), h7.bl.setCell h.lc _, h.lm, h.lc, h.cx⟩, ?_⟩
  refine (((Gw.of_below (P := (· = C)) hb).trans (Gw.set V5 C 3 _) (fun _ _ q => q)).trans hg (fun j hj q => ?_)).trans (Gw.set V7 C 3 _) (fun _ _ q => q)
  rcases q with q | rfl | rfl | q
  · exact q
  · omega
  · omega
  · cases q

set_option maxHeartbeats 8000000 in
set_option maxRecDepth 1000000 in
theorem i_macro {w1 V : World} {tv : Value} {L : List Nd} {B MM C S M n : Nat} {s : Ci} {bv : Value} {f i e : Nat} (hR : OlR w1 tv L B MM) (hCp0 : NCap w1 tv L) (hf : f + 1 ≤ 60) (hg : Gd L (f + 1) i) (he : sE L.length (cn L) (f + 1) i = some e) (hk : (ndA L i).kind = 1) (hA : CiA w1 V tv L B MM C S M s bv n) :
    Calls Tryd.prog 39 #[.pointer (some ⟨C, 0, none⟩), .int .i64 (i : Nat)] V fun r V' => r = .returned (.tuple #[]) ∧ CiA w1 V' tv L B MM C S M (iM L s i) bv n ∧ Gw (· = C) V V' := by
  have hil := (hg.step hf).1
  have hili : (i : Int) < (L.length : Int) := by omega
  have hL4 := (vT_good hR.vt).2.1
  have hel := (sE_br _ _ _ _ _ he).le
  have hlk := Gd.lk hf he
  obtain ⟨tb, tq, tc, vt, vn, vy, htv, hNC, hNV⟩ := hR.ns.nod hil
  have HR := hide hR
  subst htv
  obtain ⟨n0, n1, n2, n3, n4, n5⟩ := hNC.below hA.bl
  have HNV := hide hNV
  obtain ⟨a1, c1, a2, c2, a3, c3, rfl, rfl, rfl⟩ := hNV.slc
  have hcap : (ndA L i).names.length ≤ c2 := hCp0 i tb tq tc a2 _ c2 rfl hil hNC.names
  have g0 := hA.blk.cell 0
  simp only [List.getElem?_toArray, List.getElem?_cons_zero] at g0
  have HG := hide hg
  have HA := hide hA
  have HLK := hide hlk
  obtain ⟨d, hd⟩ : ∃ d, ndA L i = d := ⟨_, rfl⟩
  have HD := hide hd
  rw [hd] at n0 n1 n2 n3 n4 n5 HNV hcap hk
  obtain ⟨Va, hVa⟩ : ∃ W, World.alloc V (.cells #[.int .i64 0, .int .i64 0, .slice none 0 0, .slice none 0 0, .slice none 0 0, .int .i64 0] 42) = W := ⟨_, rfl⟩
  have hOb : Blk Va (World.heap V).size 42 #[.int .i64 0, .int .i64 0, .slice none 0 0, .slice none 0 0, .slice none 0 0, .int .i64 0] := by rw [← hVa]; exact Blk.new _ _ _
  have o0 := hOb.cell 0
  have of0 := hOb.frozen 0
  have o1 := hOb.cell 1
  have of1 := hOb.frozen 1
  have o2 := hOb.cell 2
  have of2 := hOb.frozen 2
  have o3 := hOb.cell 3
  have of3 := hOb.frozen 3
  have o4 := hOb.cell 4
  have of4 := hOb.frozen 4
  have o5 := hOb.cell 5
  have of5 := hOb.frozen 5
  simp only [List.getElem?_toArray, List.getElem?_cons_succ, List.getElem?_cons_zero] at o0 o1 o2 o3 o4 o5
  obtain ⟨V2, hV2⟩ : ∃ W, set6w Va (World.heap V).size (.int .i64 (d).kind) (.int .i64 (d).n) (.slice a1 (d).text.size c1) (.slice a2 (d).names.length c2) (.slice a3 (d).types.length c3) (.int .i64 (d).count) = W := ⟨_, rfl⟩
  have hCp : Blk V2 (World.heap V).size 42 #[.int .i64 (d).kind, .int .i64 (d).n, .slice a1 (d).text.size c1, .slice a2 (d).names.length c2, .slice a3 (d).types.length c3, .int .i64 (d).count] := by rw [← hV2]; exact hOb.set6w _ _ _ _ _ _
  have hBl : Below (World.heap V).size V V2 := by
    have hA : Below (World.heap V).size V Va := by rw [← hVa]; exact (Below.refl _ _).alloc (Nat.le_refl _) _
    rw [← hV2]
    exact (((((hA.setCell (Nat.le_refl _) _).setCell (Nat.le_refl _) _).setCell (Nat.le_refl _) _).setCell (Nat.le_refl _) _).setCell (Nat.le_refl _) _).setCell (Nat.le_refl _) _
  unfold set6w at hV2
  have HBl := hide hBl
  have HCp := hide hCp
  have m3 := hCp.cell 3
  have m4 := hCp.cell 4
  simp only [List.getElem?_toArray, List.getElem?_cons_succ, List.getElem?_cons_zero] at m3 m4
  have hA2 := hA.below hBl
  have HA2 := hide hA2
  have HVC : Hid (C < V.heap.size) := hA.blk.lt
  have HXV : Hid (∀ k, CiX C S M bv k → w1.heap.size ≤ k ∧ k < V.heap.size) := hA.xlt
  have p2 := hA2.blk.cell 2
  simp only [List.getElem?_toArray, List.getElem?_cons_succ, List.getElem?_cons_zero] at p2
  clear hR hA hNC hNV hA2 hBl hCp hlk hd he hg
  have hfl := (HG.out.fld hf).2.2.2.1
  have hty := (HG.out.fld hf).2.2.2.2.1
  rw [HD.out] at hfl hty
  unfold nOf at hfl
  unfold vTy at hty
  rw [if_pos hk] at hfl hty
  rw [Bool.and_eq_true, decide_eq_true_eq] at hty
  have hnl : d.names.length = 1 + d.types.length := by omega
  have HTL : Hid (d.types.length ≤ 10) := hty.1
  have HNL := hide hnl
  have hn0 : 0 < d.names.length := by omega
  have HNZ := hide (HG.out.nmle hf)
  rw [HD.out] at HNZ
  rw [hk] at n0 hV2
  have HK := hide hk
  have h1i : (1 : Int) ≤ (d.names.length : Int) := by omega
  obtain ⟨nb, no, nc, nu, e5, hnu, hbs⟩ := HNV.out.nm0 hn0
  injection e5 with e5 _ e6
  subst e5 e6
  have hnur := cell_kept hnu HA2.out.bl
  have HBS := hide hbs
  have HNW : Hid (nb < w1.heap.size) := World.block_lt_of_cell? _ _ hnu
  have HMH : Hid (iMh L s i = if macZ L (d.names.getD 0 .empty) ≠ i ∨ ¬ d.names.tail.Nodup then s.fN i else s) := by show _ = _; unfold iMh; rw [HD.out]
  have HIM : Hid (iM L s i = { iB L (iS L 61) { iMh L s i with vars := [] } ((kidsOf L i).getD 0 0) (d.names.tail.zip d.types) with vars := s.vars }) := by show _ = _; unfold iM; rw [HD.out]
  have HTZ : Hid (∀ p ∈ d.names.tail, p.size ≤ 1000) := fun p hp => by have := HNZ.out p (List.mem_of_mem_tail hp); omega
  have HTN : Hid (d.names.tail.length = d.names.length - 1) := List.length_tail
  -- the row of parameters
  have HSS : Hid ((¬ c2 = 1 → ∀ c' W, Below w1.heap.size w1 W → SS W (.slice (some ⟨nb, no + 1, none⟩) (d.names.length - 1) c') d.names.tail) ∧ (c2 = 1 → ∀ a' c' W, SS W (.slice a' (d.names.length - 1) c') d.names.tail)) := by
    refine ⟨fun _ c' W hW => ?_, fun h1 a' c' W => ?_⟩
    · obtain ⟨_, b', o', cc, e1, e2, e3⟩ := HNV.out.names
      injection e1 with e1 _ e4
      have e2 := e2 hn0
      rw [e2] at e1
      injection e1 with e1
      injection e1 with e1 e5
      subst e1 e5
      refine ⟨_, nb, no + 1, c', by rw [HTN.out], fun _ => rfl, fun j hj => ?_⟩
      rw [HTN.out] at hj
      obtain ⟨u, hu, hub⟩ := e3 (j + 1) (by omega)
      rw [show no + (j + 1) = no + 1 + j by omega] at hu
      have e : d.names.getD (j + 1) .empty = d.names.tail.getD j .empty := by cases hdn : d.names with | nil => rw [hdn] at hn0; simp at hn0 | cons t ts => rfl
      rw [e] at hub
      exact ⟨u, cell_kept hu hW, hub.below hW⟩
    · have h0 : d.names.tail = [] := List.length_eq_zero_iff.1 (by rw [HTN.out]; omega)
      rw [h0]
      have e0 : d.names.length - 1 = 0 := by rw [← HTN.out, h0]; rfl
      rw [e0]
      exact ⟨a', 0, 0, c', rfl, fun h => absurd h (Nat.lt_irrefl _), fun _ hj => absurd hj (Nat.not_lt_zero _)⟩
  obtain ⟨nm, hnm⟩ : ∃ y, d.names.getD 0 .empty = y := ⟨_, rfl⟩
  rw [hnm] at HBS HMH
  have HNMZ : Hid (nm.size ≤ 1000) := by
    show _ ≤ _
    rw [← hnm]
    have := HNZ.out (d.names.getD 0 .empty) (by rw [List.getD_eq_getElem?_getD, List.getElem?_eq_getElem hn0]; exact List.getElem_mem _)
    omega
  obtain ⟨na', nb', no', nc', hnuE, _, _⟩ := HBS.out
  subst hnuE
  obtain ⟨J, hJ⟩ : ∃ J, macZ L nm = J := ⟨_, rfl⟩
  have HLK2 : Hid (∀ W, Below V2.heap.size V2 W → (Instr.lookup 46 (.map (some MM)) (.string nm) false).run Tryd.prog W = .ok (.int .i64 (J : Nat)) W) := fun W hW => by
    obtain ⟨mn, hmac⟩ := HR.out.mac
    have hub := HA2.out.bl.trans (hW.mono HA2.out.bl.size)
    have := (hmac.gw (P := fun k => w1.heap.size ≤ k) ⟨hub.os, hub.tape, hub.output, hub.size, fun k hk _ => hub.block k hk⟩ (fun q => by have := hmac.lt; omega)).look (nm := nm) HNMZ.out
    rw [hJ] at this
    exact this
  have HCV : Hid (∀ W, Below V2.heap.size V2 W → (convert 31 9 (.slice na' nm.size nc')).run Tryd.prog W = .ok (.string nm) W) := fun W hW => toStr_bs (HBS.out.below (HA2.out.bl.trans (hW.mono HA2.out.bl.size)))
  rw [hJ] at HMH
  have HCC : Hid (d.names.length ≤ c2) := hcap
  clear hk hfl hty hnl hnu hbs hnm hJ hcap
  go_enter Tryd.func39, Tryd.ntmps39
  go_upto_region 1 with fail
  go_cut [5] from 15 to 17 (fun s5 wx => ∃ a' c', s5 = .slice a' (d.names.length - 1) c' ∧ wx = V2 ∧ Hid (∀ W, Below w1.heap.size w1 W → SS W (.slice a' (d.names.length - 1) c') d.names.tail))
  case first =>
    by_cases q1 : c2 = 1
    · have HQ := hide (HSS.out.2 q1)
      subst q1
      go_wp2_with fail
      go_meet
      exact ⟨_, _, rfl, rfl, fun W _ => HQ.out _ _ W⟩
    · have HQ := hide (HSS.out.1 q1)
      have hci : (d.names.length : Int) ≤ (c2 : Int) := by have := HCC.out; omega
      go_wp2_with fail
      go_meet
      exact ⟨_, _, rfl, rfl, fun W hW => HQ.out _ W hW⟩
  case rest =>
    obtain ⟨pa, pc, rfl, hwc, HPV⟩ := hcut
    obtain ⟨V2', hV2'⟩ : ∃ W, W = wc := ⟨_, rfl⟩
    clear g0 n0 n1 n2 n3 n4 n5 hVa hV2 o0 of0 o1 of1 o2 of2 o3 of3 o4 of4 o5 of5 HSS
    rw [hwc]
    clear hwc hV2'
    obtain ⟨BB, hBB⟩ : ∃ BB, (!decide (J = i) || decide (¬ d.names.tail.Nodup)) = BB := ⟨_, rfl⟩
    have HBB := hide hBB
    clear hBB
    go_upto_region 2 with fail
    go_cut [34] from 18 to 33 (fun s34 wx => s34 = .bool BB ∧ Hid (Below V2.heap.size V2 wx))
    case first =>
      by_cases qj : J = i
      · subst qj
        have HB2 : Hid (decide (¬ d.names.tail.Nodup) = BB) := by
          have := HBB.out
          rw [decide_eq_true rfl] at this
          exact this
        have HTW := hide (fun W (hW : Below V2.heap.size V2 W) => hasTwice_any (HPV.out W (HA2.out.bl.trans (hW.mono HA2.out.bl.size))) (by rw [HTN.out]; have := HNL.out; have := HTL.out; omega) HTZ.out)
        obtain ⟨tw, htw⟩ : ∃ t, decide (¬ d.names.tail.Nodup) = t := ⟨_, rfl⟩
        simp only [htw] at HTW
        rw [htw] at HB2
        clear htw
        have HCE : Hid (∀ W, Below V2.heap.size V2 W → W.cell? ⟨C, 2, none⟩ = some (.map (some MM)) ∧ W.cell? ⟨V.heap.size, 3, none⟩ = some (.slice (some ⟨nb, no, none⟩) d.names.length c2) ∧ W.cell? ⟨nb, no, none⟩ = some (.slice na' nm.size nc')) := fun W hW => ⟨cell_kept p2 hW, cell_kept m3 hW, cell_kept hnur hW⟩
        refine wp_region_held_drew (S := fun W => Hid (Below V2.heap.size V2 W)) (by kernel_rfl) ((Below.refl _ _).drew) (fun hHeld => ?_)
        refine wpAnyH_take (i := 0) (v := ?_) rfl (by kernel_rfl) (by kernel_rfl) (by kernel_rfl) (fun _ _ _ h => h) (Or.inl ⟨by rfl, ?_⟩) hHeld ?_
        rotate_left 1
        · intro Wx hSW; simp only [List.getElem_toArray, List.getElem_cons_zero]; go_simp; try with_reducible rfl
        try simp only [Act.put, List.getElem_toArray, List.getElem_cons_zero, List.setIfInBounds_toArray, List.set_cons_zero, List.set_cons_succ]
        refine wpAnyH_take (i := 1) (v := ?_) rfl (by kernel_rfl) (by kernel_rfl) (by kernel_rfl) (fun _ _ _ h => h) (Or.inl ⟨by rfl, ?_⟩) hHeld ?_
        rotate_left 1
        · intro Wx hSW; simp only [List.getElem_toArray, List.getElem_cons_zero, List.getElem_cons_succ]; go_simp; try with_reducible rfl
        try simp only [Act.put, List.getElem_toArray, List.getElem_cons_zero, List.getElem_cons_succ, List.setIfInBounds_toArray, List.set_cons_zero, List.set_cons_succ]
        refine wpAnyH_take (i := 2) (v := ?_) rfl (by kernel_rfl) (by kernel_rfl) (by kernel_rfl) (fun _ _ _ h => h) (Or.inl ⟨by rfl, ?_⟩) hHeld ?_
        rotate_left 1
        · intro Wx hSW; simp only [List.getElem_toArray, List.getElem_cons_zero, List.getElem_cons_succ]; go_simp; try with_reducible rfl
        try simp only [Act.put, List.getElem_toArray, List.getElem_cons_zero, List.getElem_cons_succ, List.setIfInBounds_toArray, List.set_cons_zero, List.set_cons_succ]
        refine wpAnyH_take (i := 3) (v := ?_) rfl (by kernel_rfl) (by kernel_rfl) (by kernel_rfl) (fun _ _ _ h => h) (Or.inl ⟨by rfl, ?_⟩) hHeld ?_
        rotate_left 1
        · intro Wx hSW; simp only [List.getElem_toArray, List.getElem_cons_zero, List.getElem_cons_succ]; go_simp; try with_reducible rfl
        try simp only [Act.put, List.getElem_toArray, List.getElem_cons_zero, List.getElem_cons_succ, List.setIfInBounds_toArray, List.set_cons_zero, List.set_cons_succ]
        refine wpAnyH_take (i := 4) (v := ?_) rfl (by kernel_rfl) (by kernel_rfl) (by kernel_rfl) (fun _ _ _ h => h) (Or.inl ⟨by rfl, ?_⟩) hHeld ?_
        rotate_left 1
        · intro Wx hSW; simp only [List.getElem_toArray, List.getElem_cons_zero, List.getElem_cons_succ]; obtain ⟨z0, z1, z2⟩ := HCE.out Wx hSW.out; go_simp; try with_reducible rfl
        try simp only [Act.put, List.getElem_toArray, List.getElem_cons_zero, List.getElem_cons_succ, List.setIfInBounds_toArray, List.set_cons_zero, List.set_cons_succ]
        refine wpAnyH_take (i := 5) (v := ?_) rfl (by kernel_rfl) (by kernel_rfl) (by kernel_rfl) (fun _ _ _ h => h) (Or.inl ⟨by rfl, ?_⟩) hHeld ?_
        rotate_left 1
        · intro Wx hSW; simp only [List.getElem_toArray, List.getElem_cons_zero, List.getElem_cons_succ]; go_simp; try with_reducible rfl
        try simp only [Act.put, List.getElem_toArray, List.getElem_cons_zero, List.getElem_cons_succ, List.setIfInBounds_toArray, List.set_cons_zero, List.set_cons_succ]
        refine wpAnyH_take (i := 6) (v := ?_) rfl (by kernel_rfl) (by kernel_rfl) (by kernel_rfl) (fun _ _ _ h => h) (Or.inl ⟨by rfl, ?_⟩) hHeld ?_
        rotate_left 1
        · intro Wx hSW; simp only [List.getElem_toArray, List.getElem_cons_zero, List.getElem_cons_succ]; obtain ⟨z0, z1, z2⟩ := HCE.out Wx hSW.out; go_simp; try with_reducible rfl
        try simp only [Act.put, List.getElem_toArray, List.getElem_cons_zero, List.getElem_cons_succ, List.setIfInBounds_toArray, List.set_cons_zero, List.set_cons_succ]
        refine wpAnyH_take (i := 7) (v := ?_) rfl (by kernel_rfl) (by kernel_rfl) (by kernel_rfl) (fun _ _ _ h => h) (Or.inl ⟨by rfl, ?_⟩) hHeld ?_
        rotate_left 1
        · intro Wx hSW; simp only [List.getElem_toArray, List.getElem_cons_zero, List.getElem_cons_succ]; go_simp; try with_reducible rfl
        try simp only [Act.put, List.getElem_toArray, List.getElem_cons_zero, List.getElem_cons_succ, List.setIfInBounds_toArray, List.set_cons_zero, List.set_cons_succ]
        refine wpAnyH_take (i := 8) (v := ?_) rfl (by kernel_rfl) (by kernel_rfl) (by kernel_rfl) (fun _ _ _ h => h) (Or.inl ⟨by rfl, ?_⟩) hHeld ?_
        rotate_left 1
        · intro Wx hSW; simp only [List.getElem_toArray, List.getElem_cons_zero, List.getElem_cons_succ]; obtain ⟨z0, z1, z2⟩ := HCE.out Wx hSW.out; go_simp; try with_reducible rfl
        try simp only [Act.put, List.getElem_toArray, List.getElem_cons_zero, List.getElem_cons_succ, List.setIfInBounds_toArray, List.set_cons_zero, List.set_cons_succ]
        refine wpAnyH_take (i := 9) (v := ?_) rfl (by kernel_rfl) (by kernel_rfl) (by kernel_rfl) (fun _ _ _ h => h) (Or.inl ⟨by rfl, ?_⟩) hHeld ?_
        rotate_left 1
        · intro Wx hSW; simp only [List.getElem_toArray, List.getElem_cons_zero, List.getElem_cons_succ]; obtain ⟨z0, z1, z2⟩ := HCE.out Wx hSW.out; have z3 := HCV.out Wx hSW.out; go_simp; try with_reducible rfl
        try simp only [Act.put, List.getElem_toArray, List.getElem_cons_zero, List.getElem_cons_succ, List.setIfInBounds_toArray, List.set_cons_zero, List.set_cons_succ]
        refine wpAnyH_take (i := 10) (v := ?_) rfl (by kernel_rfl) (by kernel_rfl) (by kernel_rfl) (fun _ _ _ h => h) (Or.inl ⟨by rfl, ?_⟩) hHeld ?_
        rotate_left 1
        · intro Wx hSW; simp only [List.getElem_toArray, List.getElem_cons_zero, List.getElem_cons_succ]; obtain ⟨z0, z1, z2⟩ := HCE.out Wx hSW.out; have z3 := HLK2.out Wx hSW.out; go_simp; try with_reducible rfl
        try simp only [Act.put, List.getElem_toArray, List.getElem_cons_zero, List.getElem_cons_succ, List.setIfInBounds_toArray, List.set_cons_zero, List.set_cons_succ]
        refine wpAnyH_take (i := 11) (v := ?_) rfl (by kernel_rfl) (by kernel_rfl) (by kernel_rfl) (fun _ _ _ h => h) (Or.inl ⟨by rfl, ?_⟩) hHeld ?_
        rotate_left 1
        · intro Wx hSW; simp only [List.getElem_toArray, List.getElem_cons_zero, List.getElem_cons_succ]; go_simp; try with_reducible rfl
        try simp only [Act.put, List.getElem_toArray, List.getElem_cons_zero, List.getElem_cons_succ, List.setIfInBounds_toArray, List.set_cons_zero, List.set_cons_succ]
        refine wpAnyH_take (i := 12) (v := ?_) rfl (by kernel_rfl) (by kernel_rfl) (by kernel_rfl) (fun _ _ _ h => h) (Or.inl ⟨by rfl, ?_⟩) hHeld ?_
        rotate_left 1
        · intro Wx hSW; simp only [List.getElem_toArray, List.getElem_cons_zero, List.getElem_cons_succ]; go_simp; try with_reducible rfl
        try simp only [Act.put, List.getElem_toArray, List.getElem_cons_zero, List.getElem_cons_succ, List.setIfInBounds_toArray, List.set_cons_zero, List.set_cons_succ]
        refine wpAnyH_take (i := 13) (v := ?_) rfl (by kernel_rfl) (by kernel_rfl) (by kernel_rfl) (fun _ _ _ h => h) (Or.inl ⟨by rfl, ?_⟩) hHeld ?_
        rotate_left 1
        · intro Wx hSW; simp only [List.getElem_toArray, List.getElem_cons_zero, List.getElem_cons_succ]; go_simp; try with_reducible rfl
        try simp only [Act.put, List.getElem_toArray, List.getElem_cons_zero, List.getElem_cons_succ, List.setIfInBounds_toArray, List.set_cons_zero, List.set_cons_succ]
        refine wpAnyH_take (i := 14) (v := ?_) rfl (by kernel_rfl) (by kernel_rfl) (by kernel_rfl) (fun _ _ _ h => h) (Or.inl ⟨by rfl, ?_⟩) hHeld ?_
        rotate_left 1
        · intro Wx hSW; simp only [List.getElem_toArray, List.getElem_cons_zero, List.getElem_cons_succ]; go_simp; try with_reducible rfl
        try simp only [Act.put, List.getElem_toArray, List.getElem_cons_zero, List.getElem_cons_succ, List.setIfInBounds_toArray, List.set_cons_zero, List.set_cons_succ]
        refine wpAnyH_ready (rs := [15]) (by kernel_rfl) (by simp) ?_
        refine AllReadyH.cons rfl (fun K hK => ?_) AllReadyH.nil
        go_simp
        refine (HTW.out _ ((Below.refl _ _).drew)).mono ?_
        rintro r V3 ⟨rfl, hb3⟩
        have HB3 : Hid (Below V2.heap.size V2 V3) := ((Below.refl V2.heap.size V2).drew).trans hb3
        clear hb3
        refine hK.out _ _ (HB3.out) (fun hHeld => ?_)
        clear hK K
        try simp only [Act.put, List.getElem_toArray, List.getElem_cons_zero, List.getElem_cons_succ, List.setIfInBounds_toArray, List.set_cons_zero, List.set_cons_succ]
        refine wpAnyH_take (i := 16) (v := ?_) rfl (by kernel_rfl) (by kernel_rfl) (by kernel_rfl) (fun _ _ _ h => h) (Or.inl ⟨by rfl, ?_⟩) hHeld ?_
        rotate_left 1
        · intro Wx hSW; simp only [List.getElem_toArray, List.getElem_cons_zero, List.getElem_cons_succ]; go_simp; try with_reducible rfl
        try simp only [Act.put, List.getElem_toArray, List.getElem_cons_zero, List.getElem_cons_succ, List.setIfInBounds_toArray, List.set_cons_zero, List.set_cons_succ]
        refine wpAnyH_done (by kernel_rfl) ?_ _
        go_wp2_with fail
        go_meet
        exact ⟨by rw [← HB2.out], HB3.out⟩
      · have HB2 : Hid (BB = true) := by
          show _ = _
          rw [← HBB.out, decide_eq_false qj]
          rfl
        have t1 : ((J : Int) != (i : Int)) = true := by rw [bne_iff_ne]; omega
        have hlk := fun j => HLK2.out (V2.drewN j) (below_drewN (Below.refl _ _) j)
        have hcv := fun j => HCV.out (V2.drewN j) (below_drewN (Below.refl _ _) j)
        clear qj
        go_quiet (fail)
        go_wp2_with fail
        go_meet
        exact ⟨by rw [HB2.out], below_drewN (Below.refl _ _) _⟩
    case rest =>
      obtain ⟨rfl, HB3⟩ := hcut
      obtain ⟨V3, hV3⟩ : ∃ W, W = wc := ⟨_, rfl⟩
      subst hV3
      go_upto_if 34 with fail
      go_cut [34] from 35 to 37 (fun _ wx => Hid (CiA w1 wx (.slice (some ⟨tb, tq, none⟩) L.length tc) L B MM C S M (iMh L s i) bv n ∧ Gw (· = C) V wx ∧ Blk wx V.heap.size 42 #[.int .i64 d.kind, .int .i64 d.n, .slice a1 d.text.size c1, .slice (some ⟨nb, no, none⟩) d.names.length c2, .slice a3 d.types.length c3, .int .i64 d.count]))
      case first =>
        have hA3 := HA2.out.below HB3.out
        have hG3 : Gw (· = C) V V3 := Gw.of_below (HBl.out.trans (HB3.out.mono HBl.out.size))
        have hC3 := HCp.out.below HB3.out
        have HFN := hide (fNf_any hA3 i)
        have HA3 := hide hA3
        have HG3 := hide hG3
        have HC3 := hide hC3
        clear hA3 hG3 hC3
        cases BB with
        | true =>
          have HE : Hid (iMh L s i = s.fN i) := by
            show _ = _
            rw [HMH.out]
            refine if_pos ?_
            have := HBB.out
            rw [Bool.or_eq_true] at this
            exact this.imp (fun h h2 => by rw [decide_eq_true h2] at h; cases h) of_decide_eq_true
          go_wp2_with fail
          refine HFN.out.mono ?_
          rintro r V4 ⟨rfl, hA4, hG4⟩
          have HA4 := hide hA4
          have HG4 := hide hG4
          clear hA4 hG4
          go_wp2_with fail
          go_meet
          exact ⟨by rw [HE.out]; exact HA4.out, HG3.out.trans HG4.out (fun _ _ q => q), HG4.out.blk HC3.out (fun q => by have := HVC.out; omega)⟩
        | false =>
          have HE : Hid (iMh L s i = s) := by
            show _ = _
            rw [HMH.out]
            refine if_neg ?_
            have := HBB.out
            rw [Bool.or_eq_false_iff] at this
            rintro (h | h)
            · have h1 := this.1
              rw [decide_eq_false h] at h1
              cases h1
            · have h2 := this.2
              rw [decide_eq_true h] at h2
              cases h2
          go_wp2_with fail
          go_meet
          exact ⟨by rw [HE.out]; exact HA3.out, HG3.out, HC3.out⟩
      case rest =>
        obtain ⟨V4, hV4⟩ : ∃ W, W = wc := ⟨_, rfl⟩
        subst hV4
        have HA4 := hide hcut.out.1
        have HG4 := hide hcut.out.2.1
        have HC4 := hide hcut.out.2.2
        have z3 := hcut.out.1.blk.cell 3
        have zf3 := hcut.out.1.blk.frozen 3
        simp only [List.getElem?_toArray, List.getElem?_cons_succ, List.getElem?_cons_zero] at z3
        have HNS := hide (newScope_any V4)
        have hk1 : (kidsOf L i).length = 1 := by
          have hcnt := (HG.out.fld hf).1
          rw [kids_len]
          rw [HD.out] at hcnt
          rw [HD.out]
          unfold vCnt at hcnt
          rw [HK.out] at hcnt
          simp at hcnt
          omega
        obtain ⟨ka, kc, hka1, hkaI, _⟩ := HR.out.row hil
        obtain ⟨k0, hkX⟩ : ∃ k0, kidsOf L i = [k0] := by
          match hkk : kidsOf L i, hk1 with
          | [k0], _ => exact ⟨k0, rfl⟩
        have hll := HLK.out
        rw [hkX] at hll hka1 hkaI
        obtain ⟨hk0, q, hq, hqe⟩ := hll
        have hkm := HG.out.mem hf 0 k0 (by rw [hkX]; rfl)
        rw [HD.out, HK.out] at hkm
        have x0 : (ndA L k0).kind = 2 := by have := hkm.2; unfold mSt at this; simpa using this
        have hIM := HIM.out
        rw [hkX] at hIM
        have hIM : iM L s i = { iB L (iS L 61) { iMh L s i with vars := [] } k0 (d.names.tail.zip d.types) with vars := s.vars } := hIM
        have HIM2 := hide hIM
        obtain ⟨s1, hs1⟩ : ∃ z, iMh L s i = z := ⟨_, rfl⟩
        have HVS : Hid (s1.vars = s.vars) := by
          show _ = _
          rw [← hs1]
          unfold iMh
          split <;> rfl
        rw [hs1] at HA4 HIM2
        have HGM := hide hkm.1
        have HQ := hide hq
        have HX0 := hide x0
        obtain ⟨_, kb, ko, kc', e1, e2, e3⟩ := hkaI
        rw [List.length_map] at e1 e2 e3
        injection e1 with e1 _ e4
        subst e1 e4
        obtain rfl := e2 (by show 0 < 1; omega)
        have y0 := e3 0 (by show 0 < 1; omega)
        rw [Nat.add_zero] at y0
        have hk0i : k0 = i + 1 := hk0.symm
        have HY0 := hide (And.intro hka1 y0)
        have HKW : Hid (kb < w1.heap.size ∧ B < w1.heap.size) := ⟨World.block_lt_of_cell? _ _ y0, World.block_lt_of_cell? _ _ hka1⟩
        have HK0 := hide hk0i
        clear hcut m3 m4 p2 hnur HB3 HBB hk1 hkX hq hqe hkm x0 hIM hs1 e2 e3 y0 hka1 hk0 hk0i HMH HIM
        go_wp2_with fail
        refine HNS.out.mono ?_
        rintro r V5 ⟨rfl, hS5, hb5⟩
        obtain ⟨V6, hV6⟩ : ∃ W, V5.setCell ⟨C, 3, none⟩ (.pointer (some ⟨V4.heap.size + 1, 0, none⟩)) = W := ⟨_, rfl⟩
        have hA6 := HA4.out.newS hb5 hS5 (Nat.le_refl _)
        have hBK := fun V7 bv7 n7 s7 => HA4.out.backS (V5 := V5) (V7 := V7) (S' := V4.heap.size + 1) (M' := V4.heap.size) (n' := n7) (s2 := s7) (bv' := bv7) hb5 ⟨by omega, Nat.le_refl _⟩
        rw [hV6] at hA6
        simp only [hV6] at hBK
        have cz3 := cell_kept z3 hb5
        have cf3 := (HA4.out.below hb5).blk.frozen 3
        have hC6 := (HC4.out.below hb5).other (b' := C) 3 (.pointer (some ⟨V4.heap.size + 1, 0, none⟩)) (by have := HVC.out; omega)
        rw [hV6] at hC6
        have w4 := hC6.cell 4
        have v1 := hA6.blk.cell 1
        simp only [List.getElem?_toArray, List.getElem?_cons_succ, List.getElem?_cons_zero] at w4 v1
        have r1 := cell_kept HY0.out.1 hA6.bl
        have r2 := cell_kept HY0.out.2 hA6.bl
        have hIbc := (isb_all (C := C) HR.out f (by omega)).2 61 k0 q (V4.heap.size + 1) V4.heap.size { s1 with vars := [] } (.slice none 0 0) 0 V6.drew 20 (.slice pa (d.names.length - 1) pc) (.slice a3 d.types.length c3) d.names.tail d.types (by omega) HGM.out HQ.out HX0.out (hA6.below (Below.refl _ _).drew) (fun W' hg => by
          have hbw := hg.below (hA6.below (Below.refl _ _).drew).bl hA6.bl.size (fun k hk w => by have := (hA6.xlt k (.inr w)).1; omega)
          exact ⟨HPV.out W' hbw, HNV.out.types.below hbw⟩) HTZ.out (by rw [HTN.out]; have := HNL.out; omega) (by
          show 0 + 0 + 2 * d.names.tail.length ≤ _
          rw [HTN.out]
          have := HNL.out
          have := HTL.out
          have := HK0.out
          omega) (by omega)
        obtain ⟨y, hy⟩ : ∃ z, iB L (iS L 61) { s1 with vars := [] } k0 (d.names.tail.zip d.types) = z := ⟨_, rfl⟩
        rw [hy] at hIbc HIM2
        have HIB := hide hIbc
        have HBK := hide hBK
        have HA6 := hide hA6
        have HLC : Hid (w1.heap.size ≤ C ∧ V4.heap.size ≤ V5.heap.size ∧ V.heap.size ≤ V4.heap.size) := ⟨HA4.out.lc, hb5.size, HG4.out.size⟩
        have HX6 : Hid (∀ k, CiX C (V4.heap.size + 1) V4.heap.size (.slice none 0 0) k → w1.heap.size ≤ k ∧ (k = C ∨ V4.heap.size ≤ k)) := fun k hk => by
          have h1 := (hA6.xlt k hk).1
          rcases hk with q | q | q | q
          · exact ⟨h1, .inl q⟩
          · exact ⟨h1, .inr (by omega)⟩
          · exact ⟨h1, .inr (by omega)⟩
          · cases q
        have HCL : Hid (V.heap.size < V4.heap.size) := by
          show _ < _
          exact Nat.lt_of_lt_of_le HC4.out.lt (Nat.le_refl _)
        clear hIbc hBK hA6 hS5 hb5 hC6 HNS hy z3 zf3
        go_wp2_with fail
        refine wp_region_held_drew (S := fun X0 => Hid (X0.cell? ⟨C, 1, none⟩ = some (.slice (some ⟨B, 0, none⟩) L.length L.length) ∧ X0.cell? ⟨B, i, none⟩ = some (.slice (some ⟨kb, ko, none⟩) 1 kc) ∧ X0.cell? ⟨kb, ko, none⟩ = some (.int .i64 (k0 : Nat)) ∧ X0.cell? ⟨V.heap.size, 4, none⟩ = some (.slice a3 d.types.length c3))) (by kernel_rfl) (⟨v1, r1, r2, w4⟩) (fun hHeld => ?_)
        refine wpAnyH_take (i := 0) (v := ?_) rfl (by kernel_rfl) (by kernel_rfl) (by kernel_rfl) (fun _ _ _ h => h) (Or.inl ⟨by rfl, ?_⟩) hHeld ?_
        rotate_left 1
        · intro Wx hSW; simp only [List.getElem_toArray, List.getElem_cons_zero]; go_simp; try with_reducible rfl
        try simp only [Act.put, List.getElem_toArray, List.getElem_cons_zero, List.setIfInBounds_toArray, List.set_cons_zero, List.set_cons_succ]
        refine wpAnyH_take (i := 1) (v := ?_) rfl (by kernel_rfl) (by kernel_rfl) (by kernel_rfl) (fun _ _ _ h => h) (Or.inl ⟨by rfl, ?_⟩) hHeld ?_
        rotate_left 1
        · intro Wx hSW; simp only [List.getElem_toArray, List.getElem_cons_zero, List.getElem_cons_succ]; go_simp; try with_reducible rfl
        try simp only [Act.put, List.getElem_toArray, List.getElem_cons_zero, List.getElem_cons_succ, List.setIfInBounds_toArray, List.set_cons_zero, List.set_cons_succ]
        refine wpAnyH_take (i := 2) (v := ?_) rfl (by kernel_rfl) (by kernel_rfl) (by kernel_rfl) (fun _ _ _ h => h) (Or.inl ⟨by rfl, ?_⟩) hHeld ?_
        rotate_left 1
        · intro Wx hSW; simp only [List.getElem_toArray, List.getElem_cons_zero, List.getElem_cons_succ]; go_simp; try with_reducible rfl
        try simp only [Act.put, List.getElem_toArray, List.getElem_cons_zero, List.getElem_cons_succ, List.setIfInBounds_toArray, List.set_cons_zero, List.set_cons_succ]
        refine wpAnyH_take (i := 3) (v := ?_) rfl (by kernel_rfl) (by kernel_rfl) (by kernel_rfl) (fun _ _ _ h => h) (Or.inl ⟨by rfl, ?_⟩) hHeld ?_
        rotate_left 1
        · intro Wx hSW; simp only [List.getElem_toArray, List.getElem_cons_zero, List.getElem_cons_succ]; go_simp; try with_reducible rfl
        try simp only [Act.put, List.getElem_toArray, List.getElem_cons_zero, List.getElem_cons_succ, List.setIfInBounds_toArray, List.set_cons_zero, List.set_cons_succ]
        refine wpAnyH_take (i := 4) (v := ?_) rfl (by kernel_rfl) (by kernel_rfl) (by kernel_rfl) (fun _ _ _ h => h) (Or.inl ⟨by rfl, ?_⟩) hHeld ?_
        rotate_left 1
        · intro Wx hSW; simp only [List.getElem_toArray, List.getElem_cons_zero, List.getElem_cons_succ]; go_simp; try with_reducible rfl
        try simp only [Act.put, List.getElem_toArray, List.getElem_cons_zero, List.getElem_cons_succ, List.setIfInBounds_toArray, List.set_cons_zero, List.set_cons_succ]
        refine wpAnyH_take (i := 5) (v := ?_) rfl (by kernel_rfl) (by kernel_rfl) (by kernel_rfl) (fun _ _ _ h => h) (Or.inl ⟨by rfl, ?_⟩) hHeld ?_
        rotate_left 1
        · intro Wx hSW; simp only [List.getElem_toArray, List.getElem_cons_zero, List.getElem_cons_succ]; obtain ⟨z0, z1, z2, z3⟩ := hSW.out; go_simp; try with_reducible rfl
        try simp only [Act.put, List.getElem_toArray, List.getElem_cons_zero, List.getElem_cons_succ, List.setIfInBounds_toArray, List.set_cons_zero, List.set_cons_succ]
        refine wpAnyH_take (i := 6) (v := ?_) rfl (by kernel_rfl) (by kernel_rfl) (by kernel_rfl) (fun _ _ _ h => h) (Or.inl ⟨by rfl, ?_⟩) hHeld ?_
        rotate_left 1
        · intro Wx hSW; simp only [List.getElem_toArray, List.getElem_cons_zero, List.getElem_cons_succ]; go_simp; try with_reducible rfl
        try simp only [Act.put, List.getElem_toArray, List.getElem_cons_zero, List.getElem_cons_succ, List.setIfInBounds_toArray, List.set_cons_zero, List.set_cons_succ]
        refine wpAnyH_take (i := 7) (v := ?_) rfl (by kernel_rfl) (by kernel_rfl) (by kernel_rfl) (fun _ _ _ h => h) (Or.inl ⟨by rfl, ?_⟩) hHeld ?_
        rotate_left 1
        · intro Wx hSW; simp only [List.getElem_toArray, List.getElem_cons_zero, List.getElem_cons_succ]; go_simp; try with_reducible rfl
        try simp only [Act.put, List.getElem_toArray, List.getElem_cons_zero, List.getElem_cons_succ, List.setIfInBounds_toArray, List.set_cons_zero, List.set_cons_succ]
        refine wpAnyH_take (i := 8) (v := ?_) rfl (by kernel_rfl) (by kernel_rfl) (by kernel_rfl) (fun _ _ _ h => h) (Or.inl ⟨by rfl, ?_⟩) hHeld ?_
        rotate_left 1
        · intro Wx hSW; simp only [List.getElem_toArray, List.getElem_cons_zero, List.getElem_cons_succ]; obtain ⟨z0, z1, z2, z3⟩ := hSW.out; go_simp; try with_reducible rfl
        try simp only [Act.put, List.getElem_toArray, List.getElem_cons_zero, List.getElem_cons_succ, List.setIfInBounds_toArray, List.set_cons_zero, List.set_cons_succ]
        refine wpAnyH_take (i := 9) (v := ?_) rfl (by kernel_rfl) (by kernel_rfl) (by kernel_rfl) (fun _ _ _ h => h) (Or.inl ⟨by rfl, ?_⟩) hHeld ?_
        rotate_left 1
        · intro Wx hSW; simp only [List.getElem_toArray, List.getElem_cons_zero, List.getElem_cons_succ]; go_simp; try with_reducible rfl
        try simp only [Act.put, List.getElem_toArray, List.getElem_cons_zero, List.getElem_cons_succ, List.setIfInBounds_toArray, List.set_cons_zero, List.set_cons_succ]
        refine wpAnyH_take (i := 10) (v := ?_) rfl (by kernel_rfl) (by kernel_rfl) (by kernel_rfl) (fun _ _ _ h => h) (Or.inl ⟨by rfl, ?_⟩) hHeld ?_
        rotate_left 1
        · intro Wx hSW; simp only [List.getElem_toArray, List.getElem_cons_zero, List.getElem_cons_succ]; obtain ⟨z0, z1, z2, z3⟩ := hSW.out; go_simp; try with_reducible rfl
        try simp only [Act.put, List.getElem_toArray, List.getElem_cons_zero, List.getElem_cons_succ, List.setIfInBounds_toArray, List.set_cons_zero, List.set_cons_succ]
        refine wpAnyH_take (i := 11) (v := ?_) rfl (by kernel_rfl) (by kernel_rfl) (by kernel_rfl) (fun _ _ _ h => h) (Or.inl ⟨by rfl, ?_⟩) hHeld ?_
        rotate_left 1
        · intro Wx hSW; simp only [List.getElem_toArray, List.getElem_cons_zero, List.getElem_cons_succ]; go_simp; try with_reducible rfl
        try simp only [Act.put, List.getElem_toArray, List.getElem_cons_zero, List.getElem_cons_succ, List.setIfInBounds_toArray, List.set_cons_zero, List.set_cons_succ]
        refine wpAnyH_take (i := 12) (v := ?_) rfl (by kernel_rfl) (by kernel_rfl) (by kernel_rfl) (fun _ _ _ h => h) (Or.inl ⟨by rfl, ?_⟩) hHeld ?_
        rotate_left 1
        · intro Wx hSW; simp only [List.getElem_toArray, List.getElem_cons_zero, List.getElem_cons_succ]; go_simp; try with_reducible rfl
        try simp only [Act.put, List.getElem_toArray, List.getElem_cons_zero, List.getElem_cons_succ, List.setIfInBounds_toArray, List.set_cons_zero, List.set_cons_succ]
        refine wpAnyH_take (i := 13) (v := ?_) rfl (by kernel_rfl) (by kernel_rfl) (by kernel_rfl) (fun _ _ _ h => h) (Or.inl ⟨by rfl, ?_⟩) hHeld ?_
        rotate_left 1
        · intro Wx hSW; simp only [List.getElem_toArray, List.getElem_cons_zero, List.getElem_cons_succ]; obtain ⟨z0, z1, z2, z3⟩ := hSW.out; go_simp; try with_reducible rfl
        try simp only [Act.put, List.getElem_toArray, List.getElem_cons_zero, List.getElem_cons_succ, List.setIfInBounds_toArray, List.set_cons_zero, List.set_cons_succ]
        refine wpAnyH_ready (rs := [14]) (by kernel_rfl) (by simp) ?_
        refine AllReadyH.cons rfl (fun K hK => ?_) AllReadyH.nil
        go_simp
        refine HIB.out.mono ?_
        rintro r V7 ⟨rfl, bv7, n7, hA7, hb7, hG7, hM7⟩
        have HA7 := hide hA7
        have HG7 := hide ((Gw.of_below (P := CiX C (V4.heap.size + 1) V4.heap.size (.slice none 0 0)) ((Below.refl V6.heap.size V6).drew)).trans hG7 (fun _ _ q => q))
        have u1 := hA7.blk.cell 1
        simp only [List.getElem?_toArray, List.getElem?_cons_succ, List.getElem?_cons_zero] at u1
        have HQ7 : Hid (V7.cell? ⟨C, 1, none⟩ = some (.slice (some ⟨B, 0, none⟩) L.length L.length) ∧ V7.cell? ⟨B, i, none⟩ = some (.slice (some ⟨kb, ko, none⟩) 1 kc) ∧ V7.cell? ⟨kb, ko, none⟩ = some (.int .i64 (k0 : Nat)) ∧ V7.cell? ⟨V.heap.size, 4, none⟩ = some (.slice a3 d.types.length c3)) := ⟨u1, HG7.out.cell r1 (fun w => by have w : CiX C (V4.heap.size + 1) V4.heap.size (.slice none 0 0) B := w; have := (HX6.out _ w).1; have := HKW.out; omega), HG7.out.cell r2 (fun w => by have w : CiX C (V4.heap.size + 1) V4.heap.size (.slice none 0 0) kb := w; have := (HX6.out _ w).1; have := HKW.out; omega), HG7.out.cell w4 (fun w => by have w : CiX C (V4.heap.size + 1) V4.heap.size (.slice none 0 0) V.heap.size := w; have := (HX6.out _ w).2; have := HVC.out; have := HCL.out; omega)⟩
        clear hA7 hb7 hG7 hM7
        refine hK.out _ _ (HQ7.out) (fun hHeld => ?_)
        clear hK K
        try simp only [Act.put, List.getElem_toArray, List.getElem_cons_zero, List.getElem_cons_succ, List.setIfInBounds_toArray, List.set_cons_zero, List.set_cons_succ]
        refine wpAnyH_done (by kernel_rfl) ?_ _
        have u3 := HA7.out.blk.cell 3
        have uf3 := HA7.out.blk.frozen 3
        simp only [List.getElem?_toArray, List.getElem?_cons_succ, List.getElem?_cons_zero] at u3
        clear hHeld
        go_wp2
        go_end0
        have hfin := HBK.out V7 bv7 n7 y HA7.out HG7.out
        rw [HIM2.out]
        rw [HVS.out] at hfin
        exact ⟨rfl, hfin.1, HG4.out.trans hfin.2 (fun _ _ q => q)⟩
end Go.Proofs.YtdlahabeegmjiaaDoor
