/-
  The walk of impl's statement.
-/
import Derived.Test.YtdlahabeegmjiaaDoorJCkIKA
namespace Go.Proofs.YtdlahabeegmjiaaDoor
open Go.RowKit

theorem is_take {w : World} {a : Option Addr} {l c m : Nat} {X : List Nat} (h : IS w (.slice a l c) (X.map fun (k : Nat) => (k : Int))) (hm : m ≤ X.length) : IS w (.slice a m c) ((X.take m).map fun (k : Nat) => (k : Int)) := by
  obtain ⟨a', b, o, c', e, ha, hc⟩ := h
  injection e with e1 e2 e3
  subst e1 e3
  rw [List.length_map] at ha hc
  have hl : (X.take m).length = m := by rw [List.length_take]; omega
  refine ⟨a, b, o, c, by rw [List.length_map, hl], fun h => ha (by rw [List.length_map, hl] at h; omega), fun j hj => ?_⟩
  rw [List.length_map, hl] at hj
  have := hc j (by omega)
  rw [List.map_take]
  have e : ((X.map fun (k : Nat) => (k : Int)).take m).getD j 0 = (X.map fun (k : Nat) => (k : Int)).getD j 0 := by
    rw [List.getD_eq_getElem?_getD, List.getD_eq_getElem?_getD, List.getElem?_take_of_lt hj]
  rw [e]
  exact this
theorem is_tail {w : World} {b o l c c' : Nat} {X : List Nat} (h : IS w (.slice (some ⟨b, o, none⟩) l c) (X.map fun (k : Nat) => (k : Int))) (h0 : 0 < X.length) : IS w (.slice (some ⟨b, o + 1, none⟩) (X.length - 1) c') ((X.drop 1).map fun (k : Nat) => (k : Int)) := by
  obtain ⟨a', b', o', c2, e, ha, hc⟩ := h
  injection e with e1 e2 e3
  rw [List.length_map] at ha hc
  have e4 := ha h0
  rw [e4] at e1
  injection e1 with e1
  injection e1 with e1 e5
  subst e1 e5
  refine ⟨_, b, o + 1, c', by rw [List.length_map, List.length_drop], fun _ => rfl, fun j hj => ?_⟩
  rw [List.length_map, List.length_drop] at hj
  have := hc (j + 1) (by omega)
  rw [show o + (j + 1) = o + 1 + j by omega] at this
  rw [this, List.map_drop]
  have e : (X.map fun (k : Nat) => (k : Int)).getD (j + 1) 0 = ((X.map fun (k : Nat) => (k : Int)).drop 1).getD j 0 := by
    rw [List.getD_eq_getElem?_getD, List.getD_eq_getElem?_getD, List.getElem?_drop, Nat.add_comm]
  rw [e]

set_option maxHeartbeats 8000000 in
set_option maxRecDepth 1000000 in
theorem i_stat {w1 : World} {tv : Value} {L : List Nd} {B MM C f : Nat} (hR : OlR w1 tv L B MM) (hf : f + 1 ≤ 60) (IS0 : IsC w1 tv L B MM C f) (IB0 : IbC w1 tv L B MM C f) : IsC w1 tv L B MM C (f + 1) := by
  intro F0 i e S M s bv n V K hF hg he h3 h15 hA hb hK
  obtain ⟨F, rfl⟩ : ∃ F, F0 = F + 1 := ⟨F0 - 1, by omega⟩
  have hil := (hg.step hf).1
  have hili : (i : Int) < (L.length : Int) := by omega
  have hL4 := (vT_good hR.vt).2.1
  have hel := (sE_br _ _ _ _ _ he).le
  have hlk := Gd.lk hf he
  have hile : i + 1 ≤ e := hlk.le
  obtain ⟨tb, tq, tc, vt, vn, vy, htv, hNC, hNV⟩ := hR.ns.nod hil
  have HR := hide hR
  subst htv
  obtain ⟨Vd, hVd⟩ : ∃ W, V.drew = W := ⟨_, rfl⟩
  have hbd : Below V.heap.size V Vd := by rw [← hVd]; exact (Below.refl _ _).drew
  have hAV := hA
  have hA := hA.below hbd
  obtain ⟨n0, n1, n2, n3, n4, n5⟩ := hNC.below hA.bl
  have HNV := hide hNV
  obtain ⟨a1, c1, a2, c2, a3, c3, rfl, rfl, rfl⟩ := hNV.slc
  have g0 := hA.blk.cell 0
  have g1 := hA.blk.cell 1
  simp only [List.getElem?_toArray, List.getElem?_cons_succ, List.getElem?_cons_zero] at g0 g1
  obtain ⟨ka, kc, hk1, hkI, hkc⟩ := hR.row hil
  have k1 := cell_kept hk1 hA.bl
  have hkn := hg.mem hf
  have HG := hide hg
  have HA := hide hA
  have HIS := hide IS0
  have HIB := hide IB0
  have HX := hide (x_all (C := C) hR f (by omega))
  have HLK := hide hlk
  have HKL : Hid ((kidsOf L i).length ≤ 4000) := Nat.le_trans (kds_le hf hg) hL4
  have HKI := hide hkI
  have hvl : n ≤ 100000 := by omega
  obtain ⟨d, hd⟩ : ∃ d, ndA L i = d := ⟨_, rfl⟩
  have HD := hide hd
  rw [hd] at n0 n1 n2 n3 n4 n5 h3 h15 HNV
  obtain ⟨Va, hVa⟩ : ∃ W, World.alloc Vd (.cells #[.int .i64 0, .int .i64 0, .slice none 0 0, .slice none 0 0, .slice none 0 0, .int .i64 0] 42) = W := ⟨_, rfl⟩
  have hOb : Blk Va (World.heap Vd).size 42 #[.int .i64 0, .int .i64 0, .slice none 0 0, .slice none 0 0, .slice none 0 0, .int .i64 0] := by rw [← hVa]; exact Blk.new _ _ _
  have o0 := hOb.cell 0
  have of0 := hOb.frozen 0
  have o1 := hOb.cell 1
  have of1 := hOb.frozen 1
  have o2 := hOb.cell 2
  have of2 := hOb.frozen 2
  have o3 := hOb.cell 3
  have of3 := hOb.frozen 3
  have o4 := hOb.cell 4
  have of4 := hOb.frozen 4
  have o5 := hOb.cell 5
  have of5 := hOb.frozen 5
  simp only [List.getElem?_toArray, List.getElem?_cons_succ, List.getElem?_cons_zero] at o0 o1 o2 o3 o4 o5
  obtain ⟨V2, hV2⟩ : ∃ W, set6w Va (World.heap Vd).size (.int .i64 (d).kind) (.int .i64 (d).n) (.slice a1 (d).text.size c1) (.slice a2 (d).names.length c2) (.slice a3 (d).types.length c3) (.int .i64 (d).count) = W := ⟨_, rfl⟩
  have hCp : Blk V2 (World.heap Vd).size 42 #[.int .i64 (d).kind, .int .i64 (d).n, .slice a1 (d).text.size c1, .slice a2 (d).names.length c2, .slice a3 (d).types.length c3, .int .i64 (d).count] := by rw [← hV2]; exact hOb.set6w _ _ _ _ _ _
  have hBl : Below (World.heap Vd).size Vd V2 := by
    have hA : Below (World.heap Vd).size Vd Va := by rw [← hVa]; exact (Below.refl _ _).alloc (Nat.le_refl _) _
    rw [← hV2]
    exact (((((hA.setCell (Nat.le_refl _) _).setCell (Nat.le_refl _) _).setCell (Nat.le_refl _) _).setCell (Nat.le_refl _) _).setCell (Nat.le_refl _) _).setCell (Nat.le_refl _) _
  unfold set6w at hV2
  have HBl := hide hBl
  have HBVa : Hid (Below Vd.heap.size Vd Va) := by show Below _ _ _; rw [← hVa]; exact (Below.refl _ _).alloc (Nat.le_refl _) _
  have HCp := hide hCp
  have m0 := hCp.cell 0
  have m3 := hCp.cell 3
  simp only [List.getElem?_toArray, List.getElem?_cons_succ, List.getElem?_cons_zero] at m0 m3
  have hA2 := hA.below hBl
  have HA2 := hide hA2
  have HVC : Hid (C < Vd.heap.size) := hA.blk.lt
  have HXV : Hid (∀ k, CiX C S M bv k → w1.heap.size ≤ k ∧ k < Vd.heap.size) := hA.xlt
  have HBD : Hid (Below V.heap.size V V2) := hbd.trans (hBl.mono hbd.size)
  have HCZ : Hid (∀ W, Below Vd.heap.size Vd W → W.cell? ⟨C, 0, none⟩ = some (.slice (some ⟨tb, tq, none⟩) L.length tc) ∧ W.cell? ⟨C, 1, none⟩ = some (.slice (some ⟨B, 0, none⟩) L.length L.length) ∧ W.cell? ⟨B, i, none⟩ = some (.slice ka (kidsOf L i).length kc) ∧ W.cell? ⟨tb, tq + i * 6, none⟩ = some (.int .i64 d.kind) ∧ W.cell? ⟨tb, tq + i * 6 + 1, none⟩ = some (.int .i64 d.n) ∧ W.cell? ⟨tb, tq + i * 6 + 2, none⟩ = some (.slice a1 d.text.size c1) ∧ W.cell? ⟨tb, tq + i * 6 + 3, none⟩ = some (.slice a2 d.names.length c2) ∧ W.cell? ⟨tb, tq + i * 6 + 4, none⟩ = some (.slice a3 d.types.length c3) ∧ W.cell? ⟨tb, tq + i * 6 + 5, none⟩ = some (.int .i64 d.count)) := fun W hW => ⟨cell_kept g0 hW, cell_kept g1 hW, cell_kept k1 hW, cell_kept n0 hW, cell_kept n1 hW, cell_kept n2 hW, cell_kept n3 hW, cell_kept n4 hW, cell_kept n5 hW⟩
  have p3 := hA2.blk.cell 3
  have p2 := hA2.blk.cell 2
  simp only [List.getElem?_toArray, List.getElem?_cons_succ, List.getElem?_cons_zero] at p2 p3
  clear hR hA hAV hNC hNV hA2 hBl hCp IS0 IB0 hk1 hkI hlk hd hbd
  obtain ⟨X, hX⟩ : ∃ X, kidsOf L i = X := ⟨_, rfl⟩
  have HXX := hide hX
  rw [hX] at k1 hkc hkn HLK HKL HKI HCZ
  clear hX
  have HFT : Hid (∀ (Y : List Nat) (u : Value) (s0 : Ci) (W : World), IS w1 u (Y.map fun (k : Nat) => (k : Int)) → (∀ k ∈ Y, Gd L f k ∧ 16 ≤ (ndA L k).kind ∧ (ndA L k).kind ≤ 22) → Y.length ≤ 4000 → ((ndA L i).kind = 6 → 0 < Y.length) → ((ndA L i).kind = 14 ∨ (ndA L i).kind = 15 → 1 < Y.length) → CiA w1 W (.slice (some ⟨tb, tq, none⟩) L.length tc) L B MM C S M s0 bv n → Calls Tryd.prog 55 #[.pointer (some ⟨C, 0, none⟩), .int .i64 (i : Nat), u] W (XQ w1 (.slice (some ⟨tb, tq, none⟩) L.length tc) L B MM C S M bv n W (.bool (fitI L (xI L 61) s0 i Y).1) (fitI L (xI L 61) s0 i Y).2)) := fun Y u s0 W hu hY hYl h6 h14 hW => by
    have h15' : (ndA L i).kind ≤ 15 := by rw [HD.out]; exact h15
    exact fit_any (F := 61) HR.out HX.out (by omega) hil hu hY hYl (fun h => ⟨HG.out.name hf (.inr (.inl h)), HG.out.nmle hf⟩) (fun h => by rcases h with h | h; exact h6 h; omega) (fun h => by rcases h with h | h; omega; exact h14 h) hW hvl
  have HEX : Hid (d.kind ≠ 5 → d.kind ≠ 6 → ∀ k ∈ X, Gd L f k ∧ 16 ≤ (ndA L k).kind ∧ (ndA L k).kind ≤ 22) := fun n5 n6 k hk => by
    obtain ⟨j, hj, hjk⟩ := List.getElem_of_mem hk
    obtain ⟨h1, h2⟩ := hkn j k (by rw [List.getElem?_eq_getElem hj, hjk])
    rw [HD.out] at h2
    exact ⟨h1, mSt_ex (by omega) (fun h => n5 h.1) (fun h => n6 h.1) h2⟩
  have HKN := hide hkn
  clear hkn
  go_enter Tryd.func40, Tryd.ntmps40
  go_wp2_with fail
  refine wp_region_held_drew (S := fun W => Hid (Below Vd.heap.size Vd W)) (by kernel_rfl) (by rw [hVd]; exact Below.refl _ _) (fun hHeld => ?_)
  refine wpAnyH_take (i := 0) (v := ?_) rfl (by kernel_rfl) (by kernel_rfl) (by kernel_rfl) (fun _ _ _ h => h) (Or.inl ⟨by rfl, ?_⟩) hHeld ?_
  rotate_left 1
  · intro Wx hSW; simp only [List.getElem_toArray, List.getElem_cons_zero]; go_simp; try with_reducible rfl
  try simp only [Act.put, List.getElem_toArray, List.getElem_cons_zero, List.setIfInBounds_toArray, List.set_cons_zero, List.set_cons_succ]
  refine wpAnyH_take (i := 1) (v := ?_) rfl (by kernel_rfl) (by kernel_rfl) (by kernel_rfl) (fun _ _ _ h => h) (Or.inl ⟨by rfl, ?_⟩) hHeld ?_
  rotate_left 1
  · intro Wx hSW; simp only [List.getElem_toArray, List.getElem_cons_zero, List.getElem_cons_succ]; go_simp; try with_reducible rfl
  try simp only [Act.put, List.getElem_toArray, List.getElem_cons_zero, List.getElem_cons_succ, List.setIfInBounds_toArray, List.set_cons_zero, List.set_cons_succ]
  refine wpAnyH_take (i := 2) (v := ?_) rfl (by kernel_rfl) (by kernel_rfl) (by kernel_rfl) (fun _ _ _ h => h) (Or.inl ⟨by rfl, ?_⟩) hHeld ?_
  rotate_left 1
  · intro Wx hSW; simp only [List.getElem_toArray, List.getElem_cons_zero, List.getElem_cons_succ]; go_simp; try with_reducible rfl
  try simp only [Act.put, List.getElem_toArray, List.getElem_cons_zero, List.getElem_cons_succ, List.setIfInBounds_toArray, List.set_cons_zero, List.set_cons_succ]
  refine wpAnyH_take (i := 3) (v := ?_) rfl (by kernel_rfl) (by kernel_rfl) (by kernel_rfl) (fun _ _ _ h => h) (Or.inl ⟨by rfl, ?_⟩) hHeld ?_
  rotate_left 1
  · intro Wx hSW; simp only [List.getElem_toArray, List.getElem_cons_zero, List.getElem_cons_succ]; go_simp; try with_reducible rfl
  try simp only [Act.put, List.getElem_toArray, List.getElem_cons_zero, List.getElem_cons_succ, List.setIfInBounds_toArray, List.set_cons_zero, List.set_cons_succ]
  refine wpAnyH_take (i := 4) (v := ?_) rfl (by kernel_rfl) (by kernel_rfl) (by kernel_rfl) (fun _ _ _ h => h) (Or.inl ⟨by rfl, ?_⟩) hHeld ?_
  rotate_left 1
  · intro Wx hSW; simp only [List.getElem_toArray, List.getElem_cons_zero, List.getElem_cons_succ]; obtain ⟨z0, z1, z2, z3, z4, z5, z6, z7, z8⟩ := HCZ.out Wx hSW.out; go_simp; try with_reducible rfl
  try simp only [Act.put, List.getElem_toArray, List.getElem_cons_zero, List.getElem_cons_succ, List.setIfInBounds_toArray, List.set_cons_zero, List.set_cons_succ]
  refine wpAnyH_take (i := 5) (v := ?_) rfl (by kernel_rfl) (by kernel_rfl) (by kernel_rfl) (fun _ _ _ h => h) (Or.inl ⟨by rfl, ?_⟩) hHeld ?_
  rotate_left 1
  · intro Wx hSW; simp only [List.getElem_toArray, List.getElem_cons_zero, List.getElem_cons_succ]; go_simp; try with_reducible rfl
  try simp only [Act.put, List.getElem_toArray, List.getElem_cons_zero, List.getElem_cons_succ, List.setIfInBounds_toArray, List.set_cons_zero, List.set_cons_succ]
  refine wpAnyH_take (i := 6) (v := ?_) rfl (by kernel_rfl) (by kernel_rfl) (by kernel_rfl) (fun _ _ _ h => h) (Or.inl ⟨by rfl, ?_⟩) hHeld ?_
  rotate_left 1
  · intro Wx hSW; simp only [List.getElem_toArray, List.getElem_cons_zero, List.getElem_cons_succ]; go_simp; try with_reducible rfl
  try simp only [Act.put, List.getElem_toArray, List.getElem_cons_zero, List.getElem_cons_succ, List.setIfInBounds_toArray, List.set_cons_zero, List.set_cons_succ]
  refine wpAnyH_take (i := 7) (v := ?_) rfl (by kernel_rfl) (by kernel_rfl) (by kernel_rfl) (fun _ _ _ h => h) (Or.inl ⟨by rfl, ?_⟩) hHeld ?_
  rotate_left 1
  · intro Wx hSW; simp only [List.getElem_toArray, List.getElem_cons_zero, List.getElem_cons_succ]; obtain ⟨z0, z1, z2, z3, z4, z5, z6, z7, z8⟩ := HCZ.out Wx hSW.out; go_simp; try with_reducible rfl
  try simp only [Act.put, List.getElem_toArray, List.getElem_cons_zero, List.getElem_cons_succ, List.setIfInBounds_toArray, List.set_cons_zero, List.set_cons_succ]
  refine wpAnyH_take (i := 8) (v := ?_) rfl (by kernel_rfl) (by kernel_rfl) (by kernel_rfl) (fun _ _ _ h => h) (Or.inl ⟨by rfl, ?_⟩) hHeld ?_
  rotate_left 1
  · intro Wx hSW; simp only [List.getElem_toArray, List.getElem_cons_zero, List.getElem_cons_succ]; go_simp; try with_reducible rfl
  try simp only [Act.put, List.getElem_toArray, List.getElem_cons_zero, List.getElem_cons_succ, List.setIfInBounds_toArray, List.set_cons_zero, List.set_cons_succ]
  refine wpAnyH_take (i := 9) (v := ?_) rfl (by kernel_rfl) (by kernel_rfl) (by kernel_rfl) (fun _ _ _ h => h) (Or.inl ⟨by rfl, ?_⟩) hHeld ?_
  rotate_left 1
  · intro Wx hSW; simp only [List.getElem_toArray, List.getElem_cons_zero, List.getElem_cons_succ]; go_simp; try with_reducible rfl
  try simp only [Act.put, List.getElem_toArray, List.getElem_cons_zero, List.getElem_cons_succ, List.setIfInBounds_toArray, List.set_cons_zero, List.set_cons_succ]
  refine wpAnyH_take (i := 10) (v := ?_) rfl (by kernel_rfl) (by kernel_rfl) (by kernel_rfl) (fun _ _ _ h => h) (Or.inl ⟨by rfl, ?_⟩) hHeld ?_
  rotate_left 1
  · intro Wx hSW; simp only [List.getElem_toArray, List.getElem_cons_zero, List.getElem_cons_succ]; go_simp; try with_reducible rfl
  try simp only [Act.put, List.getElem_toArray, List.getElem_cons_zero, List.getElem_cons_succ, List.setIfInBounds_toArray, List.set_cons_zero, List.set_cons_succ]
  refine wpAnyH_take (i := 11) (v := ?_) rfl (by kernel_rfl) (by kernel_rfl) (by kernel_rfl) (fun _ _ _ h => h) (Or.inl ⟨by rfl, ?_⟩) hHeld ?_
  rotate_left 1
  · intro Wx hSW; simp only [List.getElem_toArray, List.getElem_cons_zero, List.getElem_cons_succ]; go_simp; try with_reducible rfl
  try simp only [Act.put, List.getElem_toArray, List.getElem_cons_zero, List.getElem_cons_succ, List.setIfInBounds_toArray, List.set_cons_zero, List.set_cons_succ]
  refine wpAnyH_take (i := 12) (v := ?_) rfl (by kernel_rfl) (by kernel_rfl) (by kernel_rfl) (fun _ _ _ h => h) (Or.inl ⟨by rfl, ?_⟩) hHeld ?_
  rotate_left 1
  · intro Wx hSW; simp only [List.getElem_toArray, List.getElem_cons_zero, List.getElem_cons_succ]; obtain ⟨z0, z1, z2, z3, z4, z5, z6, z7, z8⟩ := HCZ.out Wx hSW.out; go_simp; try with_reducible rfl
  try simp only [Act.put, List.getElem_toArray, List.getElem_cons_zero, List.getElem_cons_succ, List.setIfInBounds_toArray, List.set_cons_zero, List.set_cons_succ]
  refine wpAnyH_take (i := 13) (v := ?_) rfl (by kernel_rfl) (by kernel_rfl) (by kernel_rfl) (fun _ _ _ h => h) (Or.inl ⟨by rfl, ?_⟩) hHeld ?_
  rotate_left 1
  · intro Wx hSW; simp only [List.getElem_toArray, List.getElem_cons_zero, List.getElem_cons_succ]; go_simp; try with_reducible rfl
  try simp only [Act.put, List.getElem_toArray, List.getElem_cons_zero, List.getElem_cons_succ, List.setIfInBounds_toArray, List.set_cons_zero, List.set_cons_succ]
  refine wpAnyH_take (i := 14) (v := ?_) rfl (by kernel_rfl) (by kernel_rfl) (by kernel_rfl) (fun _ _ _ h => h) (Or.inl ⟨by rfl, ?_⟩) hHeld ?_
  rotate_left 1
  · intro Wx hSW; simp only [List.getElem_toArray, List.getElem_cons_zero, List.getElem_cons_succ]; go_simp; try with_reducible rfl
  try simp only [Act.put, List.getElem_toArray, List.getElem_cons_zero, List.getElem_cons_succ, List.setIfInBounds_toArray, List.set_cons_zero, List.set_cons_succ]
  refine wpAnyH_take (i := 15) (v := ?_) rfl (by kernel_rfl) (by kernel_rfl) (by kernel_rfl) (fun _ _ _ h => h) (Or.inl ⟨by rfl, ?_⟩) hHeld ?_
  rotate_left 1
  · intro Wx hSW; simp only [List.getElem_toArray, List.getElem_cons_zero, List.getElem_cons_succ]; obtain ⟨z0, z1, z2, z3, z4, z5, z6, z7, z8⟩ := HCZ.out Wx hSW.out; go_simp; try with_reducible rfl
  try simp only [Act.put, List.getElem_toArray, List.getElem_cons_zero, List.getElem_cons_succ, List.setIfInBounds_toArray, List.set_cons_zero, List.set_cons_succ]
  rw [hVd]
  refine wpAnyH_ready (rs := [16]) (by kernel_rfl) (by simp) ?_
  refine AllReadyH.cons rfl (fun K hK => ?_) AllReadyH.nil
  go_simp
  refine hK.out _ _ (HBVa.out) (fun hHeld => ?_)
  clear hK K
  try simp only [Act.put, List.getElem_toArray, List.getElem_cons_zero, List.getElem_cons_succ, List.setIfInBounds_toArray, List.set_cons_zero, List.set_cons_succ]
  refine wpAnyH_ready (rs := [17]) (by kernel_rfl) (by simp) ?_
  refine AllReadyH.cons rfl (fun K hK => ?_) AllReadyH.nil
  go_simp
  refine hK.out _ _ (HBl.out) (fun hHeld => ?_)
  clear hK K
  try simp only [Act.put, List.getElem_toArray, List.getElem_cons_zero, List.getElem_cons_succ, List.setIfInBounds_toArray, List.set_cons_zero, List.set_cons_succ]
  refine wpAnyH_take (i := 18) (v := ?_) rfl (by kernel_rfl) (by kernel_rfl) (by kernel_rfl) (fun _ _ _ h => h) (Or.inl ⟨by rfl, ?_⟩) hHeld ?_
  rotate_left 1
  · intro Wx hSW; simp only [List.getElem_toArray, List.getElem_cons_zero, List.getElem_cons_succ]; go_simp; try with_reducible rfl
  try simp only [Act.put, List.getElem_toArray, List.getElem_cons_zero, List.getElem_cons_succ, List.setIfInBounds_toArray, List.set_cons_zero, List.set_cons_succ]
  refine wpAnyH_done (by kernel_rfl) ?_ _
  clear g0 g1 n0 n1 n2 n3 n4 n5 hVa hV2 o0 of0 o1 of1 o2 of2 o3 of3 o4 of4 o5 of5 hVd k1 hHeld
  by_cases q3 : d.kind = 3
  · rw [q3] at m0
    obtain ⟨k0, hk0⟩ : ∃ k, X[0]? = some k := by
      obtain ⟨k, hk, _⟩ := HG.out.first hf (.inl (by rw [HD.out]; exact q3))
      rw [HXX.out] at hk
      exact ⟨k, hk⟩
    have hlx : 0 < X.length := by
      rcases Nat.eq_zero_or_pos X.length with z | z
      · rw [List.getElem?_eq_none (by omega)] at hk0; cases hk0
      · exact z
    have hlxi : (0 : Int) < (X.length : Int) := by omega
    obtain ⟨hg0, h016, h022⟩ := HEX.out (by omega) (by omega) k0 (List.mem_of_getElem? hk0)
    obtain ⟨_, kb, ko, kc', e1, hka, hkcc⟩ := HKI.out
    rw [List.length_map] at e1 hka hkcc
    injection e1 with e1 _ e2
    subst e1 e2
    obtain rfl := hka hlx
    have x0 := cell_kept (hkcc 0 hlx) HA2.out.bl
    have e3 : (X.map fun (k : Nat) => (k : Int)).getD 0 0 = (k0 : Int) := by rw [List.getD_eq_getElem?_getD, List.getElem?_map, hk0]; rfl
    rw [e3, Nat.add_zero] at x0
    have hnl := HG.out.name hf (.inl (by rw [HD.out]; exact q3))
    have hnz := HG.out.nmle hf ((ndA L i).names.getD 0 .empty) (by rw [List.getD_eq_getElem?_getD, List.getElem?_eq_getElem (by omega)]; exact List.getElem_mem _)
    rw [HD.out] at hnl hnz
    obtain ⟨nb, no, nc, nu, e5, hnu, hbs⟩ := HNV.out.nm0 (by omega)
    injection e5 with e5 _ e6
    subst e5 e6
    have hnur := cell_kept hnu HA2.out.bl
    have HE : Hid (iS L (F + 1) s i = { (xI L 61 s k0).2 with vars := (xI L 61 s k0).2.vars ++ [(d.names.getD 0 .empty, (xI L 61 s k0).1)] }) := by
      show _ = _
      have e7 : X.getD 0 0 = k0 := by rw [List.getD_eq_getElem?_getD, hk0]; rfl
      rw [iS, HD.out, if_pos q3, HXX.out, e7]
    obtain ⟨nm, hnm⟩ : ∃ y, d.names.getD 0 .empty = y := ⟨_, rfl⟩
    rw [hnm] at hbs hnz HE
    have HBS := hide hbs
    obtain ⟨na', nb', no', nc', rfl, _, _⟩ := hbs
    have hnl0 : 0 < d.names.length := by omega
    have HXC := hide (fun W (hW : Below V2.heap.size V2 W) => HX.out 61 k0 S M s bv n W (by omega) hg0 h016 h022 (HA2.out.below hW) hvl)
    have HYV : Hid ((xI L 61 s k0).2.vars = s.vars) := xI_vars L 61 s k0
    obtain ⟨y, hy⟩ : ∃ y, xI L 61 s k0 = y := ⟨_, rfl⟩
    rw [hy] at HE HYV
    simp only [hy] at HXC
    have HNW : Hid (nb < w1.heap.size) := World.block_lt_of_cell? _ _ hnu
    have HKW : Hid (kb < w1.heap.size) := World.block_lt_of_cell? _ _ (hkcc 0 hlx)
    have HLC : Hid (w1.heap.size ≤ C) := HA2.out.lc
    clear q3 hk0 hg0 h016 h022 hkcc hka e3 hnl hnu hnm hy
    go_wp2_with fail
    refine wp_region_held_drew (S := fun X0 => Hid (X0.cell? ⟨C, 3, none⟩ = some (.pointer (some ⟨S, 0, none⟩)) ∧ X0.cell? ⟨Vd.heap.size, 3, none⟩ = some (.slice (some ⟨nb, no, none⟩) d.names.length c2) ∧ X0.cell? ⟨nb, no, none⟩ = some (.slice na' nm.size nc') ∧ X0.cell? ⟨kb, ko, none⟩ = some (.int .i64 (k0 : Nat)))) (by kernel_rfl) (⟨p3, m3, hnur, x0⟩) (fun hHeld => ?_)
    refine wpAnyH_take (i := 0) (v := ?_) rfl (by kernel_rfl) (by kernel_rfl) (by kernel_rfl) (fun _ _ _ h => h) (Or.inl ⟨by rfl, ?_⟩) hHeld ?_
    rotate_left 1
    · intro Wx hSW; simp only [List.getElem_toArray, List.getElem_cons_zero]; go_simp; try with_reducible rfl
    try simp only [Act.put, List.getElem_toArray, List.getElem_cons_zero, List.setIfInBounds_toArray, List.set_cons_zero, List.set_cons_succ]
    refine wpAnyH_take (i := 1) (v := ?_) rfl (by kernel_rfl) (by kernel_rfl) (by kernel_rfl) (fun _ _ _ h => h) (Or.inl ⟨by rfl, ?_⟩) hHeld ?_
    rotate_left 1
    · intro Wx hSW; simp only [List.getElem_toArray, List.getElem_cons_zero, List.getElem_cons_succ]; go_simp; try with_reducible rfl
    try simp only [Act.put, List.getElem_toArray, List.getElem_cons_zero, List.getElem_cons_succ, List.setIfInBounds_toArray, List.set_cons_zero, List.set_cons_succ]
    refine wpAnyH_take (i := 2) (v := ?_) rfl (by kernel_rfl) (by kernel_rfl) (by kernel_rfl) (fun _ _ _ h => h) (Or.inl ⟨by rfl, ?_⟩) hHeld ?_
    rotate_left 1
    · intro Wx hSW; simp only [List.getElem_toArray, List.getElem_cons_zero, List.getElem_cons_succ]; go_simp; try with_reducible rfl
    try simp only [Act.put, List.getElem_toArray, List.getElem_cons_zero, List.getElem_cons_succ, List.setIfInBounds_toArray, List.set_cons_zero, List.set_cons_succ]
    refine wpAnyH_take (i := 3) (v := ?_) rfl (by kernel_rfl) (by kernel_rfl) (by kernel_rfl) (fun _ _ _ h => h) (Or.inl ⟨by rfl, ?_⟩) hHeld ?_
    rotate_left 1
    · intro Wx hSW; simp only [List.getElem_toArray, List.getElem_cons_zero, List.getElem_cons_succ]; obtain ⟨z0, z1, z2, z3⟩ := hSW.out; go_simp; try with_reducible rfl
    try simp only [Act.put, List.getElem_toArray, List.getElem_cons_zero, List.getElem_cons_succ, List.setIfInBounds_toArray, List.set_cons_zero, List.set_cons_succ]
    refine wpAnyH_take (i := 4) (v := ?_) rfl (by kernel_rfl) (by kernel_rfl) (by kernel_rfl) (fun _ _ _ h => h) (Or.inl ⟨by rfl, ?_⟩) hHeld ?_
    rotate_left 1
    · intro Wx hSW; simp only [List.getElem_toArray, List.getElem_cons_zero, List.getElem_cons_succ]; go_simp; try with_reducible rfl
    try simp only [Act.put, List.getElem_toArray, List.getElem_cons_zero, List.getElem_cons_succ, List.setIfInBounds_toArray, List.set_cons_zero, List.set_cons_succ]
    refine wpAnyH_take (i := 5) (v := ?_) rfl (by kernel_rfl) (by kernel_rfl) (by kernel_rfl) (fun _ _ _ h => h) (Or.inl ⟨by rfl, ?_⟩) hHeld ?_
    rotate_left 1
    · intro Wx hSW; simp only [List.getElem_toArray, List.getElem_cons_zero, List.getElem_cons_succ]; obtain ⟨z0, z1, z2, z3⟩ := hSW.out; go_simp; try with_reducible rfl
    try simp only [Act.put, List.getElem_toArray, List.getElem_cons_zero, List.getElem_cons_succ, List.setIfInBounds_toArray, List.set_cons_zero, List.set_cons_succ]
    refine wpAnyH_take (i := 6) (v := ?_) rfl (by kernel_rfl) (by kernel_rfl) (by kernel_rfl) (fun _ _ _ h => h) (Or.inl ⟨by rfl, ?_⟩) hHeld ?_
    rotate_left 1
    · intro Wx hSW; simp only [List.getElem_toArray, List.getElem_cons_zero, List.getElem_cons_succ]; go_simp; try with_reducible rfl
    try simp only [Act.put, List.getElem_toArray, List.getElem_cons_zero, List.getElem_cons_succ, List.setIfInBounds_toArray, List.set_cons_zero, List.set_cons_succ]
    refine wpAnyH_take (i := 7) (v := ?_) rfl (by kernel_rfl) (by kernel_rfl) (by kernel_rfl) (fun _ _ _ h => h) (Or.inl ⟨by rfl, ?_⟩) hHeld ?_
    rotate_left 1
    · intro Wx hSW; simp only [List.getElem_toArray, List.getElem_cons_zero, List.getElem_cons_succ]; obtain ⟨z0, z1, z2, z3⟩ := hSW.out; go_simp; try with_reducible rfl
    try simp only [Act.put, List.getElem_toArray, List.getElem_cons_zero, List.getElem_cons_succ, List.setIfInBounds_toArray, List.set_cons_zero, List.set_cons_succ]
    refine wpAnyH_take (i := 8) (v := ?_) rfl (by kernel_rfl) (by kernel_rfl) (by kernel_rfl) (fun _ _ _ h => h) (Or.inl ⟨by rfl, ?_⟩) hHeld ?_
    rotate_left 1
    · intro Wx hSW; simp only [List.getElem_toArray, List.getElem_cons_zero, List.getElem_cons_succ]; go_simp; try with_reducible rfl
    try simp only [Act.put, List.getElem_toArray, List.getElem_cons_zero, List.getElem_cons_succ, List.setIfInBounds_toArray, List.set_cons_zero, List.set_cons_succ]
    refine wpAnyH_take (i := 9) (v := ?_) rfl (by kernel_rfl) (by kernel_rfl) (by kernel_rfl) (fun _ _ _ h => h) (Or.inl ⟨by rfl, ?_⟩) hHeld ?_
    rotate_left 1
    · intro Wx hSW; simp only [List.getElem_toArray, List.getElem_cons_zero, List.getElem_cons_succ]; go_simp; try with_reducible rfl
    try simp only [Act.put, List.getElem_toArray, List.getElem_cons_zero, List.getElem_cons_succ, List.setIfInBounds_toArray, List.set_cons_zero, List.set_cons_succ]
    refine wpAnyH_take (i := 10) (v := ?_) rfl (by kernel_rfl) (by kernel_rfl) (by kernel_rfl) (fun _ _ _ h => h) (Or.inl ⟨by rfl, ?_⟩) hHeld ?_
    rotate_left 1
    · intro Wx hSW; simp only [List.getElem_toArray, List.getElem_cons_zero, List.getElem_cons_succ]; go_simp; try with_reducible rfl
    try simp only [Act.put, List.getElem_toArray, List.getElem_cons_zero, List.getElem_cons_succ, List.setIfInBounds_toArray, List.set_cons_zero, List.set_cons_succ]
    refine wpAnyH_take (i := 11) (v := ?_) rfl (by kernel_rfl) (by kernel_rfl) (by kernel_rfl) (fun _ _ _ h => h) (Or.inl ⟨by rfl, ?_⟩) hHeld ?_
    rotate_left 1
    · intro Wx hSW; simp only [List.getElem_toArray, List.getElem_cons_zero, List.getElem_cons_succ]; obtain ⟨z0, z1, z2, z3⟩ := hSW.out; go_simp; try with_reducible rfl
    try simp only [Act.put, List.getElem_toArray, List.getElem_cons_zero, List.getElem_cons_succ, List.setIfInBounds_toArray, List.set_cons_zero, List.set_cons_succ]
    refine wpAnyH_ready (rs := [12]) (by kernel_rfl) (by simp) ?_
    refine AllReadyH.cons rfl (fun K hK => ?_) AllReadyH.nil
    go_simp
    refine (HXC.out _ ((Below.refl _ _).drew)).mono ?_
    rintro r V3 ⟨rfl, hA3, hG3⟩
    have HA3 := hide hA3
    have HG3 := hide ((Gw.of_below (P := (· = C)) ((Below.refl V2.heap.size V2).drew)).trans hG3 (fun _ _ q => q))
    have y3 := hA3.blk.cell 3
    simp only [List.getElem?_toArray, List.getElem?_cons_succ, List.getElem?_cons_zero] at y3
    have hx3 : V3.cell? ⟨Vd.heap.size, 3, none⟩ = _ ∧ V3.cell? ⟨nb, no, none⟩ = _ ∧ V3.cell? ⟨kb, ko, none⟩ = _ := ⟨HG3.out.cell m3 (fun q => by have q : Vd.heap.size = C := q; have := HVC.out; omega), HG3.out.cell hnur (fun q => by have q : nb = C := q; have := HNW.out; have := HLC.out; omega), HG3.out.cell x0 (fun q => by have q : kb = C := q; have := HKW.out; have := HLC.out; omega)⟩
    have HX3 := hide hx3
    clear hA3 hG3 hx3
    refine hK.out _ _ (⟨y3, HX3.out.1, HX3.out.2.1, HX3.out.2.2⟩) (fun hHeld => ?_)
    clear hK K
    try simp only [Act.put, List.getElem_toArray, List.getElem_cons_zero, List.getElem_cons_succ, List.setIfInBounds_toArray, List.set_cons_zero, List.set_cons_succ]
    have HBN := hide (bind_any (t := y.1) HA3.out.sc (HBS.out.below HA3.out.bl) (by omega) hvl)
    refine wpAnyH_ready (rs := [13]) (by kernel_rfl) (by simp) ?_
    refine AllReadyH.cons rfl (fun K hK => ?_) AllReadyH.nil
    go_simp
    refine HBN.out.mono ?_
    rintro r V4 ⟨rfl, bv4, hS4, hG4, hM4⟩
    have HA4 := hide (HA3.out.bound hS4 hG4 hM4)
    have HG4 := hide hG4
    have HM4 := hide hM4
    have HQ4 : Hid (V4.cell? ⟨C, 3, none⟩ = some (.pointer (some ⟨S, 0, none⟩)) ∧ V4.cell? ⟨Vd.heap.size, 3, none⟩ = some (.slice (some ⟨nb, no, none⟩) d.names.length c2) ∧ V4.cell? ⟨nb, no, none⟩ = some (.slice na' nm.size nc') ∧ V4.cell? ⟨kb, ko, none⟩ = some (.int .i64 (k0 : Nat))) := ⟨hG4.cell y3 (fun q => HA3.out.cx _ q rfl), hG4.cell HX3.out.1 (fun q => by have q : ScX S M bv Vd.heap.size := q; have := (HXV.out _ (.inr q)).2; omega), hG4.cell HX3.out.2.1 (fun q => by have q : ScX S M bv nb := q; have := (HXV.out _ (.inr q)).1; have := HNW.out; omega), hG4.cell HX3.out.2.2 (fun q => by have q : ScX S M bv kb := q; have := (HXV.out _ (.inr q)).1; have := HKW.out; omega)⟩
    clear hS4 hG4 hM4
    refine hK.out _ _ (HQ4.out) (fun hHeld => ?_)
    clear hK K
    try simp only [Act.put, List.getElem_toArray, List.getElem_cons_zero, List.getElem_cons_succ, List.setIfInBounds_toArray, List.set_cons_zero, List.set_cons_succ]
    refine wpAnyH_done (by kernel_rfl) ?_ _
    go_wp2
    go_end0
    rw [HE.out]
    exact ⟨rfl, _, _, HA4.out, by show _ + (y.2.vars ++ [(nm, y.1)]).length ≤ _; rw [HYV.out, List.length_append]; show _ + (_ + 1) ≤ _; omega, ((Gw.of_below (P := CiX C S M bv) HBD.out).trans HG3.out (fun _ _ q => .inl q)).trans HG4.out (fun _ _ q => .inr q), (CkM.refl V bv).trans HM4.out (Nat.le_trans HBD.out.size HG3.out.size)⟩
  have t3 : (d.kind == 3) = false := by rw [beq_eq_false_iff_ne]; exact q3
  by_cases q4 : d.kind = 4
  · rw [q4] at m0
    have hnl := HG.out.name hf (.inr (.inl (by rw [HD.out]; exact q4)))
    have hnz := HG.out.nmle hf ((ndA L i).names.getD 0 .empty) (by rw [List.getD_eq_getElem?_getD, List.getElem?_eq_getElem (by omega)]; exact List.getElem_mem _)
    rw [HD.out] at hnl hnz
    obtain ⟨nb, no, nc, nu, e5, hnu, hbs⟩ := HNV.out.nm0 (by omega)
    injection e5 with e5 _ e6
    subst e5 e6
    have hnur := cell_kept hnu HA2.out.bl
    have hbsr := hbs.below HA2.out.bl
    have HE : Hid (iS L (F + 1) s i = (fitI L (xI L 61) (if macZ L (d.names.getD 0 .empty) = 0 then s.fN i else s) i X).2) := by
      show _ = _
      rw [iS, HD.out, if_neg q3, if_pos q4, HXX.out]
    obtain ⟨nm, hnm⟩ : ∃ y, d.names.getD 0 .empty = y := ⟨_, rfl⟩
    rw [hnm] at hbsr hnz HE hbs
    have hcv1 : ∀ j, (convert 31 9 nu).run Tryd.prog (V2.drewN j) = .ok (.string nm) (V2.drewN j) := fun j => toStr_bs (hbsr.below (below_drewN (Below.refl _ _) j))
    obtain ⟨mn, hmac⟩ := HR.out.mac
    have hub := HA2.out.bl
    have hlk := fun j => ((hmac.gw (P := fun k => w1.heap.size ≤ k) ⟨hub.os, hub.tape, hub.output, hub.size, fun k hk _ => hub.block k hk⟩ (fun q => by have := hmac.lt; omega)).below (below_drewN (Below.refl V2.heap.size V2) j)).look (nm := nm) (by omega)
    obtain ⟨na', nb', no', nc', rfl, _, _⟩ := hbs
    have hnl0 : 0 < d.names.length := by omega
    have HFC := hide (fun s0 W hW => HFT.out X _ s0 W HKI.out (HEX.out (by omega) (by omega)) HKL.out (fun h => by rw [HD.out] at h; omega) (fun h => by rw [HD.out] at h; omega) hW)
    obtain ⟨J, hJ⟩ : ∃ J, macZ L nm = J := ⟨_, rfl⟩
    simp only [hJ] at hlk
    rw [hJ] at HE
    have hvs : ∀ s0 : Ci, s0.vars = s.vars → (fitI L (xI L 61) s0 i X).2.vars = s.vars := fun s0 h => by rw [fitI_vars, h]
    have HVS := hide hvs
    clear hvs hJ hub hmac hbsr hnu hnl hnm q3 q4
    by_cases qj : J = 0
    · subst qj
      have HFN := hide (fun W (hW : Below V2.heap.size V2 W) => fNf_any (HA2.out.below hW) i)
      rw [if_pos rfl] at HE
      obtain ⟨y, hy⟩ : ∃ y, fitI L (xI L 61) (s.fN i) i X = y := ⟨_, rfl⟩
      have HY := hide hy
      rw [hy] at HE
      clear hy
      go_wp2_with fail
      go_quiet (fail)
      go_wp2_with fail
      refine (HFN.out _ (below_drewN (Below.refl _ _) _)).mono ?_
      rintro r V3 ⟨rfl, hA3, hG3⟩
      have HC3 := hide (HFC.out (s.fN i) V3 hA3)
      rw [HY.out] at HC3
      have HG3 : Hid (Gw (CiX C S M bv) V V3) := ((Gw.of_below (P := CiX C S M bv) HBD.out).trans (Gw.of_below (P := CiX C S M bv) (below_drewN (Below.refl _ _) _)) (fun _ _ q => q)).trans hG3 (fun _ _ q => .inl q)
      clear hA3 hG3
      go_wp2_with fail
      refine HC3.out.mono ?_
      rintro r V4 ⟨rfl, hA4, hG4⟩
      have HA4 := hide hA4
      have HG4 : Hid (Gw (CiX C S M bv) V V4) := HG3.out.trans hG4 (fun _ _ q => .inl q)
      clear hA4 hG4
      go_wp2
      go_end0
      rw [HE.out]
      exact ⟨rfl, _, _, HA4.out, by rw [← HY.out, HVS.out (s.fN i) rfl]; omega, HG4.out, CkM.refl _ _⟩
    · have t0 : ((J : Int) == 0) = false := by rw [beq_eq_false_iff_ne]; omega
      rw [if_neg qj] at HE
      obtain ⟨y, hy⟩ : ∃ y, fitI L (xI L 61) s i X = y := ⟨_, rfl⟩
      have HY := hide hy
      rw [hy] at HE
      have HC3 := hide (fun W (hW : Below V2.heap.size V2 W) => HFC.out s W (HA2.out.below hW))
      simp only [hy] at HC3
      clear hy qj
      go_wp2_with fail
      go_quiet (fail)
      go_wp2_with fail
      refine (HC3.out _ (below_drewN (Below.refl _ _) _)).mono ?_
      rintro r V4 ⟨rfl, hA4, hG4⟩
      have HA4 := hide hA4
      have HG4 : Hid (Gw (CiX C S M bv) V V4) := ((Gw.of_below (P := CiX C S M bv) HBD.out).trans (Gw.of_below (P := CiX C S M bv) (below_drewN (Below.refl _ _) _)) (fun _ _ q => q)).trans hG4 (fun _ _ q => .inl q)
      clear hA4 hG4
      go_wp2
      go_end0
      rw [HE.out]
      exact ⟨rfl, _, _, HA4.out, by rw [← HY.out, HVS.out s rfl]; omega, HG4.out, CkM.refl _ _⟩
  have t4 : (d.kind == 4) = false := by rw [beq_eq_false_iff_ne]; exact q4
  by_cases q5 : d.kind = 5
  · rw [q5] at m0
    have hl3 : X.length = 3 := by
      have := HG.out.for3 hf (by rw [HD.out]; exact q5)
      rw [HXX.out] at this
      exact this
    have h2c : (2 : Int) ≤ (kc : Int) := by omega
    obtain ⟨k0, k1, k2, hX3⟩ : ∃ k0 k1 k2, X = [k0, k1, k2] := by
      match X, hl3 with
      | [a, b, c], _ => exact ⟨a, b, c, rfl⟩
    have hm0 := HKN.out 0 k0 (by rw [hX3]; rfl)
    have hm1 := HKN.out 1 k1 (by rw [hX3]; rfl)
    have hm2 := HKN.out 2 k2 (by rw [hX3]; rfl)
    rw [HD.out, q5] at hm0 hm1 hm2
    have x0 := mSt_ex (by omega) (by omega) (by omega) hm0.2
    have x1 := mSt_ex (by omega) (by omega) (by omega) hm1.2
    have x2 : (ndA L k2).kind = 2 := by have := hm2.2; unfold mSt at this; simpa using this
    have hFC := HFT.out (X.take 2) (.slice ka 2 kc) s V2 (is_take HKI.out (by omega)) (fun k hk => by
      rw [hX3] at hk
      rcases List.mem_cons.1 hk with rfl | hk
      · exact ⟨hm0.1, x0⟩
      · rw [List.mem_singleton.1 hk]; exact ⟨hm1.1, x1⟩) (by rw [List.length_take]; omega) (fun h => by rw [HD.out] at h; omega) (fun h => by rw [HD.out] at h; omega) HA2.out
    have HFC := hide hFC
    have hll := HLK.out
    rw [hX3] at hll
    obtain ⟨mm, hla, hlb⟩ := Lk.app (X := [k0, k1]) (Y := [k2]) hll
    obtain ⟨rfl, q, hq, rfl⟩ := hlb
    have hk2i := HG.out.kge hf (j := 2) (k := mm) (by rw [HXX.out, hX3]; rfl)
    have hE := (show iS L (F + 1) s i = iB L (iS L F) (fitI L (xI L 61) s i (X.take 2)).2 mm [(d.names.getD 0 .empty, 0)] by
      rw [iS, HD.out, if_neg q3, if_neg q4, if_pos q5, HXX.out, hX3]; rfl)
    have hVS := fitI_vars L 61 s i (X.take 2)
    obtain ⟨y, hy⟩ : ∃ y, fitI L (xI L 61) s i (X.take 2) = y := ⟨_, rfl⟩
    rw [hy] at HFC hE hVS
    have HE := hide hE
    have HVS := hide hVS
    have HGM := hide hm2.1
    have HQ := hide hq
    have HX2 := hide x2
    obtain ⟨_, kb, ko, kc', e1, hka, hkcc⟩ := HKI.out
    rw [List.length_map] at e1 hka hkcc
    injection e1 with e1 _ e2
    subst e1 e2
    obtain rfl := hka (by omega)
    have z2 := hkcc 2 (by omega)
    have e3 : (X.map fun (k : Nat) => (k : Int)).getD 2 0 = (mm : Int) := by rw [hX3]; rfl
    rw [e3] at z2
    have HKW : Hid (kb < w1.heap.size) := World.block_lt_of_cell? _ _ z2
    have HZ2 := hide z2
    have hnl := HG.out.name hf (.inr (.inr (.inl (by rw [HD.out]; exact q5))))
    have hnz := HG.out.nmle hf
    rw [HD.out] at hnl hnz
    have HNL := hide hnl
    have HNZ := hide hnz
    have HLC : Hid (w1.heap.size ≤ C) := HA2.out.lc
    have hl2i : (2 : Int) < (X.length : Int) := by omega
    clear hm0 hm1 hm2 x0 x1 x2 hFC hll hla hE hVS hy hq hkcc hka e3 hnl hnz q3 q4 q5 hX3 z2
    go_wp2_with fail
    refine HFC.out.mono ?_
    rintro r V3 ⟨rfl, hA3, hG3⟩
    have HA3 := hide hA3
    have HG3 := hide hG3
    have y2 := cell_kept HZ2.out hA3.bl
    have y3 := hG3.cell m3 (fun w => by have w : Vd.heap.size = C := w; have := HVC.out; omega)
    clear hA3 hG3 HFC
    obtain ⟨W4, hW4⟩ : ∃ W, V3.drew.alloc (.cells #[.int .i64 0] 3) = W := ⟨_, rfl⟩
    have hb4 : Below V3.heap.size V3 W4 := by rw [← hW4]; exact ((Below.refl _ _).drew).alloc (Nat.le_refl _) _
    have hB4 : Blk W4 V3.heap.size 3 #[.int .i64 0] := by rw [← hW4]; exact Blk.new _ _ _
    have hb4s : Vd.heap.size ≤ V3.heap.size := Nat.le_trans HBl.out.size HG3.out.size
    have HIS0 : Hid (∀ W', Gw (ScX S M bv) W4 W' → SS W' (.slice a2 d.names.length c2) d.names ∧ IS W' (.slice (some ⟨V3.heap.size, 0, none⟩) 1 1) [0]) := fun W' hg => by
      have hbw := hg.below (HA3.out.bl.trans (hb4.mono HA3.out.bl.size)) (Nat.le_trans HA3.out.bl.size hb4.size) (fun k hk w => by have := (HXV.out k (.inr w)).1; omega)
      have hbk := hg.blk hB4 (fun w => by have := (HXV.out _ (.inr w)).2; omega)
      refine ⟨HNV.out.names.below hbw, ⟨_, V3.heap.size, 0, 1, rfl, fun _ => rfl, fun j hj => ?_⟩⟩
      have hj : j = 0 := by have hj : j < 1 := hj; omega
      subst hj
      exact hbk.cell 0
    have HBC := hide (HIB.out F mm q S M y.2 bv n W4 K _ _ d.names [0] (by omega) HGM.out HQ.out HX2.out (HA3.out.below hb4) HIS0.out (fun p hp => by have := HNZ.out p hp; omega) HNL.out (by rw [HVS.out, HNL.out]; omega) hK)
    have hzip : d.names.zip [(0 : Int)] = [(d.names.getD 0 .empty, 0)] := by
      match hdn : d.names, HNL.out with
      | [p], _ => rfl
    rw [hzip] at HBC
    obtain ⟨y9, hy9⟩ : ∃ z, iB L (iS L F) y.2 mm [(d.names.getD 0 .empty, 0)] = z := ⟨_, rfl⟩
    rw [hy9] at HBC HE
    have HK4 : Hid (W4.cell? ⟨kb, ko + 2, none⟩ = some (.int .i64 (mm : Nat)) ∧ W4.cell? ⟨Vd.heap.size, 3, none⟩ = some (.slice a2 d.names.length c2)) := ⟨cell_kept y2 hb4, cell_kept y3 hb4⟩
    have HB4 := hide hb4
    clear hb4 hB4 hb4s hzip hy9
    go_wp2_with fail
    refine wp_region_held_drew (S := fun X0 => Hid (X0.cell? ⟨kb, ko + 2, none⟩ = some (.int .i64 (mm : Nat)) ∧ X0.cell? ⟨Vd.heap.size, 3, none⟩ = some (.slice a2 d.names.length c2))) (by kernel_rfl) (⟨y2, y3⟩) (fun hHeld => ?_)
    refine wpAnyH_take (i := 0) (v := ?_) rfl (by kernel_rfl) (by kernel_rfl) (by kernel_rfl) (fun _ _ _ h => h) (Or.inl ⟨by rfl, ?_⟩) hHeld ?_
    rotate_left 1
    · intro Wx hSW; simp only [List.getElem_toArray, List.getElem_cons_zero]; go_simp; try with_reducible rfl
    try simp only [Act.put, List.getElem_toArray, List.getElem_cons_zero, List.setIfInBounds_toArray, List.set_cons_zero, List.set_cons_succ]
    refine wpAnyH_take (i := 1) (v := ?_) rfl (by kernel_rfl) (by kernel_rfl) (by kernel_rfl) (fun _ _ _ h => h) (Or.inl ⟨by rfl, ?_⟩) hHeld ?_
    rotate_left 1
    · intro Wx hSW; simp only [List.getElem_toArray, List.getElem_cons_zero, List.getElem_cons_succ]; go_simp; try with_reducible rfl
    try simp only [Act.put, List.getElem_toArray, List.getElem_cons_zero, List.getElem_cons_succ, List.setIfInBounds_toArray, List.set_cons_zero, List.set_cons_succ]
    refine wpAnyH_take (i := 2) (v := ?_) rfl (by kernel_rfl) (by kernel_rfl) (by kernel_rfl) (fun _ _ _ h => h) (Or.inl ⟨by rfl, ?_⟩) hHeld ?_
    rotate_left 1
    · intro Wx hSW; simp only [List.getElem_toArray, List.getElem_cons_zero, List.getElem_cons_succ]; go_simp; try with_reducible rfl
    try simp only [Act.put, List.getElem_toArray, List.getElem_cons_zero, List.getElem_cons_succ, List.setIfInBounds_toArray, List.set_cons_zero, List.set_cons_succ]
    refine wpAnyH_take (i := 3) (v := ?_) rfl (by kernel_rfl) (by kernel_rfl) (by kernel_rfl) (fun _ _ _ h => h) (Or.inl ⟨by rfl, ?_⟩) hHeld ?_
    rotate_left 1
    · intro Wx hSW; simp only [List.getElem_toArray, List.getElem_cons_zero, List.getElem_cons_succ]; obtain ⟨z0, z1⟩ := hSW.out; go_simp; try with_reducible rfl
    try simp only [Act.put, List.getElem_toArray, List.getElem_cons_zero, List.getElem_cons_succ, List.setIfInBounds_toArray, List.set_cons_zero, List.set_cons_succ]
    refine wpAnyH_take (i := 4) (v := ?_) rfl (by kernel_rfl) (by kernel_rfl) (by kernel_rfl) (fun _ _ _ h => h) (Or.inl ⟨by rfl, ?_⟩) hHeld ?_
    rotate_left 1
    · intro Wx hSW; simp only [List.getElem_toArray, List.getElem_cons_zero, List.getElem_cons_succ]; go_simp; try with_reducible rfl
    try simp only [Act.put, List.getElem_toArray, List.getElem_cons_zero, List.getElem_cons_succ, List.setIfInBounds_toArray, List.set_cons_zero, List.set_cons_succ]
    refine wpAnyH_take (i := 5) (v := ?_) rfl (by kernel_rfl) (by kernel_rfl) (by kernel_rfl) (fun _ _ _ h => h) (Or.inl ⟨by rfl, ?_⟩) hHeld ?_
    rotate_left 1
    · intro Wx hSW; simp only [List.getElem_toArray, List.getElem_cons_zero, List.getElem_cons_succ]; obtain ⟨z0, z1⟩ := hSW.out; go_simp; try with_reducible rfl
    try simp only [Act.put, List.getElem_toArray, List.getElem_cons_zero, List.getElem_cons_succ, List.setIfInBounds_toArray, List.set_cons_zero, List.set_cons_succ]
    refine wpAnyH_ready (rs := [6]) (by kernel_rfl) (by simp) ?_
    refine AllReadyH.cons rfl (fun K hK => ?_) AllReadyH.nil
    go_simp
    refine hK.out _ _ (HK4.out) (fun hHeld => ?_)
    clear hK K
    try simp only [Act.put, List.getElem_toArray, List.getElem_cons_zero, List.getElem_cons_succ, List.setIfInBounds_toArray, List.set_cons_zero, List.set_cons_succ]
    refine wpAnyH_ready (rs := [7]) (by kernel_rfl) (by simp) ?_
    refine AllReadyH.cons rfl (fun K hK => ?_) AllReadyH.nil
    go_simp
    refine HBC.out.mono ?_
    rintro r V5 ⟨rfl, bv5, n5, hA5, hb5, hG5, hM5⟩
    have HA5 := hide hA5
    have HB5 := hide hb5
    have HQ5 : Hid (V5.cell? ⟨kb, ko + 2, none⟩ = some (.int .i64 (mm : Nat)) ∧ V5.cell? ⟨Vd.heap.size, 3, none⟩ = some (.slice a2 d.names.length c2)) := ⟨hG5.cell HK4.out.1 (fun w => by have w : CiX C S M bv kb := w; have := (HXV.out _ w).1; have := HKW.out; omega), hG5.cell HK4.out.2 (fun w => by have w : CiX C S M bv Vd.heap.size := w; have := (HXV.out _ w).2; omega)⟩
    have HG5 : Hid (Gw (CiX C S M bv) V V5) := (((Gw.of_below (P := CiX C S M bv) HBD.out).trans HG3.out (fun _ _ q => .inl q)).trans (Gw.of_below (P := CiX C S M bv) HB4.out) (fun _ _ q => q)).trans hG5 (fun _ _ q => q)
    have HM5 : Hid (CkM V bv bv5) := (CkM.refl V bv).trans hM5 (Nat.le_trans (Nat.le_trans HBD.out.size HG3.out.size) HB4.out.size)
    clear hA5 hb5 hG5 hM5
    refine hK.out _ _ (HQ5.out) (fun hHeld => ?_)
    clear hK K
    try simp only [Act.put, List.getElem_toArray, List.getElem_cons_zero, List.getElem_cons_succ, List.setIfInBounds_toArray, List.set_cons_zero, List.set_cons_succ]
    refine wpAnyH_done (by kernel_rfl) ?_ _
    go_wp2
    go_end0
    rw [HE.out]
    exact ⟨rfl, _, _, HA5.out, HB5.out, HG5.out, HM5.out⟩
  have t5 : (d.kind == 5) = false := by rw [beq_eq_false_iff_ne]; exact q5
  by_cases q6 : d.kind = 6
  · rw [q6] at m0
    have hl3 : X.length = 2 ∨ X.length = 3 := by
      have := HG.out.if23 hf (by rw [HD.out]; exact q6)
      rw [HXX.out] at this
      exact this
    have h2c : (1 : Int) ≤ (kc : Int) := by omega
    have hcn : ¬ kc = 1 := by omega
    obtain ⟨k0, Y, hX3⟩ : ∃ k0 Y, X = k0 :: Y := by
      match X, hl3 with
      | a :: Y, _ => exact ⟨a, Y, rfl⟩
    have hm0 := HKN.out 0 k0 (by rw [hX3]; rfl)
    rw [HD.out, q6] at hm0
    have x0 := mSt_ex (by omega) (by omega) (by omega) hm0.2
    have hFC := HFT.out (X.take 1) (.slice ka 1 kc) s V2 (is_take HKI.out (by omega)) (fun k hk => by
      rw [hX3] at hk
      rw [List.mem_singleton.1 hk]; exact ⟨hm0.1, x0⟩) (by rw [List.length_take]; omega) (fun _ => by rw [List.length_take]; omega) (fun h => by rw [HD.out] at h; omega) HA2.out
    have HFC := hide hFC
    have hll := HLK.out
    have hXd : X = X.take 1 ++ X.drop 1 := (List.take_append_drop 1 X).symm
    rw [hXd] at hll
    obtain ⟨mm, hla, hlb⟩ := Lk.app hll
    have hmi : i + 1 ≤ mm := hla.le
    have hYg : ∀ k ∈ X.drop 1, Gd L f k ∧ ((ndA L k).kind = 2 ∨ (ndA L k).kind = 6) := fun k hk => by
      obtain ⟨j, hj, hjk⟩ := List.getElem_of_mem hk
      have hj2 : X[j + 1]? = some k := by
        have h := List.getElem?_eq_getElem hj
        rw [hjk, List.getElem?_drop, Nat.add_comm] at h
        exact h
      obtain ⟨h1, h2⟩ := HKN.out (j + 1) k hj2
      rw [HD.out, q6] at h2
      refine ⟨h1, ?_⟩
      unfold mSt at h2
      simp at h2
      exact h2.imp id (fun h => h.2)
    have hE := (show iS L (F + 1) s i = iAll (iBr L (iS L F)) (X.drop 1) (fitI L (xI L 61) s i (X.take 1)).2 by
      rw [iS, HD.out, if_neg q3, if_neg q4, if_neg q5, if_pos q6, HXX.out])
    have hVS := fitI_vars L 61 s i (X.take 1)
    obtain ⟨y, hy⟩ : ∃ y, fitI L (xI L 61) s i (X.take 1) = y := ⟨_, rfl⟩
    rw [hy] at HFC hE hVS
    have HE := hide hE
    have HVS := hide hVS
    have hIT : ∀ c', ∃ kb ko, ka = some ⟨kb, ko, none⟩ ∧ IS w1 (.slice (some ⟨kb, ko + 1, none⟩) (X.length - 1) c') ((X.drop 1).map fun (k : Nat) => (k : Int)) := fun c' => by
      obtain ⟨_, kb, ko, kc', e1, hka, hkcc⟩ := HKI.out
      have e1' := e1
      rw [List.length_map] at e1 hka hkcc
      injection e1 with e1 _ e2
      subst e1 e2
      obtain rfl := hka (by omega)
      exact ⟨kb, ko, rfl, is_tail HKI.out (by omega)⟩
    obtain ⟨kb, ko, hka, _⟩ := hIT 0
    subst hka
    have HIT : Hid (∀ c', IS w1 (.slice (some ⟨kb, ko + 1, none⟩) (X.length - 1) c') ((X.drop 1).map fun (k : Nat) => (k : Int))) := fun c' => by
      obtain ⟨kb', ko', e1, h⟩ := hIT c'
      injection e1 with e1
      injection e1 with e1 e2
      subst e1 e2
      exact h
    have HBR := hide (fun W hW c' => br_any (V := W) (S := S) (M := M) (n := n) (s := y.2) (bv := bv) (F := F) (K := K) HR.out (by omega) HIS.out HIB.out (by omega) (HIT.out c') hYg (by rw [List.length_drop]; omega) hlb hW (by rw [hVS]; omega) hK)
    have h1i : (1 : Int) ≤ (X.length : Int) := by omega
    clear hm0 x0 hFC hll hla hlb hE hVS hy hYg hIT q3 q4 q5 q6 hX3 hXd
    go_wp2_with fail
    refine HFC.out.mono ?_
    rintro r V3 ⟨rfl, hA3, hG3⟩
    have HBC := hide (HBR.out V3 hA3)
    have HG3 := hide hG3
    clear hA3 hG3 HFC HBR
    go_wp2_with fail
    refine (HBC.out _).mono ?_
    rintro r V4 ⟨rfl, bv4, n4, hA4, hb4, hG4, hM4⟩
    have HA4 := hide hA4
    have HB4 := hide hb4
    have HG4 : Hid (Gw (CiX C S M bv) V V4) := ((Gw.of_below (P := CiX C S M bv) HBD.out).trans HG3.out (fun _ _ q => .inl q)).trans hG4 (fun _ _ q => q)
    have HM4 : Hid (CkM V bv bv4) := (CkM.refl V bv).trans hM4 (Nat.le_trans HBD.out.size HG3.out.size)
    clear hA4 hb4 hG4 hM4
    go_wp2
    go_end0
    rw [HE.out]
    exact ⟨rfl, _, _, HA4.out, HB4.out, HG4.out, HM4.out⟩
  have t6 : (d.kind == 6) = false := by rw [beq_eq_false_iff_ne]; exact q6
  have HFC := hide (HFT.out X _ s V2 HKI.out (HEX.out q5 q6) HKL.out (fun h => by rw [HD.out] at h; omega) (fun h => by
    have hcnt := (HG.out.fld hf).1
    rw [← HXX.out, kids_len]
    unfold vCnt at hcnt
    rcases h with h | h
    all_goals (rw [h] at hcnt; simp at hcnt; omega)) HA2.out)
  have HE : Hid (iS L (F + 1) s i = (fitI L (xI L 61) s i X).2) := by
    show _ = _
    rw [iS, HD.out, if_neg q3, if_neg q4, if_neg q5, if_neg q6, HXX.out]
  have HVS : Hid ((fitI L (xI L 61) s i X).2.vars = s.vars) := fitI_vars _ _ _ _ _
  obtain ⟨y, hy⟩ : ∃ y, fitI L (xI L 61) s i X = y := ⟨_, rfl⟩
  rw [hy] at HFC HVS HE
  obtain ⟨kd, hkd⟩ : ∃ x, d.kind = x := ⟨_, rfl⟩
  rw [hkd] at m0 t3 t4 t5 t6
  clear q3 q4 q5 q6 hy hkd
  go_wp2_with fail
  refine HFC.out.mono ?_
  rintro r V4 ⟨rfl, hA4, hG4⟩
  have HA4 := hide hA4
  have HG4 : Hid (Gw (CiX C S M bv) V V4) := (Gw.of_below (P := CiX C S M bv) HBD.out).trans hG4 (fun _ _ q => .inl q)
  clear hA4 hG4
  go_wp2
  go_end0
  rw [HE.out]
  exact ⟨rfl, _, _, HA4.out, by rw [HVS.out]; omega, HG4.out, CkM.refl _ _⟩
end Go.Proofs.YtdlahabeegmjiaaDoor
