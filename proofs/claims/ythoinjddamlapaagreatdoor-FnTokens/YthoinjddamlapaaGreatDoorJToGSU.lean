/-
  spec.l9stat: targets, names.
-/
import Derived.Test.YthoinjddamlapaaGreatDoorJToGST
namespace Go.Proofs.YthoinjddamlapaaGreatDoor
open Go.RowKit

set_option maxHeartbeats 8000000 in
set_option maxRecDepth 1000000 in
theorem stat_tgt (m : Nat) (c : GnC) (e : GE) (i : Nat) (vi vt : Value) (ints : List ByteArray) (f : Int) (w : World) (h : GnAt w c e i vi vt ints f) (hf : f < ((m + 1 : Nat) : Int)) (hm : m + 1 ≤ 15) (hf2 : -100 ≤ f) (hil : ints.length + 4 * (m + 1) ≤ 9000) (hcase : 8 ≤ e.nx i % 16 ∧ e.nx i % 16 < 11) :
    Calls Tryz.prog 35 #[.pointer (some ⟨c.G, 0, none⟩)] w (StQ c e vt (gS e (m + 1) i ints f) f vi w) := by
  have HN := hide (next_gn h)
  have g0 := (gc0 h).1
  have hk6 := e.nx_lt i
  have hns := h.ns
  have hts := h.ts
  have HIL := hide h.il
  have HHL := hide hil
  have HHF := hide hf2
  have HHM := hide hm
  have HHG := hide hf
  have HGS : Hid (gS e (m + 1) i ints f = ⟨tgW.getD (e.nx i / 16 % 2) ⟨#[]⟩ ++ (gN e ints (i + 1)).1 ++ ({ data := #[32, 97, 116, 32] } : ByteArray) ++ gC e ints (gN e ints (i + 1)).2 ++ ({ data := #[59, 10] } : ByteArray), (gN e ints (i + 1)).2 + 2, ints⟩) := by
    show _ = _
    unfold gS
    simp only
    rw [if_neg (by omega), if_neg (by omega), if_neg (by omega), if_neg (by omega), if_neg (by omega), if_neg (by omega), if_pos (by omega)]
  obtain ⟨k, hk⟩ : ∃ k, e.nx i = k := ⟨_, rfl⟩
  rw [hk] at HN hk6 hcase
  try rw [hk] at HGS
  obtain ⟨j, hj⟩ : ∃ j, k / 16 % 4 = j := ⟨_, rfl⟩
  obtain ⟨kd, hkd⟩ : ∃ d, k / 16 = d := ⟨_, rfl⟩
  have hqw : IntKind.i64.wrap ((k : Int) / 16) = (kd : Int) := by rw [IntKind.wrap_i64]; omega
  have hmj : (kd : Int).tmod 4 = (j : Int) := by rw [← hj, ← hkd]; rfl
  have hj4 : j < 4 := by omega
  have hji : (j : Int) < 4 := by omega
  have hcl : ∀ W : World, (W.alloc (.cells #[.string ({ data := #[110, 111, 114, 116, 104] } : ByteArray), .string ({ data := #[101, 97, 115, 116] } : ByteArray), .string ({ data := #[115, 111, 117, 116, 104] } : ByteArray), .string ({ data := #[119, 101, 115, 116] } : ByteArray)] 9)).cell? ⟨W.heap.size, j, none⟩ = some (.string (wyW.getD j ⟨#[]⟩)) := fun W => by
    rw [cell_fresh]
    have h6 : j = 0 ∨ j = 1 ∨ j = 2 ∨ j = 3 := by omega
    rcases h6 with rfl | rfl | rfl | rfl <;> rfl
  have o2 := getD_le (L := wyW) (n := 5) (by decide) j
  try rw [hj] at HGS
  obtain ⟨O, hO⟩ : ∃ Z, wyW.getD j ⟨#[]⟩ = Z := ⟨_, rfl⟩
  rw [hO] at o2
  try rw [hO] at HGS
  simp only [hO] at hcl
  have a1 : ¬ 9223372036854775807 < 1 + O.size := by omega
  have a2 : ¬ 9223372036854775807 < 1 + O.size + 2 := by omega
  obtain ⟨mm, hmm⟩ : ∃ m, k % 16 = m := ⟨_, rfl⟩
  have hm16 : (k : Int).tmod 16 = (mm : Int) := by rw [← hmm]; rfl
  rw [hmm] at hcase
  have hfw : IntKind.i64.wrap (f - 1) = f - 1 := by rw [IntKind.wrap_i64]; omega
  have HCL := hide hcl
  have HHK := hide hk
  have HKD := hide hkd
  have HMM := hide hmm
  clear h hk hj hO hj4 hcl hkd hmm
  go_enter Tryz.func35, Tryz.ntmps35
  go_wp2_with fail
  refine HN.out.mono ?_
  rintro r w1 ⟨rfl, h1, hg1⟩
  have hc1 := HCL.out w1
  obtain ⟨W2, hW2⟩ : ∃ W, w1.alloc (.cells #[.string ({ data := #[110, 111, 114, 116, 104] } : ByteArray), .string ({ data := #[101, 97, 115, 116] } : ByteArray), .string ({ data := #[115, 111, 117, 116, 104] } : ByteArray), .string ({ data := #[119, 101, 115, 116] } : ByteArray)] 9) = W := ⟨_, rfl⟩
  have hb2 : Below w1.heap.size w1 W2 := by rw [← hW2]; exact (Below.refl _ _).alloc (Nat.le_refl _) _
  have h2 := h1.below hb2
  have g5 := (gc0 h2).2.2.2.2.2
  have g5f := h2.blk.frozen 5
  have HG3 := hide (h2.fuel (f' := f - 1))
  have HW3 : Hid (Gw (GnX c vi) w (W2.setCell ⟨c.G, 5, none⟩ (.int .i64 (f - 1)))) := (gwB (hg1.mono (fun _ _ g => .inl g)) hb2).trans (Gw.set W2 c.G 5 _) (fun _ _ g => .inr (.inl g))
  rw [hW2] at hc1
  have hW := hW2
  clear h1 hg1 h2 hb2 HN g0 hW2
  have tlt3 : decide ((mm : Int) < 3) = false := decide_eq_false (by omega)
  have teq3 : ((mm : Int) == 3) = false := by rw [beq_eq_false_iff_ne]; omega
  have teq4 : ((mm : Int) == 4) = false := by rw [beq_eq_false_iff_ne]; omega
  have teq5 : ((mm : Int) == 5) = false := by rw [beq_eq_false_iff_ne]; omega
  have teq6 : ((mm : Int) == 6) = false := by rw [beq_eq_false_iff_ne]; omega
  have teq7 : ((mm : Int) == 7) = false := by rw [beq_eq_false_iff_ne]; omega
  have tlt11 : decide ((mm : Int) < 11) = true := decide_eq_true (by omega)
  obtain ⟨jj, hjj⟩ : ∃ d, kd % 2 = d := ⟨_, rfl⟩
  have hjm : (kd : Int).tmod 2 = (jj : Int) := by rw [← hjj]; rfl
  have hjl : jj < 2 := by omega
  have hjli : (jj : Int) < 2 := by omega
  rw [HKD.out, hjj] at HGS
  have hct0 : ∀ W : World, (W.alloc (.cells #[.string ({ data := #[115, 116, 97, 116, 105, 111, 110, 32] } : ByteArray), .string ({ data := #[99, 104, 97, 114, 103, 101, 114, 32] } : ByteArray)] 9)).cell? ⟨W.heap.size, jj, none⟩ = some (.string (tgW.getD jj ⟨#[]⟩)) := fun W => by
    rw [cell_fresh]
    have h6 : jj = 0 ∨ jj = 1 := by omega
    rcases h6 with rfl | rfl <;> rfl
  have tl := getD_le (L := tgW) (n := 8) (by decide) jj
  obtain ⟨TW, hTW⟩ : ∃ Z, tgW.getD jj ⟨#[]⟩ = Z := ⟨_, rfl⟩
  rw [hTW] at HGS tl
  simp only [hTW] at hct0
  clear hjj hTW hjl
  have HRZ0 : Hid (c.R < (W2.setCell ⟨c.G, 5, none⟩ (.int .i64 (f - 1))).heap.size) := HG3.out.rd.lt
  obtain ⟨Z3, hZ3⟩ : ∃ W, W2.setCell ⟨c.G, 5, none⟩ (.int .i64 (f - 1)) = W := ⟨_, rfl⟩
  rw [hZ3] at HG3 HW3 HRZ0
  try rw [hZ3] at g5a
  have HRZ := hide HRZ0.out
  obtain ⟨Z4, hZ4⟩ : ∃ W, Z3.alloc (.cells #[.string ({ data := #[115, 116, 97, 116, 105, 111, 110, 32] } : ByteArray), .string ({ data := #[99, 104, 97, 114, 103, 101, 114, 32] } : ByteArray)] 9) = W := ⟨_, rfl⟩
  have hbz : Below Z3.heap.size Z3 Z4 := by rw [← hZ4]; exact (Below.refl _ _).alloc (Nat.le_refl _) _
  have hct := hct0 Z3
  rw [hZ4] at hct
  have HG4 := hide (HG3.out.below hbz)
  have HW4 := hide (gwB HW3.out hbz)
  have HNM := hide (name_gn c e (i + 1) vi vt ints (f - 1) Z4.drew (HG4.out.below (Below.refl _ _).drew))
  have nl := gN_le (e := e) hns hts (i + 1)
  have cl := gC_le (e := e) hns (gN e ints (i + 1)).2
  obtain ⟨X, hX⟩ : ∃ Z, (gN e ints (i + 1)).1 = Z := ⟨_, rfl⟩
  rw [hX] at HNM nl HGS
  obtain ⟨Y, hY⟩ : ∃ Z, gC e ints (gN e ints (i + 1)).2 = Z := ⟨_, rfl⟩
  have HYY := hide hY
  rw [hY] at cl HGS
  have s0 : ¬ 9223372036854775807 < TW.size + X.size := by omega
  have s1 : ¬ 9223372036854775807 < TW.size + X.size + 4 := by omega
  have s2 : ¬ 9223372036854775807 < TW.size + X.size + 4 + Y.size := by omega
  have s3 : ¬ 9223372036854775807 < TW.size + X.size + 4 + Y.size + 2 := by omega
  have hZ := hZ3
  have hZ' := hZ4
  clear hX hY hbz hct0 hZ3 hZ4 HRZ0
  go_wp2_with fail
  refine wp_region_held_drew (S := fun w' => Hid (w'.cell? ⟨Z3.heap.size, jj, none⟩ = some (.string TW))) (by kernel_rfl) (hct) (fun hHeld => ?_)
  refine wpAnyH_take (i := 0) (v := ?_) rfl (by kernel_rfl) (by kernel_rfl) (by kernel_rfl) (fun _ _ _ h => h) (Or.inl ⟨by rfl, ?_⟩) hHeld ?_
  rotate_left 1
  · intro Wx hSW; simp only [List.getElem_toArray, List.getElem_cons_zero]; have z3 := hSW.out; go_simp; try with_reducible rfl
  simp only [Act.put, List.getElem_toArray, List.getElem_cons_zero, List.setIfInBounds_toArray, List.set_cons_zero, List.set_cons_succ]
  refine wpAnyH_take (i := 1) (v := ?_) rfl (by kernel_rfl) (by kernel_rfl) (by kernel_rfl) (fun _ _ _ h => h) (Or.inl ⟨by rfl, ?_⟩) hHeld ?_
  rotate_left 1
  · intro Wx hSW; simp only [List.getElem_toArray, List.getElem_cons_zero, List.getElem_cons_succ]; have z3 := hSW.out; go_simp; try with_reducible rfl
  simp only [Act.put, List.getElem_toArray, List.getElem_cons_zero, List.getElem_cons_succ, List.setIfInBounds_toArray, List.set_cons_zero, List.set_cons_succ]
  refine wpAnyH_take (i := 2) (v := ?_) rfl (by kernel_rfl) (by kernel_rfl) (by kernel_rfl) (fun _ _ _ h => h) (Or.inl ⟨by rfl, ?_⟩) hHeld ?_
  rotate_left 1
  · intro Wx hSW; simp only [List.getElem_toArray, List.getElem_cons_zero, List.getElem_cons_succ]; have z3 := hSW.out; go_simp; try with_reducible rfl
  simp only [Act.put, List.getElem_toArray, List.getElem_cons_zero, List.getElem_cons_succ, List.setIfInBounds_toArray, List.set_cons_zero, List.set_cons_succ]
  refine wpAnyH_take (i := 3) (v := ?_) rfl (by kernel_rfl) (by kernel_rfl) (by kernel_rfl) (fun _ _ _ h => h) (Or.inl ⟨by rfl, ?_⟩) hHeld ?_
  rotate_left 1
  · intro Wx hSW; simp only [List.getElem_toArray, List.getElem_cons_zero, List.getElem_cons_succ]; have z3 := hSW.out; go_simp; try with_reducible rfl
  simp only [Act.put, List.getElem_toArray, List.getElem_cons_zero, List.getElem_cons_succ, List.setIfInBounds_toArray, List.set_cons_zero, List.set_cons_succ]
  refine wpAnyH_take (i := 4) (v := ?_) rfl (by kernel_rfl) (by kernel_rfl) (by kernel_rfl) (fun _ _ _ h => h) (Or.inl ⟨by rfl, ?_⟩) hHeld ?_
  rotate_left 1
  · intro Wx hSW; simp only [List.getElem_toArray, List.getElem_cons_zero, List.getElem_cons_succ]; have z3 := hSW.out; go_simp; try with_reducible rfl
  simp only [Act.put, List.getElem_toArray, List.getElem_cons_zero, List.getElem_cons_succ, List.setIfInBounds_toArray, List.set_cons_zero, List.set_cons_succ]
  refine wpAnyH_take (i := 5) (v := ?_) rfl (by kernel_rfl) (by kernel_rfl) (by kernel_rfl) (fun _ _ _ h => h) (Or.inl ⟨by rfl, ?_⟩) hHeld ?_
  rotate_left 1
  · intro Wx hSW; simp only [List.getElem_toArray, List.getElem_cons_zero, List.getElem_cons_succ]; have z3 := hSW.out; go_simp; try with_reducible rfl
  simp only [Act.put, List.getElem_toArray, List.getElem_cons_zero, List.getElem_cons_succ, List.setIfInBounds_toArray, List.set_cons_zero, List.set_cons_succ]
  refine wpAnyH_take (i := 6) (v := ?_) rfl (by kernel_rfl) (by kernel_rfl) (by kernel_rfl) (fun _ _ _ h => h) (Or.inl ⟨by rfl, ?_⟩) hHeld ?_
  rotate_left 1
  · intro Wx hSW; simp only [List.getElem_toArray, List.getElem_cons_zero, List.getElem_cons_succ]; have z3 := hSW.out; go_simp; try with_reducible rfl
  simp only [Act.put, List.getElem_toArray, List.getElem_cons_zero, List.getElem_cons_succ, List.setIfInBounds_toArray, List.set_cons_zero, List.set_cons_succ]
  refine wpAnyH_take (i := 10) (v := ?_) rfl (by kernel_rfl) (by kernel_rfl) (by kernel_rfl) (fun _ _ _ h => h) (Or.inl ⟨by rfl, ?_⟩) hHeld ?_
  rotate_left 1
  · intro Wx hSW; simp only [List.getElem_toArray, List.getElem_cons_zero, List.getElem_cons_succ]; have z3 := hSW.out; go_simp; try with_reducible rfl
  simp only [Act.put, List.getElem_toArray, List.getElem_cons_zero, List.getElem_cons_succ, List.setIfInBounds_toArray, List.set_cons_zero, List.set_cons_succ]
  refine wpAnyH_ready (rs := [7]) (by kernel_rfl) (by simp) ?_
  refine AllReadyH.cons rfl (fun K hK => ?_) AllReadyH.nil
  go_simp
  go_at_call 54
  refine HNM.out.mono ?_
  rintro r w5 ⟨rfl, h5, hg5⟩
  have hct5 := hide (hg5.cell (show Z4.drew.cell? ⟨Z3.heap.size, jj, none⟩ = some (.string TW) from hct) (by have := HRZ.out; show ¬ Z3.heap.size = c.R; omega))
  have HCE := hide (cell_gn c e _ vi vt ints (f - 1) w5 h5)
  have HW5 := hide (gwX (gwB HW4.out (Below.refl _ _).drew) hg5)
  rw [HYY.out] at HCE
  clear h5 hg5 HNM hct
  go_wp2_with fail
  refine hK.out _ _ hct5.out (fun hHeld => ?_)
  clear hK K
  try simp only [Act.put, List.getElem_toArray, List.getElem_cons_zero, List.getElem_cons_succ, List.setIfInBounds_toArray, List.set_cons_zero, List.set_cons_succ]
  refine wpAnyH_take (i := 8) (v := ?_) rfl (by kernel_rfl) (by kernel_rfl) (by kernel_rfl) (fun _ _ _ h => h) (Or.inl ⟨by rfl, ?_⟩) hHeld ?_
  rotate_left 1
  · intro Wx hSW; simp only [List.getElem_toArray, List.getElem_cons_zero, List.getElem_cons_succ]; go_simp; try with_reducible rfl
  simp only [Act.put, List.getElem_toArray, List.getElem_cons_zero, List.getElem_cons_succ, List.setIfInBounds_toArray, List.set_cons_zero, List.set_cons_succ]
  refine wpAnyH_take (i := 9) (v := ?_) rfl (by kernel_rfl) (by kernel_rfl) (by kernel_rfl) (fun _ _ _ h => h) (Or.inl ⟨by rfl, ?_⟩) hHeld ?_
  rotate_left 1
  · intro Wx hSW; simp only [List.getElem_toArray, List.getElem_cons_zero, List.getElem_cons_succ]; go_simp; try with_reducible rfl
  simp only [Act.put, List.getElem_toArray, List.getElem_cons_zero, List.getElem_cons_succ, List.setIfInBounds_toArray, List.set_cons_zero, List.set_cons_succ]
  refine wpAnyH_ready (rs := [11]) (by kernel_rfl) (by simp) ?_
  refine AllReadyH.cons rfl (fun K hK => ?_) AllReadyH.nil
  go_simp
  go_at_call 53
  refine HCE.out.mono ?_
  rintro r w6 ⟨rfl, h6, hg6⟩
  have hct6 := hide (hg6.cell hct5.out (by have := HRZ.out; show ¬ Z3.heap.size = c.R; omega))
  have HGF := hide h6
  have HWF := hide (gwX HW5.out hg6)
  clear h6 hg6 HCE HW5
  go_wp2_with fail
  refine hK.out _ _ hct6.out (fun hHeld => ?_)
  clear hK K
  try simp only [Act.put, List.getElem_toArray, List.getElem_cons_zero, List.getElem_cons_succ, List.setIfInBounds_toArray, List.set_cons_zero, List.set_cons_succ]
  refine wpAnyH_take (i := 12) (v := ?_) rfl (by kernel_rfl) (by kernel_rfl) (by kernel_rfl) (fun _ _ _ h => h) (Or.inl ⟨by rfl, ?_⟩) hHeld ?_
  rotate_left 1
  · intro Wx hSW; simp only [List.getElem_toArray, List.getElem_cons_zero, List.getElem_cons_succ]; go_simp; try with_reducible rfl
  simp only [Act.put, List.getElem_toArray, List.getElem_cons_zero, List.getElem_cons_succ, List.setIfInBounds_toArray, List.set_cons_zero, List.set_cons_succ]
  refine wpAnyH_take (i := 13) (v := ?_) rfl (by kernel_rfl) (by kernel_rfl) (by kernel_rfl) (fun _ _ _ h => h) (Or.inl ⟨by rfl, ?_⟩) hHeld ?_
  rotate_left 1
  · intro Wx hSW; simp only [List.getElem_toArray, List.getElem_cons_zero, List.getElem_cons_succ]; go_simp; try with_reducible rfl
  simp only [Act.put, List.getElem_toArray, List.getElem_cons_zero, List.getElem_cons_succ, List.setIfInBounds_toArray, List.set_cons_zero, List.set_cons_succ]
  refine wpAnyH_take (i := 14) (v := ?_) rfl (by kernel_rfl) (by kernel_rfl) (by kernel_rfl) (fun _ _ _ h => h) (Or.inl ⟨by rfl, ?_⟩) hHeld ?_
  rotate_left 1
  · intro Wx hSW; simp only [List.getElem_toArray, List.getElem_cons_zero, List.getElem_cons_succ]; go_simp; try with_reducible rfl
  simp only [Act.put, List.getElem_toArray, List.getElem_cons_zero, List.getElem_cons_succ, List.setIfInBounds_toArray, List.set_cons_zero, List.set_cons_succ]
  refine wpAnyH_done (by kernel_rfl) ?_ _
  go_wp2
  go_ret
  rw [HGS.out]
  exact ⟨vi, rfl, HGF.out, HWF.out, .inl rfl⟩
set_option maxHeartbeats 8000000 in
set_option maxRecDepth 1000000 in
theorem stat_tgf (m : Nat) (c : GnC) (e : GE) (i : Nat) (vi vt : Value) (ints : List ByteArray) (f : Int) (w : World) (h : GnAt w c e i vi vt ints f) (hf : f < ((m + 1 : Nat) : Int)) (hm : m + 1 ≤ 15) (hf2 : -100 ≤ f) (hil : ints.length + 4 * (m + 1) ≤ 9000) (hcase : 11 ≤ e.nx i % 16 ∧ f - 1 < 0) :
    Calls Tryz.prog 35 #[.pointer (some ⟨c.G, 0, none⟩)] w (StQ c e vt (gS e (m + 1) i ints f) f vi w) := by
  have HN := hide (next_gn h)
  have g0 := (gc0 h).1
  have hk6 := e.nx_lt i
  have hns := h.ns
  have hts := h.ts
  have HIL := hide h.il
  have HHL := hide hil
  have HHF := hide hf2
  have HHM := hide hm
  have HHG := hide hf
  have HGS : Hid (gS e (m + 1) i ints f = ⟨tgW.getD (e.nx i / 16 % 2) ⟨#[]⟩ ++ (gN e ints (i + 1)).1 ++ ({ data := #[32, 97, 116, 32] } : ByteArray) ++ gC e ints (gN e ints (i + 1)).2 ++ ({ data := #[59, 10] } : ByteArray), (gN e ints (i + 1)).2 + 2, ints⟩) := by
    show _ = _
    unfold gS
    simp only
    rw [if_neg (by omega), if_neg (by omega), if_neg (by omega), if_neg (by omega), if_neg (by omega), if_neg (by omega), if_pos (by omega)]
  obtain ⟨k, hk⟩ : ∃ k, e.nx i = k := ⟨_, rfl⟩
  rw [hk] at HN hk6 hcase
  try rw [hk] at HGS
  obtain ⟨j, hj⟩ : ∃ j, k / 16 % 4 = j := ⟨_, rfl⟩
  obtain ⟨kd, hkd⟩ : ∃ d, k / 16 = d := ⟨_, rfl⟩
  have hqw : IntKind.i64.wrap ((k : Int) / 16) = (kd : Int) := by rw [IntKind.wrap_i64]; omega
  have hmj : (kd : Int).tmod 4 = (j : Int) := by rw [← hj, ← hkd]; rfl
  have hj4 : j < 4 := by omega
  have hji : (j : Int) < 4 := by omega
  have hcl : ∀ W : World, (W.alloc (.cells #[.string ({ data := #[110, 111, 114, 116, 104] } : ByteArray), .string ({ data := #[101, 97, 115, 116] } : ByteArray), .string ({ data := #[115, 111, 117, 116, 104] } : ByteArray), .string ({ data := #[119, 101, 115, 116] } : ByteArray)] 9)).cell? ⟨W.heap.size, j, none⟩ = some (.string (wyW.getD j ⟨#[]⟩)) := fun W => by
    rw [cell_fresh]
    have h6 : j = 0 ∨ j = 1 ∨ j = 2 ∨ j = 3 := by omega
    rcases h6 with rfl | rfl | rfl | rfl <;> rfl
  have o2 := getD_le (L := wyW) (n := 5) (by decide) j
  try rw [hj] at HGS
  obtain ⟨O, hO⟩ : ∃ Z, wyW.getD j ⟨#[]⟩ = Z := ⟨_, rfl⟩
  rw [hO] at o2
  try rw [hO] at HGS
  simp only [hO] at hcl
  have a1 : ¬ 9223372036854775807 < 1 + O.size := by omega
  have a2 : ¬ 9223372036854775807 < 1 + O.size + 2 := by omega
  obtain ⟨mm, hmm⟩ : ∃ m, k % 16 = m := ⟨_, rfl⟩
  have hm16 : (k : Int).tmod 16 = (mm : Int) := by rw [← hmm]; rfl
  rw [hmm] at hcase
  have hfw : IntKind.i64.wrap (f - 1) = f - 1 := by rw [IntKind.wrap_i64]; omega
  have HCL := hide hcl
  have HHK := hide hk
  have HKD := hide hkd
  have HMM := hide hmm
  clear h hk hj hO hj4 hcl hkd hmm
  go_enter Tryz.func35, Tryz.ntmps35
  go_wp2_with fail
  refine HN.out.mono ?_
  rintro r w1 ⟨rfl, h1, hg1⟩
  have hc1 := HCL.out w1
  obtain ⟨W2, hW2⟩ : ∃ W, w1.alloc (.cells #[.string ({ data := #[110, 111, 114, 116, 104] } : ByteArray), .string ({ data := #[101, 97, 115, 116] } : ByteArray), .string ({ data := #[115, 111, 117, 116, 104] } : ByteArray), .string ({ data := #[119, 101, 115, 116] } : ByteArray)] 9) = W := ⟨_, rfl⟩
  have hb2 : Below w1.heap.size w1 W2 := by rw [← hW2]; exact (Below.refl _ _).alloc (Nat.le_refl _) _
  have h2 := h1.below hb2
  have g5 := (gc0 h2).2.2.2.2.2
  have g5f := h2.blk.frozen 5
  have HG3 := hide (h2.fuel (f' := f - 1))
  have HW3 : Hid (Gw (GnX c vi) w (W2.setCell ⟨c.G, 5, none⟩ (.int .i64 (f - 1)))) := (gwB (hg1.mono (fun _ _ g => .inl g)) hb2).trans (Gw.set W2 c.G 5 _) (fun _ _ g => .inr (.inl g))
  rw [hW2] at hc1
  have hW := hW2
  clear h1 hg1 h2 hb2 HN g0 hW2
  have tlt3 : decide ((mm : Int) < 3) = false := decide_eq_false (by omega)
  have teq3 : ((mm : Int) == 3) = false := by rw [beq_eq_false_iff_ne]; omega
  have teq4 : ((mm : Int) == 4) = false := by rw [beq_eq_false_iff_ne]; omega
  have teq5 : ((mm : Int) == 5) = false := by rw [beq_eq_false_iff_ne]; omega
  have teq6 : ((mm : Int) == 6) = false := by rw [beq_eq_false_iff_ne]; omega
  have teq7 : ((mm : Int) == 7) = false := by rw [beq_eq_false_iff_ne]; omega
  have tlt11 : decide ((mm : Int) < 11) = false := decide_eq_false (by omega)
  have tf : decide (f - 1 < 0) = true := decide_eq_true hcase.2
  have g5a := (gc0 HG3.out).2.2.2.2.2
  obtain ⟨jj, hjj⟩ : ∃ d, kd % 2 = d := ⟨_, rfl⟩
  have hjm : (kd : Int).tmod 2 = (jj : Int) := by rw [← hjj]; rfl
  have hjl : jj < 2 := by omega
  have hjli : (jj : Int) < 2 := by omega
  rw [HKD.out, hjj] at HGS
  have hct0 : ∀ W : World, (W.alloc (.cells #[.string ({ data := #[115, 116, 97, 116, 105, 111, 110, 32] } : ByteArray), .string ({ data := #[99, 104, 97, 114, 103, 101, 114, 32] } : ByteArray)] 9)).cell? ⟨W.heap.size, jj, none⟩ = some (.string (tgW.getD jj ⟨#[]⟩)) := fun W => by
    rw [cell_fresh]
    have h6 : jj = 0 ∨ jj = 1 := by omega
    rcases h6 with rfl | rfl <;> rfl
  have tl := getD_le (L := tgW) (n := 8) (by decide) jj
  obtain ⟨TW, hTW⟩ : ∃ Z, tgW.getD jj ⟨#[]⟩ = Z := ⟨_, rfl⟩
  rw [hTW] at HGS tl
  simp only [hTW] at hct0
  clear hjj hTW hjl
  have HRZ0 : Hid (c.R < (W2.setCell ⟨c.G, 5, none⟩ (.int .i64 (f - 1))).heap.size) := HG3.out.rd.lt
  obtain ⟨Z3, hZ3⟩ : ∃ W, W2.setCell ⟨c.G, 5, none⟩ (.int .i64 (f - 1)) = W := ⟨_, rfl⟩
  rw [hZ3] at HG3 HW3 HRZ0
  try rw [hZ3] at g5a
  have HRZ := hide HRZ0.out
  obtain ⟨Z4, hZ4⟩ : ∃ W, Z3.alloc (.cells #[.string ({ data := #[115, 116, 97, 116, 105, 111, 110, 32] } : ByteArray), .string ({ data := #[99, 104, 97, 114, 103, 101, 114, 32] } : ByteArray)] 9) = W := ⟨_, rfl⟩
  have hbz : Below Z3.heap.size Z3 Z4 := by rw [← hZ4]; exact (Below.refl _ _).alloc (Nat.le_refl _) _
  have hct := hct0 Z3
  rw [hZ4] at hct
  have HG4 := hide (HG3.out.below hbz)
  have HW4 := hide (gwB HW3.out hbz)
  have HNM := hide (name_gn c e (i + 1) vi vt ints (f - 1) Z4.drew (HG4.out.below (Below.refl _ _).drew))
  have nl := gN_le (e := e) hns hts (i + 1)
  have cl := gC_le (e := e) hns (gN e ints (i + 1)).2
  obtain ⟨X, hX⟩ : ∃ Z, (gN e ints (i + 1)).1 = Z := ⟨_, rfl⟩
  rw [hX] at HNM nl HGS
  obtain ⟨Y, hY⟩ : ∃ Z, gC e ints (gN e ints (i + 1)).2 = Z := ⟨_, rfl⟩
  have HYY := hide hY
  rw [hY] at cl HGS
  have s0 : ¬ 9223372036854775807 < TW.size + X.size := by omega
  have s1 : ¬ 9223372036854775807 < TW.size + X.size + 4 := by omega
  have s2 : ¬ 9223372036854775807 < TW.size + X.size + 4 + Y.size := by omega
  have s3 : ¬ 9223372036854775807 < TW.size + X.size + 4 + Y.size + 2 := by omega
  have hZ := hZ3
  have hZ' := hZ4
  clear hX hY hbz hct0 hZ3 hZ4 HRZ0
  go_wp2_with fail
  refine wp_region_held_drew (S := fun w' => Hid (w'.cell? ⟨Z3.heap.size, jj, none⟩ = some (.string TW))) (by kernel_rfl) (hct) (fun hHeld => ?_)
  refine wpAnyH_take (i := 0) (v := ?_) rfl (by kernel_rfl) (by kernel_rfl) (by kernel_rfl) (fun _ _ _ h => h) (Or.inl ⟨by rfl, ?_⟩) hHeld ?_
  rotate_left 1
  · intro Wx hSW; simp only [List.getElem_toArray, List.getElem_cons_zero]; have z3 := hSW.out; go_simp; try with_reducible rfl
  simp only [Act.put, List.getElem_toArray, List.getElem_cons_zero, List.setIfInBounds_toArray, List.set_cons_zero, List.set_cons_succ]
  refine wpAnyH_take (i := 1) (v := ?_) rfl (by kernel_rfl) (by kernel_rfl) (by kernel_rfl) (fun _ _ _ h => h) (Or.inl ⟨by rfl, ?_⟩) hHeld ?_
  rotate_left 1
  · intro Wx hSW; simp only [List.getElem_toArray, List.getElem_cons_zero, List.getElem_cons_succ]; have z3 := hSW.out; go_simp; try with_reducible rfl
  simp only [Act.put, List.getElem_toArray, List.getElem_cons_zero, List.getElem_cons_succ, List.setIfInBounds_toArray, List.set_cons_zero, List.set_cons_succ]
  refine wpAnyH_take (i := 2) (v := ?_) rfl (by kernel_rfl) (by kernel_rfl) (by kernel_rfl) (fun _ _ _ h => h) (Or.inl ⟨by rfl, ?_⟩) hHeld ?_
  rotate_left 1
  · intro Wx hSW; simp only [List.getElem_toArray, List.getElem_cons_zero, List.getElem_cons_succ]; have z3 := hSW.out; go_simp; try with_reducible rfl
  simp only [Act.put, List.getElem_toArray, List.getElem_cons_zero, List.getElem_cons_succ, List.setIfInBounds_toArray, List.set_cons_zero, List.set_cons_succ]
  refine wpAnyH_take (i := 3) (v := ?_) rfl (by kernel_rfl) (by kernel_rfl) (by kernel_rfl) (fun _ _ _ h => h) (Or.inl ⟨by rfl, ?_⟩) hHeld ?_
  rotate_left 1
  · intro Wx hSW; simp only [List.getElem_toArray, List.getElem_cons_zero, List.getElem_cons_succ]; have z3 := hSW.out; go_simp; try with_reducible rfl
  simp only [Act.put, List.getElem_toArray, List.getElem_cons_zero, List.getElem_cons_succ, List.setIfInBounds_toArray, List.set_cons_zero, List.set_cons_succ]
  refine wpAnyH_take (i := 4) (v := ?_) rfl (by kernel_rfl) (by kernel_rfl) (by kernel_rfl) (fun _ _ _ h => h) (Or.inl ⟨by rfl, ?_⟩) hHeld ?_
  rotate_left 1
  · intro Wx hSW; simp only [List.getElem_toArray, List.getElem_cons_zero, List.getElem_cons_succ]; have z3 := hSW.out; go_simp; try with_reducible rfl
  simp only [Act.put, List.getElem_toArray, List.getElem_cons_zero, List.getElem_cons_succ, List.setIfInBounds_toArray, List.set_cons_zero, List.set_cons_succ]
  refine wpAnyH_take (i := 5) (v := ?_) rfl (by kernel_rfl) (by kernel_rfl) (by kernel_rfl) (fun _ _ _ h => h) (Or.inl ⟨by rfl, ?_⟩) hHeld ?_
  rotate_left 1
  · intro Wx hSW; simp only [List.getElem_toArray, List.getElem_cons_zero, List.getElem_cons_succ]; have z3 := hSW.out; go_simp; try with_reducible rfl
  simp only [Act.put, List.getElem_toArray, List.getElem_cons_zero, List.getElem_cons_succ, List.setIfInBounds_toArray, List.set_cons_zero, List.set_cons_succ]
  refine wpAnyH_take (i := 6) (v := ?_) rfl (by kernel_rfl) (by kernel_rfl) (by kernel_rfl) (fun _ _ _ h => h) (Or.inl ⟨by rfl, ?_⟩) hHeld ?_
  rotate_left 1
  · intro Wx hSW; simp only [List.getElem_toArray, List.getElem_cons_zero, List.getElem_cons_succ]; have z3 := hSW.out; go_simp; try with_reducible rfl
  simp only [Act.put, List.getElem_toArray, List.getElem_cons_zero, List.getElem_cons_succ, List.setIfInBounds_toArray, List.set_cons_zero, List.set_cons_succ]
  refine wpAnyH_take (i := 10) (v := ?_) rfl (by kernel_rfl) (by kernel_rfl) (by kernel_rfl) (fun _ _ _ h => h) (Or.inl ⟨by rfl, ?_⟩) hHeld ?_
  rotate_left 1
  · intro Wx hSW; simp only [List.getElem_toArray, List.getElem_cons_zero, List.getElem_cons_succ]; have z3 := hSW.out; go_simp; try with_reducible rfl
  simp only [Act.put, List.getElem_toArray, List.getElem_cons_zero, List.getElem_cons_succ, List.setIfInBounds_toArray, List.set_cons_zero, List.set_cons_succ]
  refine wpAnyH_ready (rs := [7]) (by kernel_rfl) (by simp) ?_
  refine AllReadyH.cons rfl (fun K hK => ?_) AllReadyH.nil
  go_simp
  go_at_call 54
  refine HNM.out.mono ?_
  rintro r w5 ⟨rfl, h5, hg5⟩
  have hct5 := hide (hg5.cell (show Z4.drew.cell? ⟨Z3.heap.size, jj, none⟩ = some (.string TW) from hct) (by have := HRZ.out; show ¬ Z3.heap.size = c.R; omega))
  have HCE := hide (cell_gn c e _ vi vt ints (f - 1) w5 h5)
  have HW5 := hide (gwX (gwB HW4.out (Below.refl _ _).drew) hg5)
  rw [HYY.out] at HCE
  clear h5 hg5 HNM hct
  go_wp2_with fail
  refine hK.out _ _ hct5.out (fun hHeld => ?_)
  clear hK K
  try simp only [Act.put, List.getElem_toArray, List.getElem_cons_zero, List.getElem_cons_succ, List.setIfInBounds_toArray, List.set_cons_zero, List.set_cons_succ]
  refine wpAnyH_take (i := 8) (v := ?_) rfl (by kernel_rfl) (by kernel_rfl) (by kernel_rfl) (fun _ _ _ h => h) (Or.inl ⟨by rfl, ?_⟩) hHeld ?_
  rotate_left 1
  · intro Wx hSW; simp only [List.getElem_toArray, List.getElem_cons_zero, List.getElem_cons_succ]; go_simp; try with_reducible rfl
  simp only [Act.put, List.getElem_toArray, List.getElem_cons_zero, List.getElem_cons_succ, List.setIfInBounds_toArray, List.set_cons_zero, List.set_cons_succ]
  refine wpAnyH_take (i := 9) (v := ?_) rfl (by kernel_rfl) (by kernel_rfl) (by kernel_rfl) (fun _ _ _ h => h) (Or.inl ⟨by rfl, ?_⟩) hHeld ?_
  rotate_left 1
  · intro Wx hSW; simp only [List.getElem_toArray, List.getElem_cons_zero, List.getElem_cons_succ]; go_simp; try with_reducible rfl
  simp only [Act.put, List.getElem_toArray, List.getElem_cons_zero, List.getElem_cons_succ, List.setIfInBounds_toArray, List.set_cons_zero, List.set_cons_succ]
  refine wpAnyH_ready (rs := [11]) (by kernel_rfl) (by simp) ?_
  refine AllReadyH.cons rfl (fun K hK => ?_) AllReadyH.nil
  go_simp
  go_at_call 53
  refine HCE.out.mono ?_
  rintro r w6 ⟨rfl, h6, hg6⟩
  have hct6 := hide (hg6.cell hct5.out (by have := HRZ.out; show ¬ Z3.heap.size = c.R; omega))
  have HGF := hide h6
  have HWF := hide (gwX HW5.out hg6)
  clear h6 hg6 HCE HW5
  go_wp2_with fail
  refine hK.out _ _ hct6.out (fun hHeld => ?_)
  clear hK K
  try simp only [Act.put, List.getElem_toArray, List.getElem_cons_zero, List.getElem_cons_succ, List.setIfInBounds_toArray, List.set_cons_zero, List.set_cons_succ]
  refine wpAnyH_take (i := 12) (v := ?_) rfl (by kernel_rfl) (by kernel_rfl) (by kernel_rfl) (fun _ _ _ h => h) (Or.inl ⟨by rfl, ?_⟩) hHeld ?_
  rotate_left 1
  · intro Wx hSW; simp only [List.getElem_toArray, List.getElem_cons_zero, List.getElem_cons_succ]; go_simp; try with_reducible rfl
  simp only [Act.put, List.getElem_toArray, List.getElem_cons_zero, List.getElem_cons_succ, List.setIfInBounds_toArray, List.set_cons_zero, List.set_cons_succ]
  refine wpAnyH_take (i := 13) (v := ?_) rfl (by kernel_rfl) (by kernel_rfl) (by kernel_rfl) (fun _ _ _ h => h) (Or.inl ⟨by rfl, ?_⟩) hHeld ?_
  rotate_left 1
  · intro Wx hSW; simp only [List.getElem_toArray, List.getElem_cons_zero, List.getElem_cons_succ]; go_simp; try with_reducible rfl
  simp only [Act.put, List.getElem_toArray, List.getElem_cons_zero, List.getElem_cons_succ, List.setIfInBounds_toArray, List.set_cons_zero, List.set_cons_succ]
  refine wpAnyH_take (i := 14) (v := ?_) rfl (by kernel_rfl) (by kernel_rfl) (by kernel_rfl) (fun _ _ _ h => h) (Or.inl ⟨by rfl, ?_⟩) hHeld ?_
  rotate_left 1
  · intro Wx hSW; simp only [List.getElem_toArray, List.getElem_cons_zero, List.getElem_cons_succ]; go_simp; try with_reducible rfl
  simp only [Act.put, List.getElem_toArray, List.getElem_cons_zero, List.getElem_cons_succ, List.setIfInBounds_toArray, List.set_cons_zero, List.set_cons_succ]
  refine wpAnyH_done (by kernel_rfl) ?_ _
  go_wp2
  go_ret
  rw [HGS.out]
  exact ⟨vi, rfl, HGF.out, HWF.out, .inl rfl⟩
end Go.Proofs.YthoinjddamlapaaGreatDoor
