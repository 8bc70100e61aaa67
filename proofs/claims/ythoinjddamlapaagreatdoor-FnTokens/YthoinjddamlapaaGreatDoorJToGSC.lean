/-
  spec.l9stat: calls.
-/
import Derived.Test.YthoinjddamlapaaGreatDoorJToGST
namespace Go.Proofs.YthoinjddamlapaaGreatDoor
open Go.RowKit

theorem tmod3 {kd v : Nat} (h : kd % 3 = v) : (kd : Int).tmod 3 = (v : Int) := by rw [← h]; rfl
set_option maxHeartbeats 8000000 in
set_option maxRecDepth 1000000 in
theorem stat_c0 (m : Nat) (c : GnC) (e : GE) (i : Nat) (vi vt : Value) (ints : List ByteArray) (f : Int) (w : World) (h : GnAt w c e i vi vt ints f) (hf : f < ((m + 1 : Nat) : Int)) (hm : m + 1 ≤ 15) (hf2 : -100 ≤ f) (hil : ints.length + 4 * (m + 1) ≤ 9000) (hcase : 14 ≤ e.nx i % 16 ∧ 0 ≤ f - 1 ∧ e.nx i ≠ 254 ∧ e.nx i / 16 % 3 = 0) :
    Calls Tryz.prog 35 #[.pointer (some ⟨c.G, 0, none⟩)] w (StQ c e vt (gS e (m + 1) i ints f) f vi w) := by
  have HN := hide (next_gn h)
  have g0 := (gc0 h).1
  have hk6 := e.nx_lt i
  have hns := h.ns
  have hts := h.ts
  have HIL := hide h.il
  have HHL := hide hil
  have HHF := hide hf2
  have HHM := hide hm
  have HHG := hide hf
  have HGS : Hid (gS e (m + 1) i ints f = ⟨({ data := #[99, 97, 108, 108, 32] } : ByteArray) ++ ({ data := #[109, 40] } : ByteArray) ++ gI ints e.w (e.nx (i + 1)) ++ ({ data := #[41, 59, 10] } : ByteArray), i + 2, ints⟩) := by
    show _ = _
    unfold gS
    simp only
    have hK : gK (e.nx i) = ({ data := #[109, 40] } : ByteArray) := by unfold gK; rw [if_neg hcase.2.2.1, hcase.2.2.2]; rfl
    rw [if_neg (by omega), if_neg (by omega), if_neg (by omega), if_neg (by omega), if_neg (by omega), if_neg (by omega), if_neg (by omega), if_neg (by omega), if_neg (by omega), if_neg (by omega)]
    rw [hK, if_neg (by decide)]
  obtain ⟨k, hk⟩ : ∃ k, e.nx i = k := ⟨_, rfl⟩
  rw [hk] at HN hk6 hcase
  try rw [hk] at HGS
  obtain ⟨j, hj⟩ : ∃ j, k / 16 % 4 = j := ⟨_, rfl⟩
  obtain ⟨kd, hkd⟩ : ∃ d, k / 16 = d := ⟨_, rfl⟩
  have hqw : IntKind.i64.wrap ((k : Int) / 16) = (kd : Int) := by rw [IntKind.wrap_i64]; omega
  have hmj : (kd : Int).tmod 4 = (j : Int) := by rw [← hj, ← hkd]; rfl
  have hj4 : j < 4 := by omega
  have hji : (j : Int) < 4 := by omega
  have hcl : ∀ W : World, (W.alloc (.cells #[.string ({ data := #[110, 111, 114, 116, 104] } : ByteArray), .string ({ data := #[101, 97, 115, 116] } : ByteArray), .string ({ data := #[115, 111, 117, 116, 104] } : ByteArray), .string ({ data := #[119, 101, 115, 116] } : ByteArray)] 9)).cell? ⟨W.heap.size, j, none⟩ = some (.string (wyW.getD j ⟨#[]⟩)) := fun W => by
    rw [cell_fresh]
    have h6 : j = 0 ∨ j = 1 ∨ j = 2 ∨ j = 3 := by omega
    rcases h6 with rfl | rfl | rfl | rfl <;> rfl
  have o2 := getD_le (L := wyW) (n := 5) (by decide) j
  try rw [hj] at HGS
  obtain ⟨O, hO⟩ : ∃ Z, wyW.getD j ⟨#[]⟩ = Z := ⟨_, rfl⟩
  rw [hO] at o2
  try rw [hO] at HGS
  simp only [hO] at hcl
  have a1 : ¬ 9223372036854775807 < 1 + O.size := by omega
  have a2 : ¬ 9223372036854775807 < 1 + O.size + 2 := by omega
  obtain ⟨mm, hmm⟩ : ∃ m, k % 16 = m := ⟨_, rfl⟩
  have hm16 : (k : Int).tmod 16 = (mm : Int) := by rw [← hmm]; rfl
  rw [hmm] at hcase
  have hfw : IntKind.i64.wrap (f - 1) = f - 1 := by rw [IntKind.wrap_i64]; omega
  have HCL := hide hcl
  have HHK := hide hk
  have HKD := hide hkd
  have HMM := hide hmm
  clear h hk hj hO hj4 hcl hkd hmm
  go_enter Tryz.func35, Tryz.ntmps35
  go_wp2_with fail
  refine HN.out.mono ?_
  rintro r w1 ⟨rfl, h1, hg1⟩
  have hc1 := HCL.out w1
  obtain ⟨W2, hW2⟩ : ∃ W, w1.alloc (.cells #[.string ({ data := #[110, 111, 114, 116, 104] } : ByteArray), .string ({ data := #[101, 97, 115, 116] } : ByteArray), .string ({ data := #[115, 111, 117, 116, 104] } : ByteArray), .string ({ data := #[119, 101, 115, 116] } : ByteArray)] 9) = W := ⟨_, rfl⟩
  have hb2 : Below w1.heap.size w1 W2 := by rw [← hW2]; exact (Below.refl _ _).alloc (Nat.le_refl _) _
  have h2 := h1.below hb2
  have g5 := (gc0 h2).2.2.2.2.2
  have g5f := h2.blk.frozen 5
  have HG3 := hide (h2.fuel (f' := f - 1))
  have HW3 : Hid (Gw (GnX c vi) w (W2.setCell ⟨c.G, 5, none⟩ (.int .i64 (f - 1)))) := (gwB (hg1.mono (fun _ _ g => .inl g)) hb2).trans (Gw.set W2 c.G 5 _) (fun _ _ g => .inr (.inl g))
  rw [hW2] at hc1
  have hW := hW2
  clear h1 hg1 h2 hb2 HN g0 hW2
  have tlt3 : decide ((mm : Int) < 3) = false := decide_eq_false (by omega)
  have teq3 : ((mm : Int) == 3) = false := by rw [beq_eq_false_iff_ne]; omega
  have teq4 : ((mm : Int) == 4) = false := by rw [beq_eq_false_iff_ne]; omega
  have teq5 : ((mm : Int) == 5) = false := by rw [beq_eq_false_iff_ne]; omega
  have teq6 : ((mm : Int) == 6) = false := by rw [beq_eq_false_iff_ne]; omega
  have teq7 : ((mm : Int) == 7) = false := by rw [beq_eq_false_iff_ne]; omega
  have tlt11 : decide ((mm : Int) < 11) = false := decide_eq_false (by omega)
  have teq11 : ((mm : Int) == 11) = false := by rw [beq_eq_false_iff_ne]; omega
  have teq12 : ((mm : Int) == 12) = false := by rw [beq_eq_false_iff_ne]; omega
  have teq13 : ((mm : Int) == 13) = false := by rw [beq_eq_false_iff_ne]; omega
  have tf : decide (f - 1 < 0) = false := decide_eq_false (by omega)
  have g5a := (gc0 HG3.out).2.2.2.2.2
  have hdm : (kd : Int).tmod 3 = 0 := tmod3 (v := 0) (by have h1 := hcase.2.2.2; have h2 := HKD.out; omega)
  have t254 : ((k : Int) == 254) = false := by rw [beq_eq_false_iff_ne]; have := hcase.2.2.1; omega
  have wl := gI_le hns e.w (e.nx (i + 1))
  obtain ⟨X, hX⟩ : ∃ Z, gI ints e.w (e.nx (i + 1)) = Z := ⟨_, rfl⟩
  rw [hX] at wl HGS
  have HXX := hide hX
  have HRZ0 : Hid (c.R < (W2.setCell ⟨c.G, 5, none⟩ (.int .i64 (f - 1))).heap.size) := HG3.out.rd.lt
  obtain ⟨Z3, hZ3⟩ : ∃ W, W2.setCell ⟨c.G, 5, none⟩ (.int .i64 (f - 1)) = W := ⟨_, rfl⟩
  rw [hZ3] at HG3 HW3 HRZ0 g5a
  obtain ⟨Z4, hZ4⟩ : ∃ W, Z3.alloc (.cells #[.string ({ data := #[109, 40] } : ByteArray), .string ({ data := #[114, 111, 119, 40] } : ByteArray), .string ({ data := #[100, 101, 101, 112, 40] } : ByteArray), .string ({ data := #[110, 111, 110, 101, 40] } : ByteArray)] 9) = W := ⟨_, rfl⟩
  have hbz : Below Z3.heap.size Z3 Z4 := by rw [← hZ4]; exact (Below.refl _ _).alloc (Nat.le_refl _) _
  have hq0 := cell_fresh Z3 #[.string ({ data := #[109, 40] } : ByteArray), .string ({ data := #[114, 111, 119, 40] } : ByteArray), .string ({ data := #[100, 101, 101, 112, 40] } : ByteArray), .string ({ data := #[110, 111, 110, 101, 40] } : ByteArray)] 9 0
  have hq1 := cell_fresh Z3 #[.string ({ data := #[109, 40] } : ByteArray), .string ({ data := #[114, 111, 119, 40] } : ByteArray), .string ({ data := #[100, 101, 101, 112, 40] } : ByteArray), .string ({ data := #[110, 111, 110, 101, 40] } : ByteArray)] 9 1
  have hq2 := cell_fresh Z3 #[.string ({ data := #[109, 40] } : ByteArray), .string ({ data := #[114, 111, 119, 40] } : ByteArray), .string ({ data := #[100, 101, 101, 112, 40] } : ByteArray), .string ({ data := #[110, 111, 110, 101, 40] } : ByteArray)] 9 2
  have hq3 := cell_fresh Z3 #[.string ({ data := #[109, 40] } : ByteArray), .string ({ data := #[114, 111, 119, 40] } : ByteArray), .string ({ data := #[100, 101, 101, 112, 40] } : ByteArray), .string ({ data := #[110, 111, 110, 101, 40] } : ByteArray)] 9 3
  rw [hZ4] at hq0 hq1 hq2 hq3
  simp only [List.getElem?_toArray, List.getElem?_cons_succ, List.getElem?_cons_zero] at hq0 hq1 hq2 hq3
  have HG4 := hide (HG3.out.below hbz)
  have HW4 := hide (gwB HW3.out hbz)
  have HC := hide (col_any c e (i + 1) vi vt ints (f - 1) Z4 HG4.out)
  rw [HXX.out] at HC
  have hrow : (({ data := #[109, 40] } : ByteArray) == { data := #[114, 111, 119, 40] }) = false := by decide
  have hrow2 : decide (({ data := #[109, 40] } : ByteArray) = { data := #[114, 111, 119, 40] }) = false := by decide
  have s1 : ¬ 9223372036854775807 < 5 + 2 + X.size := by omega
  have s2 : ¬ 9223372036854775807 < 5 + 2 + X.size + 3 := by omega
  have s3 : ¬ 9223372036854775807 < (({ data := #[99, 97, 108, 108, 32] } : ByteArray) ++ { data := #[109, 40] }).size + X.size := by rw [ByteArray.size_append]; show ¬ 9223372036854775807 < 5 + 2 + X.size; omega
  have hZ := hZ3
  have hZ' := hZ4
  clear hX hbz hZ3 hZ4 HRZ0
  go_wp2_with fail
  refine HC.out.mono ?_
  rintro r w5 ⟨rfl, h5, hg5⟩
  have HG5 := hide h5
  have HW5 := hide (gwX HW4.out hg5)
  clear h5 hg5 HC hq0 hq1 hq2 hq3 hZ hZ' hW hc1 g5 g5f g5a
  go_wp2
  go_ret
  rw [HGS.out]
  exact ⟨vi, rfl, HG5.out, HW5.out, .inl rfl⟩
set_option maxHeartbeats 8000000 in
set_option maxRecDepth 1000000 in
theorem stat_c1 (m : Nat) (c : GnC) (e : GE) (i : Nat) (vi vt : Value) (ints : List ByteArray) (f : Int) (w : World) (h : GnAt w c e i vi vt ints f) (hf : f < ((m + 1 : Nat) : Int)) (hm : m + 1 ≤ 15) (hf2 : -100 ≤ f) (hil : ints.length + 4 * (m + 1) ≤ 9000) (hcase : 14 ≤ e.nx i % 16 ∧ 0 ≤ f - 1 ∧ e.nx i ≠ 254 ∧ e.nx i / 16 % 3 = 1) :
    Calls Tryz.prog 35 #[.pointer (some ⟨c.G, 0, none⟩)] w (StQ c e vt (gS e (m + 1) i ints f) f vi w) := by
  have HN := hide (next_gn h)
  have g0 := (gc0 h).1
  have hk6 := e.nx_lt i
  have hns := h.ns
  have hts := h.ts
  have HIL := hide h.il
  have HHL := hide hil
  have HHF := hide hf2
  have HHM := hide hm
  have HHG := hide hf
  have HGS : Hid (gS e (m + 1) i ints f = ⟨({ data := #[99, 97, 108, 108, 32] } : ByteArray) ++ ({ data := #[114, 111, 119, 40] } : ByteArray) ++ gI ints e.w (e.nx (i + 1)) ++ (({ data := #[44, 32] } : ByteArray) ++ (gN e ints (i + 2)).1) ++ ({ data := #[41, 59, 10] } : ByteArray), (gN e ints (i + 2)).2, ints⟩) := by
    show _ = _
    unfold gS
    simp only
    have hK : gK (e.nx i) = ({ data := #[114, 111, 119, 40] } : ByteArray) := by unfold gK; rw [if_neg hcase.2.2.1, hcase.2.2.2]; rfl
    rw [if_neg (by omega), if_neg (by omega), if_neg (by omega), if_neg (by omega), if_neg (by omega), if_neg (by omega), if_neg (by omega), if_neg (by omega), if_neg (by omega), if_neg (by omega)]
    rw [hK, if_pos rfl]
  obtain ⟨k, hk⟩ : ∃ k, e.nx i = k := ⟨_, rfl⟩
  rw [hk] at HN hk6 hcase
  try rw [hk] at HGS
  obtain ⟨j, hj⟩ : ∃ j, k / 16 % 4 = j := ⟨_, rfl⟩
  obtain ⟨kd, hkd⟩ : ∃ d, k / 16 = d := ⟨_, rfl⟩
  have hqw : IntKind.i64.wrap ((k : Int) / 16) = (kd : Int) := by rw [IntKind.wrap_i64]; omega
  have hmj : (kd : Int).tmod 4 = (j : Int) := by rw [← hj, ← hkd]; rfl
  have hj4 : j < 4 := by omega
  have hji : (j : Int) < 4 := by omega
  have hcl : ∀ W : World, (W.alloc (.cells #[.string ({ data := #[110, 111, 114, 116, 104] } : ByteArray), .string ({ data := #[101, 97, 115, 116] } : ByteArray), .string ({ data := #[115, 111, 117, 116, 104] } : ByteArray), .string ({ data := #[119, 101, 115, 116] } : ByteArray)] 9)).cell? ⟨W.heap.size, j, none⟩ = some (.string (wyW.getD j ⟨#[]⟩)) := fun W => by
    rw [cell_fresh]
    have h6 : j = 0 ∨ j = 1 ∨ j = 2 ∨ j = 3 := by omega
    rcases h6 with rfl | rfl | rfl | rfl <;> rfl
  have o2 := getD_le (L := wyW) (n := 5) (by decide) j
  try rw [hj] at HGS
  obtain ⟨O, hO⟩ : ∃ Z, wyW.getD j ⟨#[]⟩ = Z := ⟨_, rfl⟩
  rw [hO] at o2
  try rw [hO] at HGS
  simp only [hO] at hcl
  have a1 : ¬ 9223372036854775807 < 1 + O.size := by omega
  have a2 : ¬ 9223372036854775807 < 1 + O.size + 2 := by omega
  obtain ⟨mm, hmm⟩ : ∃ m, k % 16 = m := ⟨_, rfl⟩
  have hm16 : (k : Int).tmod 16 = (mm : Int) := by rw [← hmm]; rfl
  rw [hmm] at hcase
  have hfw : IntKind.i64.wrap (f - 1) = f - 1 := by rw [IntKind.wrap_i64]; omega
  have HCL := hide hcl
  have HHK := hide hk
  have HKD := hide hkd
  have HMM := hide hmm
  clear h hk hj hO hj4 hcl hkd hmm
  go_enter Tryz.func35, Tryz.ntmps35
  go_wp2_with fail
  refine HN.out.mono ?_
  rintro r w1 ⟨rfl, h1, hg1⟩
  have hc1 := HCL.out w1
  obtain ⟨W2, hW2⟩ : ∃ W, w1.alloc (.cells #[.string ({ data := #[110, 111, 114, 116, 104] } : ByteArray), .string ({ data := #[101, 97, 115, 116] } : ByteArray), .string ({ data := #[115, 111, 117, 116, 104] } : ByteArray), .string ({ data := #[119, 101, 115, 116] } : ByteArray)] 9) = W := ⟨_, rfl⟩
  have hb2 : Below w1.heap.size w1 W2 := by rw [← hW2]; exact (Below.refl _ _).alloc (Nat.le_refl _) _
  have h2 := h1.below hb2
  have g5 := (gc0 h2).2.2.2.2.2
  have g5f := h2.blk.frozen 5
  have HG3 := hide (h2.fuel (f' := f - 1))
  have HW3 : Hid (Gw (GnX c vi) w (W2.setCell ⟨c.G, 5, none⟩ (.int .i64 (f - 1)))) := (gwB (hg1.mono (fun _ _ g => .inl g)) hb2).trans (Gw.set W2 c.G 5 _) (fun _ _ g => .inr (.inl g))
  rw [hW2] at hc1
  have hW := hW2
  clear h1 hg1 h2 hb2 HN g0 hW2
  have tlt3 : decide ((mm : Int) < 3) = false := decide_eq_false (by omega)
  have teq3 : ((mm : Int) == 3) = false := by rw [beq_eq_false_iff_ne]; omega
  have teq4 : ((mm : Int) == 4) = false := by rw [beq_eq_false_iff_ne]; omega
  have teq5 : ((mm : Int) == 5) = false := by rw [beq_eq_false_iff_ne]; omega
  have teq6 : ((mm : Int) == 6) = false := by rw [beq_eq_false_iff_ne]; omega
  have teq7 : ((mm : Int) == 7) = false := by rw [beq_eq_false_iff_ne]; omega
  have tlt11 : decide ((mm : Int) < 11) = false := decide_eq_false (by omega)
  have teq11 : ((mm : Int) == 11) = false := by rw [beq_eq_false_iff_ne]; omega
  have teq12 : ((mm : Int) == 12) = false := by rw [beq_eq_false_iff_ne]; omega
  have teq13 : ((mm : Int) == 13) = false := by rw [beq_eq_false_iff_ne]; omega
  have tf : decide (f - 1 < 0) = false := decide_eq_false (by omega)
  have g5a := (gc0 HG3.out).2.2.2.2.2
  have hdm : (kd : Int).tmod 3 = 1 := tmod3 (v := 1) (by have h1 := hcase.2.2.2; have h2 := HKD.out; omega)
  have t254 : ((k : Int) == 254) = false := by rw [beq_eq_false_iff_ne]; have := hcase.2.2.1; omega
  have wl := gI_le hns e.w (e.nx (i + 1))
  obtain ⟨X, hX⟩ : ∃ Z, gI ints e.w (e.nx (i + 1)) = Z := ⟨_, rfl⟩
  rw [hX] at wl HGS
  have HXX := hide hX
  have HRZ0 : Hid (c.R < (W2.setCell ⟨c.G, 5, none⟩ (.int .i64 (f - 1))).heap.size) := HG3.out.rd.lt
  obtain ⟨Z3, hZ3⟩ : ∃ W, W2.setCell ⟨c.G, 5, none⟩ (.int .i64 (f - 1)) = W := ⟨_, rfl⟩
  rw [hZ3] at HG3 HW3 HRZ0 g5a
  obtain ⟨Z4, hZ4⟩ : ∃ W, Z3.alloc (.cells #[.string ({ data := #[109, 40] } : ByteArray), .string ({ data := #[114, 111, 119, 40] } : ByteArray), .string ({ data := #[100, 101, 101, 112, 40] } : ByteArray), .string ({ data := #[110, 111, 110, 101, 40] } : ByteArray)] 9) = W := ⟨_, rfl⟩
  have hbz : Below Z3.heap.size Z3 Z4 := by rw [← hZ4]; exact (Below.refl _ _).alloc (Nat.le_refl _) _
  have hq0 := cell_fresh Z3 #[.string ({ data := #[109, 40] } : ByteArray), .string ({ data := #[114, 111, 119, 40] } : ByteArray), .string ({ data := #[100, 101, 101, 112, 40] } : ByteArray), .string ({ data := #[110, 111, 110, 101, 40] } : ByteArray)] 9 0
  have hq1 := cell_fresh Z3 #[.string ({ data := #[109, 40] } : ByteArray), .string ({ data := #[114, 111, 119, 40] } : ByteArray), .string ({ data := #[100, 101, 101, 112, 40] } : ByteArray), .string ({ data := #[110, 111, 110, 101, 40] } : ByteArray)] 9 1
  have hq2 := cell_fresh Z3 #[.string ({ data := #[109, 40] } : ByteArray), .string ({ data := #[114, 111, 119, 40] } : ByteArray), .string ({ data := #[100, 101, 101, 112, 40] } : ByteArray), .string ({ data := #[110, 111, 110, 101, 40] } : ByteArray)] 9 2
  have hq3 := cell_fresh Z3 #[.string ({ data := #[109, 40] } : ByteArray), .string ({ data := #[114, 111, 119, 40] } : ByteArray), .string ({ data := #[100, 101, 101, 112, 40] } : ByteArray), .string ({ data := #[110, 111, 110, 101, 40] } : ByteArray)] 9 3
  rw [hZ4] at hq0 hq1 hq2 hq3
  simp only [List.getElem?_toArray, List.getElem?_cons_succ, List.getElem?_cons_zero] at hq0 hq1 hq2 hq3
  have HG4 := hide (HG3.out.below hbz)
  have HW4 := hide (gwB HW3.out hbz)
  have HC := hide (col_any c e (i + 1) vi vt ints (f - 1) Z4 HG4.out)
  rw [HXX.out] at HC
  have hrow : (({ data := #[114, 111, 119, 40] } : ByteArray) == { data := #[114, 111, 119, 40] }) = true := by decide
  have hrow2 : decide (({ data := #[114, 111, 119, 40] } : ByteArray) = { data := #[114, 111, 119, 40] }) = true := by decide
  have s1 : ¬ 9223372036854775807 < 5 + 4 + X.size := by omega
  have s2 : ¬ 9223372036854775807 < 5 + 4 + X.size + 3 := by omega
  have s3 : ¬ 9223372036854775807 < (({ data := #[99, 97, 108, 108, 32] } : ByteArray) ++ { data := #[114, 111, 119, 40] }).size + X.size := by rw [ByteArray.size_append]; show ¬ 9223372036854775807 < 5 + 4 + X.size; omega
  have hZ := hZ3
  have hZ' := hZ4
  clear hX hbz hZ3 hZ4 HRZ0
  go_wp2_with fail
  refine HC.out.mono ?_
  rintro r w5 ⟨rfl, h5, hg5⟩
  have HG5 := hide h5
  have HW5 := hide (gwX HW4.out hg5)
  clear h5 hg5 HC hq0 hq1 hq2 hq3 hZ hZ' hW hc1 g5 g5f g5a
  have HNM := hide (name_gn c e (i + 2) vi vt ints (f - 1) w5 HG5.out)
  have nl := gN_le (e := e) hns hts (i + 2)
  obtain ⟨Y, hY⟩ : ∃ Z, (gN e ints (i + 2)).1 = Z := ⟨_, rfl⟩
  rw [hY] at HNM nl HGS
  have z1 : ¬ 9223372036854775807 < 2 + Y.size := by omega
  have z2 : ¬ 9223372036854775807 < 5 + 4 + X.size + (2 + Y.size) := by omega
  have z3 : ¬ 9223372036854775807 < 5 + 4 + X.size + (2 + Y.size) + 3 := by omega
  clear hY
  go_wp2_with fail
  refine HNM.out.mono ?_
  rintro r w6 ⟨rfl, h6, hg6⟩
  have HG6 := hide h6
  have HW6 := hide (gwX HW5.out hg6)
  clear h6 hg6 HNM
  go_wp2
  go_ret
  rw [HGS.out]
  exact ⟨vi, rfl, HG6.out, HW6.out, .inl rfl⟩
set_option maxHeartbeats 8000000 in
set_option maxRecDepth 1000000 in
theorem stat_c2 (m : Nat) (c : GnC) (e : GE) (i : Nat) (vi vt : Value) (ints : List ByteArray) (f : Int) (w : World) (h : GnAt w c e i vi vt ints f) (hf : f < ((m + 1 : Nat) : Int)) (hm : m + 1 ≤ 15) (hf2 : -100 ≤ f) (hil : ints.length + 4 * (m + 1) ≤ 9000) (hcase : 14 ≤ e.nx i % 16 ∧ 0 ≤ f - 1 ∧ e.nx i ≠ 254 ∧ e.nx i / 16 % 3 = 2) :
    Calls Tryz.prog 35 #[.pointer (some ⟨c.G, 0, none⟩)] w (StQ c e vt (gS e (m + 1) i ints f) f vi w) := by
  have HN := hide (next_gn h)
  have g0 := (gc0 h).1
  have hk6 := e.nx_lt i
  have hns := h.ns
  have hts := h.ts
  have HIL := hide h.il
  have HHL := hide hil
  have HHF := hide hf2
  have HHM := hide hm
  have HHG := hide hf
  have HGS : Hid (gS e (m + 1) i ints f = ⟨({ data := #[99, 97, 108, 108, 32] } : ByteArray) ++ ({ data := #[100, 101, 101, 112, 40] } : ByteArray) ++ gI ints e.w (e.nx (i + 1)) ++ ({ data := #[41, 59, 10] } : ByteArray), i + 2, ints⟩) := by
    show _ = _
    unfold gS
    simp only
    have hK : gK (e.nx i) = ({ data := #[100, 101, 101, 112, 40] } : ByteArray) := by unfold gK; rw [if_neg hcase.2.2.1, hcase.2.2.2]; rfl
    rw [if_neg (by omega), if_neg (by omega), if_neg (by omega), if_neg (by omega), if_neg (by omega), if_neg (by omega), if_neg (by omega), if_neg (by omega), if_neg (by omega), if_neg (by omega)]
    rw [hK, if_neg (by decide)]
  obtain ⟨k, hk⟩ : ∃ k, e.nx i = k := ⟨_, rfl⟩
  rw [hk] at HN hk6 hcase
  try rw [hk] at HGS
  obtain ⟨j, hj⟩ : ∃ j, k / 16 % 4 = j := ⟨_, rfl⟩
  obtain ⟨kd, hkd⟩ : ∃ d, k / 16 = d := ⟨_, rfl⟩
  have hqw : IntKind.i64.wrap ((k : Int) / 16) = (kd : Int) := by rw [IntKind.wrap_i64]; omega
  have hmj : (kd : Int).tmod 4 = (j : Int) := by rw [← hj, ← hkd]; rfl
  have hj4 : j < 4 := by omega
  have hji : (j : Int) < 4 := by omega
  have hcl : ∀ W : World, (W.alloc (.cells #[.string ({ data := #[110, 111, 114, 116, 104] } : ByteArray), .string ({ data := #[101, 97, 115, 116] } : ByteArray), .string ({ data := #[115, 111, 117, 116, 104] } : ByteArray), .string ({ data := #[119, 101, 115, 116] } : ByteArray)] 9)).cell? ⟨W.heap.size, j, none⟩ = some (.string (wyW.getD j ⟨#[]⟩)) := fun W => by
    rw [cell_fresh]
    have h6 : j = 0 ∨ j = 1 ∨ j = 2 ∨ j = 3 := by omega
    rcases h6 with rfl | rfl | rfl | rfl <;> rfl
  have o2 := getD_le (L := wyW) (n := 5) (by decide) j
  try rw [hj] at HGS
  obtain ⟨O, hO⟩ : ∃ Z, wyW.getD j ⟨#[]⟩ = Z := ⟨_, rfl⟩
  rw [hO] at o2
  try rw [hO] at HGS
  simp only [hO] at hcl
  have a1 : ¬ 9223372036854775807 < 1 + O.size := by omega
  have a2 : ¬ 9223372036854775807 < 1 + O.size + 2 := by omega
  obtain ⟨mm, hmm⟩ : ∃ m, k % 16 = m := ⟨_, rfl⟩
  have hm16 : (k : Int).tmod 16 = (mm : Int) := by rw [← hmm]; rfl
  rw [hmm] at hcase
  have hfw : IntKind.i64.wrap (f - 1) = f - 1 := by rw [IntKind.wrap_i64]; omega
  have HCL := hide hcl
  have HHK := hide hk
  have HKD := hide hkd
  have HMM := hide hmm
  clear h hk hj hO hj4 hcl hkd hmm
  go_enter Tryz.func35, Tryz.ntmps35
  go_wp2_with fail
  refine HN.out.mono ?_
  rintro r w1 ⟨rfl, h1, hg1⟩
  have hc1 := HCL.out w1
  obtain ⟨W2, hW2⟩ : ∃ W, w1.alloc (.cells #[.string ({ data := #[110, 111, 114, 116, 104] } : ByteArray), .string ({ data := #[101, 97, 115, 116] } : ByteArray), .string ({ data := #[115, 111, 117, 116, 104] } : ByteArray), .string ({ data := #[119, 101, 115, 116] } : ByteArray)] 9) = W := ⟨_, rfl⟩
  have hb2 : Below w1.heap.size w1 W2 := by rw [← hW2]; exact (Below.refl _ _).alloc (Nat.le_refl _) _
  have h2 := h1.below hb2
  have g5 := (gc0 h2).2.2.2.2.2
  have g5f := h2.blk.frozen 5
  have HG3 := hide (h2.fuel (f' := f - 1))
  have HW3 : Hid (Gw (GnX c vi) w (W2.setCell ⟨c.G, 5, none⟩ (.int .i64 (f - 1)))) := (gwB (hg1.mono (fun _ _ g => .inl g)) hb2).trans (Gw.set W2 c.G 5 _) (fun _ _ g => .inr (.inl g))
  rw [hW2] at hc1
  have hW := hW2
  clear h1 hg1 h2 hb2 HN g0 hW2
  have tlt3 : decide ((mm : Int) < 3) = false := decide_eq_false (by omega)
  have teq3 : ((mm : Int) == 3) = false := by rw [beq_eq_false_iff_ne]; omega
  have teq4 : ((mm : Int) == 4) = false := by rw [beq_eq_false_iff_ne]; omega
  have teq5 : ((mm : Int) == 5) = false := by rw [beq_eq_false_iff_ne]; omega
  have teq6 : ((mm : Int) == 6) = false := by rw [beq_eq_false_iff_ne]; omega
  have teq7 : ((mm : Int) == 7) = false := by rw [beq_eq_false_iff_ne]; omega
  have tlt11 : decide ((mm : Int) < 11) = false := decide_eq_false (by omega)
  have teq11 : ((mm : Int) == 11) = false := by rw [beq_eq_false_iff_ne]; omega
  have teq12 : ((mm : Int) == 12) = false := by rw [beq_eq_false_iff_ne]; omega
  have teq13 : ((mm : Int) == 13) = false := by rw [beq_eq_false_iff_ne]; omega
  have tf : decide (f - 1 < 0) = false := decide_eq_false (by omega)
  have g5a := (gc0 HG3.out).2.2.2.2.2
  have hdm : (kd : Int).tmod 3 = 2 := tmod3 (v := 2) (by have h1 := hcase.2.2.2; have h2 := HKD.out; omega)
  have t254 : ((k : Int) == 254) = false := by rw [beq_eq_false_iff_ne]; have := hcase.2.2.1; omega
  have wl := gI_le hns e.w (e.nx (i + 1))
  obtain ⟨X, hX⟩ : ∃ Z, gI ints e.w (e.nx (i + 1)) = Z := ⟨_, rfl⟩
  rw [hX] at wl HGS
  have HXX := hide hX
  have HRZ0 : Hid (c.R < (W2.setCell ⟨c.G, 5, none⟩ (.int .i64 (f - 1))).heap.size) := HG3.out.rd.lt
  obtain ⟨Z3, hZ3⟩ : ∃ W, W2.setCell ⟨c.G, 5, none⟩ (.int .i64 (f - 1)) = W := ⟨_, rfl⟩
  rw [hZ3] at HG3 HW3 HRZ0 g5a
  obtain ⟨Z4, hZ4⟩ : ∃ W, Z3.alloc (.cells #[.string ({ data := #[109, 40] } : ByteArray), .string ({ data := #[114, 111, 119, 40] } : ByteArray), .string ({ data := #[100, 101, 101, 112, 40] } : ByteArray), .string ({ data := #[110, 111, 110, 101, 40] } : ByteArray)] 9) = W := ⟨_, rfl⟩
  have hbz : Below Z3.heap.size Z3 Z4 := by rw [← hZ4]; exact (Below.refl _ _).alloc (Nat.le_refl _) _
  have hq0 := cell_fresh Z3 #[.string ({ data := #[109, 40] } : ByteArray), .string ({ data := #[114, 111, 119, 40] } : ByteArray), .string ({ data := #[100, 101, 101, 112, 40] } : ByteArray), .string ({ data := #[110, 111, 110, 101, 40] } : ByteArray)] 9 0
  have hq1 := cell_fresh Z3 #[.string ({ data := #[109, 40] } : ByteArray), .string ({ data := #[114, 111, 119, 40] } : ByteArray), .string ({ data := #[100, 101, 101, 112, 40] } : ByteArray), .string ({ data := #[110, 111, 110, 101, 40] } : ByteArray)] 9 1
  have hq2 := cell_fresh Z3 #[.string ({ data := #[109, 40] } : ByteArray), .string ({ data := #[114, 111, 119, 40] } : ByteArray), .string ({ data := #[100, 101, 101, 112, 40] } : ByteArray), .string ({ data := #[110, 111, 110, 101, 40] } : ByteArray)] 9 2
  have hq3 := cell_fresh Z3 #[.string ({ data := #[109, 40] } : ByteArray), .string ({ data := #[114, 111, 119, 40] } : ByteArray), .string ({ data := #[100, 101, 101, 112, 40] } : ByteArray), .string ({ data := #[110, 111, 110, 101, 40] } : ByteArray)] 9 3
  rw [hZ4] at hq0 hq1 hq2 hq3
  simp only [List.getElem?_toArray, List.getElem?_cons_succ, List.getElem?_cons_zero] at hq0 hq1 hq2 hq3
  have HG4 := hide (HG3.out.below hbz)
  have HW4 := hide (gwB HW3.out hbz)
  have HC := hide (col_any c e (i + 1) vi vt ints (f - 1) Z4 HG4.out)
  rw [HXX.out] at HC
  have hrow : (({ data := #[100, 101, 101, 112, 40] } : ByteArray) == { data := #[114, 111, 119, 40] }) = false := by decide
  have hrow2 : decide (({ data := #[100, 101, 101, 112, 40] } : ByteArray) = { data := #[114, 111, 119, 40] }) = false := by decide
  have s1 : ¬ 9223372036854775807 < 5 + 5 + X.size := by omega
  have s2 : ¬ 9223372036854775807 < 5 + 5 + X.size + 3 := by omega
  have s3 : ¬ 9223372036854775807 < (({ data := #[99, 97, 108, 108, 32] } : ByteArray) ++ { data := #[100, 101, 101, 112, 40] }).size + X.size := by rw [ByteArray.size_append]; show ¬ 9223372036854775807 < 5 + 5 + X.size; omega
  have hZ := hZ3
  have hZ' := hZ4
  clear hX hbz hZ3 hZ4 HRZ0
  go_wp2_with fail
  refine HC.out.mono ?_
  rintro r w5 ⟨rfl, h5, hg5⟩
  have HG5 := hide h5
  have HW5 := hide (gwX HW4.out hg5)
  clear h5 hg5 HC hq0 hq1 hq2 hq3 hZ hZ' hW hc1 g5 g5f g5a
  go_wp2
  go_ret
  rw [HGS.out]
  exact ⟨vi, rfl, HG5.out, HW5.out, .inl rfl⟩
set_option maxHeartbeats 8000000 in
set_option maxRecDepth 1000000 in
theorem stat_c9 (m : Nat) (c : GnC) (e : GE) (i : Nat) (vi vt : Value) (ints : List ByteArray) (f : Int) (w : World) (h : GnAt w c e i vi vt ints f) (hf : f < ((m + 1 : Nat) : Int)) (hm : m + 1 ≤ 15) (hf2 : -100 ≤ f) (hil : ints.length + 4 * (m + 1) ≤ 9000) (hcase : 14 ≤ e.nx i % 16 ∧ 0 ≤ f - 1 ∧ e.nx i = 254) :
    Calls Tryz.prog 35 #[.pointer (some ⟨c.G, 0, none⟩)] w (StQ c e vt (gS e (m + 1) i ints f) f vi w) := by
  have HN := hide (next_gn h)
  have g0 := (gc0 h).1
  have hk6 := e.nx_lt i
  have hns := h.ns
  have hts := h.ts
  have HIL := hide h.il
  have HHL := hide hil
  have HHF := hide hf2
  have HHM := hide hm
  have HHG := hide hf
  have HGS : Hid (gS e (m + 1) i ints f = ⟨({ data := #[99, 97, 108, 108, 32] } : ByteArray) ++ ({ data := #[110, 111, 110, 101, 40] } : ByteArray) ++ gI ints e.w (e.nx (i + 1)) ++ ({ data := #[41, 59, 10] } : ByteArray), i + 2, ints⟩) := by
    show _ = _
    unfold gS
    simp only
    have hK : gK (e.nx i) = ({ data := #[110, 111, 110, 101, 40] } : ByteArray) := by unfold gK; rw [if_pos hcase.2.2]; rfl
    rw [if_neg (by omega), if_neg (by omega), if_neg (by omega), if_neg (by omega), if_neg (by omega), if_neg (by omega), if_neg (by omega), if_neg (by omega), if_neg (by omega), if_neg (by omega)]
    rw [hK, if_neg (by decide)]
  obtain ⟨k, hk⟩ : ∃ k, e.nx i = k := ⟨_, rfl⟩
  rw [hk] at HN hk6 hcase
  try rw [hk] at HGS
  obtain ⟨j, hj⟩ : ∃ j, k / 16 % 4 = j := ⟨_, rfl⟩
  obtain ⟨kd, hkd⟩ : ∃ d, k / 16 = d := ⟨_, rfl⟩
  have hqw : IntKind.i64.wrap ((k : Int) / 16) = (kd : Int) := by rw [IntKind.wrap_i64]; omega
  have hmj : (kd : Int).tmod 4 = (j : Int) := by rw [← hj, ← hkd]; rfl
  have hj4 : j < 4 := by omega
  have hji : (j : Int) < 4 := by omega
  have hcl : ∀ W : World, (W.alloc (.cells #[.string ({ data := #[110, 111, 114, 116, 104] } : ByteArray), .string ({ data := #[101, 97, 115, 116] } : ByteArray), .string ({ data := #[115, 111, 117, 116, 104] } : ByteArray), .string ({ data := #[119, 101, 115, 116] } : ByteArray)] 9)).cell? ⟨W.heap.size, j, none⟩ = some (.string (wyW.getD j ⟨#[]⟩)) := fun W => by
    rw [cell_fresh]
    have h6 : j = 0 ∨ j = 1 ∨ j = 2 ∨ j = 3 := by omega
    rcases h6 with rfl | rfl | rfl | rfl <;> rfl
  have o2 := getD_le (L := wyW) (n := 5) (by decide) j
  try rw [hj] at HGS
  obtain ⟨O, hO⟩ : ∃ Z, wyW.getD j ⟨#[]⟩ = Z := ⟨_, rfl⟩
  rw [hO] at o2
  try rw [hO] at HGS
  simp only [hO] at hcl
  have a1 : ¬ 9223372036854775807 < 1 + O.size := by omega
  have a2 : ¬ 9223372036854775807 < 1 + O.size + 2 := by omega
  obtain ⟨mm, hmm⟩ : ∃ m, k % 16 = m := ⟨_, rfl⟩
  have hm16 : (k : Int).tmod 16 = (mm : Int) := by rw [← hmm]; rfl
  rw [hmm] at hcase
  have hfw : IntKind.i64.wrap (f - 1) = f - 1 := by rw [IntKind.wrap_i64]; omega
  have HCL := hide hcl
  have HHK := hide hk
  have HKD := hide hkd
  have HMM := hide hmm
  clear h hk hj hO hj4 hcl hkd hmm
  go_enter Tryz.func35, Tryz.ntmps35
  go_wp2_with fail
  refine HN.out.mono ?_
  rintro r w1 ⟨rfl, h1, hg1⟩
  have hc1 := HCL.out w1
  obtain ⟨W2, hW2⟩ : ∃ W, w1.alloc (.cells #[.string ({ data := #[110, 111, 114, 116, 104] } : ByteArray), .string ({ data := #[101, 97, 115, 116] } : ByteArray), .string ({ data := #[115, 111, 117, 116, 104] } : ByteArray), .string ({ data := #[119, 101, 115, 116] } : ByteArray)] 9) = W := ⟨_, rfl⟩
  have hb2 : Below w1.heap.size w1 W2 := by rw [← hW2]; exact (Below.refl _ _).alloc (Nat.le_refl _) _
  have h2 := h1.below hb2
  have g5 := (gc0 h2).2.2.2.2.2
  have g5f := h2.blk.frozen 5
  have HG3 := hide (h2.fuel (f' := f - 1))
  have HW3 : Hid (Gw (GnX c vi) w (W2.setCell ⟨c.G, 5, none⟩ (.int .i64 (f - 1)))) := (gwB (hg1.mono (fun _ _ g => .inl g)) hb2).trans (Gw.set W2 c.G 5 _) (fun _ _ g => .inr (.inl g))
  rw [hW2] at hc1
  have hW := hW2
  clear h1 hg1 h2 hb2 HN g0 hW2
  have tlt3 : decide ((mm : Int) < 3) = false := decide_eq_false (by omega)
  have teq3 : ((mm : Int) == 3) = false := by rw [beq_eq_false_iff_ne]; omega
  have teq4 : ((mm : Int) == 4) = false := by rw [beq_eq_false_iff_ne]; omega
  have teq5 : ((mm : Int) == 5) = false := by rw [beq_eq_false_iff_ne]; omega
  have teq6 : ((mm : Int) == 6) = false := by rw [beq_eq_false_iff_ne]; omega
  have teq7 : ((mm : Int) == 7) = false := by rw [beq_eq_false_iff_ne]; omega
  have tlt11 : decide ((mm : Int) < 11) = false := decide_eq_false (by omega)
  have teq11 : ((mm : Int) == 11) = false := by rw [beq_eq_false_iff_ne]; omega
  have teq12 : ((mm : Int) == 12) = false := by rw [beq_eq_false_iff_ne]; omega
  have teq13 : ((mm : Int) == 13) = false := by rw [beq_eq_false_iff_ne]; omega
  have tf : decide (f - 1 < 0) = false := decide_eq_false (by omega)
  have g5a := (gc0 HG3.out).2.2.2.2.2
  have hdm : (kd : Int).tmod 3 = 0 := tmod3 (v := 0) (by have h2 := HKD.out; omega)
  have t254 : ((k : Int) == 254) = true := by rw [beq_iff_eq]; omega
  clear hcase
  have wl := gI_le hns e.w (e.nx (i + 1))
  obtain ⟨X, hX⟩ : ∃ Z, gI ints e.w (e.nx (i + 1)) = Z := ⟨_, rfl⟩
  rw [hX] at wl HGS
  have HXX := hide hX
  have HRZ0 : Hid (c.R < (W2.setCell ⟨c.G, 5, none⟩ (.int .i64 (f - 1))).heap.size) := HG3.out.rd.lt
  obtain ⟨Z3, hZ3⟩ : ∃ W, W2.setCell ⟨c.G, 5, none⟩ (.int .i64 (f - 1)) = W := ⟨_, rfl⟩
  rw [hZ3] at HG3 HW3 HRZ0 g5a
  obtain ⟨Z4, hZ4⟩ : ∃ W, Z3.alloc (.cells #[.string ({ data := #[109, 40] } : ByteArray), .string ({ data := #[114, 111, 119, 40] } : ByteArray), .string ({ data := #[100, 101, 101, 112, 40] } : ByteArray), .string ({ data := #[110, 111, 110, 101, 40] } : ByteArray)] 9) = W := ⟨_, rfl⟩
  have hbz : Below Z3.heap.size Z3 Z4 := by rw [← hZ4]; exact (Below.refl _ _).alloc (Nat.le_refl _) _
  have hq0 := cell_fresh Z3 #[.string ({ data := #[109, 40] } : ByteArray), .string ({ data := #[114, 111, 119, 40] } : ByteArray), .string ({ data := #[100, 101, 101, 112, 40] } : ByteArray), .string ({ data := #[110, 111, 110, 101, 40] } : ByteArray)] 9 0
  have hq1 := cell_fresh Z3 #[.string ({ data := #[109, 40] } : ByteArray), .string ({ data := #[114, 111, 119, 40] } : ByteArray), .string ({ data := #[100, 101, 101, 112, 40] } : ByteArray), .string ({ data := #[110, 111, 110, 101, 40] } : ByteArray)] 9 1
  have hq2 := cell_fresh Z3 #[.string ({ data := #[109, 40] } : ByteArray), .string ({ data := #[114, 111, 119, 40] } : ByteArray), .string ({ data := #[100, 101, 101, 112, 40] } : ByteArray), .string ({ data := #[110, 111, 110, 101, 40] } : ByteArray)] 9 2
  have hq3 := cell_fresh Z3 #[.string ({ data := #[109, 40] } : ByteArray), .string ({ data := #[114, 111, 119, 40] } : ByteArray), .string ({ data := #[100, 101, 101, 112, 40] } : ByteArray), .string ({ data := #[110, 111, 110, 101, 40] } : ByteArray)] 9 3
  rw [hZ4] at hq0 hq1 hq2 hq3
  simp only [List.getElem?_toArray, List.getElem?_cons_succ, List.getElem?_cons_zero] at hq0 hq1 hq2 hq3
  have HG4 := hide (HG3.out.below hbz)
  have HW4 := hide (gwB HW3.out hbz)
  have HC := hide (col_any c e (i + 1) vi vt ints (f - 1) Z4 HG4.out)
  rw [HXX.out] at HC
  have hrow : (({ data := #[110, 111, 110, 101, 40] } : ByteArray) == { data := #[114, 111, 119, 40] }) = false := by decide
  have hrow2 : decide (({ data := #[110, 111, 110, 101, 40] } : ByteArray) = { data := #[114, 111, 119, 40] }) = false := by decide
  have s1 : ¬ 9223372036854775807 < 5 + 5 + X.size := by omega
  have s2 : ¬ 9223372036854775807 < 5 + 5 + X.size + 3 := by omega
  have s3 : ¬ 9223372036854775807 < (({ data := #[99, 97, 108, 108, 32] } : ByteArray) ++ { data := #[110, 111, 110, 101, 40] }).size + X.size := by rw [ByteArray.size_append]; show ¬ 9223372036854775807 < 5 + 5 + X.size; omega
  have hZ := hZ3
  have hZ' := hZ4
  clear hX hbz hZ3 hZ4 HRZ0
  go_wp2_with fail
  refine HC.out.mono ?_
  rintro r w5 ⟨rfl, h5, hg5⟩
  have HG5 := hide h5
  have HW5 := hide (gwX HW4.out hg5)
  clear h5 hg5 HC hq0 hq1 hq2 hq3 hZ hZ' hW hc1 g5 g5f g5a
  go_wp2
  go_ret
  rw [HGS.out]
  exact ⟨vi, rfl, HG5.out, HW5.out, .inl rfl⟩
end Go.Proofs.YthoinjddamlapaaGreatDoor
