/-
  spec.l9stat: loops and conditions.
-/
import Derived.Test.YthoinjddamlapaaGreatDoorJToGST
namespace Go.Proofs.YthoinjddamlapaaGreatDoor
open Go.RowKit

theorem inner_any (c : GnC) (e : GE) (i : Nat) (vi vt : Value) (ints : List ByteArray) (f : Int) (w : World) (h : GnAt w c e i vi vt ints f) (hf : -1000 ≤ f ∧ f ≤ 1000) (hi1 : ints.length ≤ 9999) :
    Calls Tryz.prog 56 #[.pointer (some ⟨c.G, 0, none⟩), .string ⟨#[]⟩] w (InQ c e i vt ints f w) := by
  by_cases q : ints.length = 0
  · exact inner_gn0 c e i vi vt ints f w h hf q hi1
  · exact inner_gn c e i vi vt ints f w h hf (by omega) hi1
theorem inner_anyi (c : GnC) (e : GE) (i : Nat) (vi vt : Value) (ints : List ByteArray) (f : Int) (w : World) (h : GnAt w c e i vi vt ints f) (hf : -1000 ≤ f ∧ f ≤ 1000) (hi1 : ints.length ≤ 9999) :
    Calls Tryz.prog 56 #[.pointer (some ⟨c.G, 0, none⟩), .string ⟨#[105]⟩] w (InQ c e i vt (ints ++ [⟨#[105]⟩]) f w) := by
  by_cases q : ints.length = 0
  · exact inner_gni0 c e i vi vt ints f w h hf q hi1
  · exact inner_gni c e i vi vt ints f w h hf (by omega) hi1
/-- A block's writer is gone; the outer one goes on. -/
theorem GnAt.back {w w' w'' : World} {c : GnC} {e : GE} {i i' G' : Nat} {vi vt vi' vi2 : Value} {ints ints2 : List ByteArray} {f f2 : Int} (h : GnAt w c e i vi vt ints f) (hG : w.heap.size ≤ G') (hv : ∀ k, vi'.ownBlock = some k → w.heap.size ≤ k) (hb : Below w.heap.size w w') (hw : Gw (GnX { c with G := G' } vi') w' w'') (h2 : GnAt w'' { c with G := G' } e i' vi2 vt ints2 f2) : GnAt w'' c e i' vi vt ints f ∧ Gw (· = c.R) w w'' := by
  have hg : Gw (· = c.R) w w'' := (Gw.of_below hb (P := (· = c.R))).trans hw (fun k hk q => by
    rcases q with q | q | q
    · exact q
    · simp only at q; omega
    · have := hv k q; omega)
  exact ⟨h.go hg h2.rd, hg⟩
set_option maxHeartbeats 8000000 in
set_option maxRecDepth 1000000 in
theorem stat_for (m : Nat) (hS : StC m) {e : GE} (hL : StL e m) (c : GnC) (i : Nat) (vi vt : Value) (ints : List ByteArray) (f : Int) (w : World) (h : GnAt w c e i vi vt ints f) (hf : f < ((m + 1 : Nat) : Int)) (hm : m + 1 ≤ 15) (hf2 : -100 ≤ f) (hil : ints.length + 4 * (m + 1) ≤ 9000) (hcase : e.nx i % 16 = 12 ∧ 0 ≤ f - 1) :
    Calls Tryz.prog 35 #[.pointer (some ⟨c.G, 0, none⟩)] w (StQ c e vt (gS e (m + 1) i ints f) f vi w) := by
  have HN := hide (next_gn h)
  have g0 := (gc0 h).1
  have hk6 := e.nx_lt i
  have hns := h.ns
  have hts := h.ts
  have HIL := hide h.il
  have HHL := hide hil
  have HHF := hide hf2
  have HHM := hide hm
  have HHG := hide hf
  have HGS : Hid (gS e (m + 1) i ints f = ⟨({ data := #[102, 111, 114, 32, 105, 32, 61, 32, 48, 32, 116, 111, 32] } : ByteArray) ++ decB (e.nx i / 16 % 4) ++ ({ data := #[32] } : ByteArray) ++ (gB (gS e m) (1 + e.nx i / 64 % 2) (i + 1) (ints ++ [⟨#[105]⟩]) (f - 1 - 1)).1, (gB (gS e m) (1 + e.nx i / 64 % 2) (i + 1) (ints ++ [⟨#[105]⟩]) (f - 1 - 1)).2, ints⟩) := by
    show _ = _
    unfold gS
    simp only
    rw [if_neg (by omega), if_neg (by omega), if_neg (by omega), if_neg (by omega), if_neg (by omega), if_neg (by omega), if_neg (by omega), if_neg (by omega), if_pos (by omega)]
  obtain ⟨k, hk⟩ : ∃ k, e.nx i = k := ⟨_, rfl⟩
  rw [hk] at HN hk6 hcase
  try rw [hk] at HGS
  obtain ⟨j, hj⟩ : ∃ j, k / 16 % 4 = j := ⟨_, rfl⟩
  obtain ⟨kd, hkd⟩ : ∃ d, k / 16 = d := ⟨_, rfl⟩
  have hqw : IntKind.i64.wrap ((k : Int) / 16) = (kd : Int) := by rw [IntKind.wrap_i64]; omega
  have hmj : (kd : Int).tmod 4 = (j : Int) := by rw [← hj, ← hkd]; rfl
  have hj4 : j < 4 := by omega
  have hji : (j : Int) < 4 := by omega
  have hcl : ∀ W : World, (W.alloc (.cells #[.string ({ data := #[110, 111, 114, 116, 104] } : ByteArray), .string ({ data := #[101, 97, 115, 116] } : ByteArray), .string ({ data := #[115, 111, 117, 116, 104] } : ByteArray), .string ({ data := #[119, 101, 115, 116] } : ByteArray)] 9)).cell? ⟨W.heap.size, j, none⟩ = some (.string (wyW.getD j ⟨#[]⟩)) := fun W => by
    rw [cell_fresh]
    have h6 : j = 0 ∨ j = 1 ∨ j = 2 ∨ j = 3 := by omega
    rcases h6 with rfl | rfl | rfl | rfl <;> rfl
  have o2 := getD_le (L := wyW) (n := 5) (by decide) j
  try rw [hj] at HGS
  obtain ⟨O, hO⟩ : ∃ Z, wyW.getD j ⟨#[]⟩ = Z := ⟨_, rfl⟩
  rw [hO] at o2
  try rw [hO] at HGS
  simp only [hO] at hcl
  have a1 : ¬ 9223372036854775807 < 1 + O.size := by omega
  have a2 : ¬ 9223372036854775807 < 1 + O.size + 2 := by omega
  obtain ⟨mm, hmm⟩ : ∃ m, k % 16 = m := ⟨_, rfl⟩
  have hm16 : (k : Int).tmod 16 = (mm : Int) := by rw [← hmm]; rfl
  rw [hmm] at hcase
  have hfw : IntKind.i64.wrap (f - 1) = f - 1 := by rw [IntKind.wrap_i64]; omega
  have HCL := hide hcl
  have HHK := hide hk
  have HKD := hide hkd
  have HMM := hide hmm
  clear h hk hj hO hj4 hcl hkd hmm
  go_enter Tryz.func35, Tryz.ntmps35
  go_wp2_with fail
  refine HN.out.mono ?_
  rintro r w1 ⟨rfl, h1, hg1⟩
  have hc1 := HCL.out w1
  obtain ⟨W2, hW2⟩ : ∃ W, w1.alloc (.cells #[.string ({ data := #[110, 111, 114, 116, 104] } : ByteArray), .string ({ data := #[101, 97, 115, 116] } : ByteArray), .string ({ data := #[115, 111, 117, 116, 104] } : ByteArray), .string ({ data := #[119, 101, 115, 116] } : ByteArray)] 9) = W := ⟨_, rfl⟩
  have hb2 : Below w1.heap.size w1 W2 := by rw [← hW2]; exact (Below.refl _ _).alloc (Nat.le_refl _) _
  have h2 := h1.below hb2
  have g5 := (gc0 h2).2.2.2.2.2
  have g5f := h2.blk.frozen 5
  have HG3 := hide (h2.fuel (f' := f - 1))
  have HW3 : Hid (Gw (GnX c vi) w (W2.setCell ⟨c.G, 5, none⟩ (.int .i64 (f - 1)))) := (gwB (hg1.mono (fun _ _ g => .inl g)) hb2).trans (Gw.set W2 c.G 5 _) (fun _ _ g => .inr (.inl g))
  rw [hW2] at hc1
  have hW := hW2
  clear h1 hg1 h2 hb2 HN g0 hW2
  have tlt3 : decide ((mm : Int) < 3) = false := decide_eq_false (by omega)
  have teq3 : ((mm : Int) == 3) = false := by rw [beq_eq_false_iff_ne]; omega
  have teq4 : ((mm : Int) == 4) = false := by rw [beq_eq_false_iff_ne]; omega
  have teq5 : ((mm : Int) == 5) = false := by rw [beq_eq_false_iff_ne]; omega
  have teq6 : ((mm : Int) == 6) = false := by rw [beq_eq_false_iff_ne]; omega
  have teq7 : ((mm : Int) == 7) = false := by rw [beq_eq_false_iff_ne]; omega
  have tlt11 : decide ((mm : Int) < 11) = false := decide_eq_false (by omega)
  have teq11 : ((mm : Int) == 11) = false := by rw [beq_eq_false_iff_ne]; omega
  have teq12 : ((mm : Int) == 12) = true := by rw [beq_iff_eq]; omega
  have tf : decide (f - 1 < 0) = false := decide_eq_false (by omega)
  have g5a := (gc0 HG3.out).2.2.2.2.2
  obtain ⟨kq, hkq⟩ : ∃ d, k / 64 = d := ⟨_, rfl⟩
  have hq64 : IntKind.i64.wrap ((k : Int) / 64) = (kq : Int) := by rw [IntKind.wrap_i64]; omega
  obtain ⟨k2, hk2⟩ : ∃ d, kq % 2 = d := ⟨_, rfl⟩
  have hk2m : (kq : Int).tmod 2 = (k2 : Int) := by rw [← hk2]; rfl
  obtain ⟨n, hn⟩ : ∃ n, 1 + k2 = n := ⟨_, rfl⟩
  have hn2 : n ≤ 2 := by omega
  have hnw : IntKind.i64.wrap (1 + (k2 : Int)) = (n : Int) := by rw [IntKind.wrap_i64]; omega
  rw [hkq, hk2, hn] at HGS
  have hsb := SBd_le m (by omega)
  have HS := hide hS
  have HLL := hide hL
  have bl := gB_le hL n (i + 1) (ints ++ [⟨#[105]⟩]) (f - 1 - 1) (mem_i hns)
  obtain ⟨sb, hsbe⟩ : ∃ x, SBd m = x := ⟨_, rfl⟩
  rw [hsbe] at hsb bl
  have bl2 : n * sb ≤ 2 * sb := Nat.mul_le_mul_right _ hn2
  obtain ⟨BB, hBB⟩ : ∃ Z, gB (gS e m) n (i + 1) (ints ++ [⟨#[105]⟩]) (f - 1 - 1) = Z := ⟨_, rfl⟩
  rw [hBB] at HGS bl
  have HBB := hide hBB
  obtain ⟨X, hX⟩ : ∃ Z, BB.1 = Z := ⟨_, rfl⟩
  rw [hX] at HGS bl
  have HX := hide hX
  have HM : Hid (0 < m ∧ m ≤ 15) := ⟨by omega, by omega⟩
  have HDD := hide (fun V => l2dG_any j V (by omega))
  have dl := decB_le j
  obtain ⟨D, hD⟩ : ∃ Z, decB j = Z := ⟨_, rfl⟩
  rw [hD] at HGS
  rw [hD] at HDD dl
  clear hD hBB hX hsbe hS hL hkq hk2 hn
  have s0 : ¬ 9223372036854775807 < 13 + D.size := by omega
  have s1 : ¬ 9223372036854775807 < 13 + D.size + 1 := by omega
  have s2 : ¬ 9223372036854775807 < 13 + D.size + 1 + X.size := by omega
  go_wp2_with fail
  refine (HDD.out _).mono ?_
  rintro r w4 ⟨rfl, hb4⟩
  have HG4 := hide (HG3.out.below hb4)
  have HW4 := hide (gwB HW3.out hb4)
  have HIN := hide (inner_anyi c e (i + 1) vi vt ints (f - 1) w4 HG4.out (by omega) (by have := HHL.out; omega))
  clear hb4 HDD hc1 g5 g5f hW g5a
  go_wp2_with fail
  refine HIN.out.mono ?_
  rintro r w5 ⟨G', vi', rfl, hG', hv', h5, hb5⟩
  have HBL := hide (block_gn m HS.out { c with G := G' } e HLL.out n (i + 1) vi' vt (ints ++ [⟨#[105]⟩]) (f - 1 - 1) w5 h5 hn2 (by omega) HM.out (by omega) (by have := HHL.out; simp; omega))
  rw [HBB.out, HX.out] at HBL
  have HBK : Hid (∀ (w'' : World) (i' : Nat) (vi2 : Value) (ints2 : List ByteArray) (f2 : Int), Gw (GnX { c with G := G' } vi') w5 w'' → GnAt w'' { c with G := G' } e i' vi2 vt ints2 f2 → GnAt w'' c e i' vi vt ints (f - 1) ∧ Gw (· = c.R) w4 w'') := fun _ _ _ _ _ a b => HG4.out.back hG' hv' hb5 a b
  clear h5 hb5 hG' hv' HIN
  go_wp2_with fail
  refine HBL.out.mono ?_
  rintro r w6 ⟨vi2, ints2, f2, rfl, h6, hg6⟩
  have HFF := hide (HBK.out _ _ _ _ _ hg6 h6)
  clear h6 hg6 HBL HBK
  go_wp2
  go_ret
  rw [HGS.out]
  exact ⟨vi, rfl, HFF.out.1, gwX HW4.out HFF.out.2, .inl rfl⟩
set_option maxHeartbeats 8000000 in
set_option maxRecDepth 1000000 in
theorem stat_ifc (m : Nat) (hS : StC m) {e : GE} (hL : StL e m) (c : GnC) (i : Nat) (vi vt : Value) (ints : List ByteArray) (f : Int) (w : World) (h : GnAt w c e i vi vt ints f) (hf : f < ((m + 1 : Nat) : Int)) (hm : m + 1 ≤ 15) (hf2 : -100 ≤ f) (hil : ints.length + 4 * (m + 1) ≤ 9000) (hcase : e.nx i % 16 = 13 ∧ 0 ≤ f - 1 ∧ e.nx i / 16 % 3 = 2) :
    Calls Tryz.prog 35 #[.pointer (some ⟨c.G, 0, none⟩)] w (StQ c e vt (gS e (m + 1) i ints f) f vi w) := by
  have HN := hide (next_gn h)
  have g0 := (gc0 h).1
  have hk6 := e.nx_lt i
  have hns := h.ns
  have hts := h.ts
  have HIL := hide h.il
  have HHL := hide hil
  have HHF := hide hf2
  have HHM := hide hm
  have HHG := hide hf
  have HGS : Hid (gS e (m + 1) i ints f = ⟨(({ data := #[105, 102, 32] } : ByteArray) ++ gD e ints (i + 1) ++ ({ data := #[32] } : ByteArray) ++ (gB (gS e m) 1 (i + 4) ints (f - 1 - 1)).1), (gB (gS e m) 1 (i + 4) ints (f - 1 - 1)).2, ints⟩) := by
    show _ = _
    unfold gS
    simp only
    rw [if_neg (by omega), if_neg (by omega), if_neg (by omega), if_neg (by omega), if_neg (by omega), if_neg (by omega), if_neg (by omega), if_neg (by omega), if_neg (by omega), if_pos (by omega)]
    unfold gE
    rw [if_neg (by omega), if_neg (by omega)]
  obtain ⟨k, hk⟩ : ∃ k, e.nx i = k := ⟨_, rfl⟩
  rw [hk] at HN hk6 hcase
  try rw [hk] at HGS
  obtain ⟨j, hj⟩ : ∃ j, k / 16 % 4 = j := ⟨_, rfl⟩
  obtain ⟨kd, hkd⟩ : ∃ d, k / 16 = d := ⟨_, rfl⟩
  have hqw : IntKind.i64.wrap ((k : Int) / 16) = (kd : Int) := by rw [IntKind.wrap_i64]; omega
  have hmj : (kd : Int).tmod 4 = (j : Int) := by rw [← hj, ← hkd]; rfl
  have hj4 : j < 4 := by omega
  have hji : (j : Int) < 4 := by omega
  have hcl : ∀ W : World, (W.alloc (.cells #[.string ({ data := #[110, 111, 114, 116, 104] } : ByteArray), .string ({ data := #[101, 97, 115, 116] } : ByteArray), .string ({ data := #[115, 111, 117, 116, 104] } : ByteArray), .string ({ data := #[119, 101, 115, 116] } : ByteArray)] 9)).cell? ⟨W.heap.size, j, none⟩ = some (.string (wyW.getD j ⟨#[]⟩)) := fun W => by
    rw [cell_fresh]
    have h6 : j = 0 ∨ j = 1 ∨ j = 2 ∨ j = 3 := by omega
    rcases h6 with rfl | rfl | rfl | rfl <;> rfl
  have o2 := getD_le (L := wyW) (n := 5) (by decide) j
  try rw [hj] at HGS
  obtain ⟨O, hO⟩ : ∃ Z, wyW.getD j ⟨#[]⟩ = Z := ⟨_, rfl⟩
  rw [hO] at o2
  try rw [hO] at HGS
  simp only [hO] at hcl
  have a1 : ¬ 9223372036854775807 < 1 + O.size := by omega
  have a2 : ¬ 9223372036854775807 < 1 + O.size + 2 := by omega
  obtain ⟨mm, hmm⟩ : ∃ m, k % 16 = m := ⟨_, rfl⟩
  have hm16 : (k : Int).tmod 16 = (mm : Int) := by rw [← hmm]; rfl
  rw [hmm] at hcase
  have hfw : IntKind.i64.wrap (f - 1) = f - 1 := by rw [IntKind.wrap_i64]; omega
  have HCL := hide hcl
  have HHK := hide hk
  have HKD := hide hkd
  have HMM := hide hmm
  clear h hk hj hO hj4 hcl hkd hmm
  go_enter Tryz.func35, Tryz.ntmps35
  go_wp2_with fail
  refine HN.out.mono ?_
  rintro r w1 ⟨rfl, h1, hg1⟩
  have hc1 := HCL.out w1
  obtain ⟨W2, hW2⟩ : ∃ W, w1.alloc (.cells #[.string ({ data := #[110, 111, 114, 116, 104] } : ByteArray), .string ({ data := #[101, 97, 115, 116] } : ByteArray), .string ({ data := #[115, 111, 117, 116, 104] } : ByteArray), .string ({ data := #[119, 101, 115, 116] } : ByteArray)] 9) = W := ⟨_, rfl⟩
  have hb2 : Below w1.heap.size w1 W2 := by rw [← hW2]; exact (Below.refl _ _).alloc (Nat.le_refl _) _
  have h2 := h1.below hb2
  have g5 := (gc0 h2).2.2.2.2.2
  have g5f := h2.blk.frozen 5
  have HG3 := hide (h2.fuel (f' := f - 1))
  have HW3 : Hid (Gw (GnX c vi) w (W2.setCell ⟨c.G, 5, none⟩ (.int .i64 (f - 1)))) := (gwB (hg1.mono (fun _ _ g => .inl g)) hb2).trans (Gw.set W2 c.G 5 _) (fun _ _ g => .inr (.inl g))
  rw [hW2] at hc1
  have hW := hW2
  clear h1 hg1 h2 hb2 HN g0 hW2
  have tlt3 : decide ((mm : Int) < 3) = false := decide_eq_false (by omega)
  have teq3 : ((mm : Int) == 3) = false := by rw [beq_eq_false_iff_ne]; omega
  have teq4 : ((mm : Int) == 4) = false := by rw [beq_eq_false_iff_ne]; omega
  have teq5 : ((mm : Int) == 5) = false := by rw [beq_eq_false_iff_ne]; omega
  have teq6 : ((mm : Int) == 6) = false := by rw [beq_eq_false_iff_ne]; omega
  have teq7 : ((mm : Int) == 7) = false := by rw [beq_eq_false_iff_ne]; omega
  have tlt11 : decide ((mm : Int) < 11) = false := decide_eq_false (by omega)
  have teq11 : ((mm : Int) == 11) = false := by rw [beq_eq_false_iff_ne]; omega
  have teq12 : ((mm : Int) == 12) = false := by rw [beq_eq_false_iff_ne]; omega
  have teq13 : ((mm : Int) == 13) = true := by rw [beq_iff_eq]; omega
  have tf : decide (f - 1 < 0) = false := decide_eq_false (by omega)
  have g5a := (gc0 HG3.out).2.2.2.2.2
  have hsb := SBd_le m (by omega)
  have HS := hide hS
  have HLL := hide hL
  have bl := gB_le hL 1 (i + 4) ints (f - 1 - 1) hns
  obtain ⟨sb, hsbe⟩ : ∃ x, SBd m = x := ⟨_, rfl⟩
  have HM : Hid (0 < m ∧ m ≤ 15) := ⟨by omega, by omega⟩
  have cl := gD_le (e := e) hns (i + 1)
  rw [hsbe] at hsb bl
  obtain ⟨BB, hBB⟩ : ∃ Z, gB (gS e m) 1 (i + 4) ints (f - 1 - 1) = Z := ⟨_, rfl⟩
  rw [hBB] at HGS bl
  have HBB := hide hBB
  obtain ⟨X, hX⟩ : ∃ Z, BB.1 = Z := ⟨_, rfl⟩
  rw [hX] at HGS bl
  have HX := hide hX
  obtain ⟨I2, hI2⟩ : ∃ Z, BB.2 = Z := ⟨_, rfl⟩
  try rw [hI2] at HGS
  have HI2 := hide hI2
  obtain ⟨C, hC⟩ : ∃ Z, gD e ints (i + 1) = Z := ⟨_, rfl⟩
  rw [hC] at HGS cl
  have HCO := hide (cond_gn c e (i + 1) vi vt ints (f - 1) _ HG3.out)
  rw [hC] at HCO
  obtain ⟨d, hd⟩ : ∃ d, kd % 3 = d := ⟨_, rfl⟩
  have hdm : (kd : Int).tmod 3 = (d : Int) := by rw [← hd]; rfl
  have hd0 : d = 2 := by have h1 := hcase.2.2; have h2 := HKD.out; omega
  have tA : ((d : Int) == 0) = false := by rw [hd0]; rfl
  have tB : ((d : Int) == 1) = false := by rw [hd0]; rfl
  clear hd hd0 hBB hX hI2 hC hsbe hS hL
  have s0 : ¬ 9223372036854775807 < 3 + C.size := by omega
  have s1 : ¬ 9223372036854775807 < 3 + C.size + 1 := by omega
  have s2 : ¬ 9223372036854775807 < 3 + C.size + 1 + X.size := by omega
  go_wp2_with fail
  refine HCO.out.mono ?_
  rintro r w4 ⟨rfl, h4, hg4⟩
  have HG4 := hide h4
  have HW4 := hide (gwX HW3.out hg4)
  clear h4 hg4 HCO hc1 g5 g5f hW g5a
  have HINA := hide (inner_any c e (i + 4) vi vt ints (f - 1) w4 HG4.out (by omega) (by have := HHL.out; omega))
  go_wp2_with fail
  refine HINA.out.mono ?_
  rintro r uA ⟨GA, vxA, rfl, hGA, hvA, h5A, hb5A⟩
  have HBLA := hide (block_gn m HS.out { c with G := GA } e HLL.out 1 (i + 4) vxA vt ints (f - 1 - 1) uA h5A (by omega) (by omega) HM.out (by omega) (by have := HHL.out; omega))
  rw [HBB.out, HX.out, HI2.out] at HBLA
  have HBKA : Hid (∀ (w'' : World) (i' : Nat) (vi2 : Value) (ints2 : List ByteArray) (f2 : Int), Gw (GnX { c with G := GA } vxA) uA w'' → GnAt w'' { c with G := GA } e i' vi2 vt ints2 f2 → GnAt w'' c e i' vi vt ints (f - 1) ∧ Gw (· = c.R) w4 w'') := fun _ _ _ _ _ a b => GnAt.back HG4.out hGA hvA hb5A a b
  clear h5A hb5A hGA hvA HINA
  go_wp2_with fail
  refine HBLA.out.mono ?_
  rintro r xA ⟨vi2A, ints2A, f2A, rfl, h6A, hg6A⟩
  have HFFA := hide (HBKA.out _ _ _ _ _ hg6A h6A)
  have HGXA := hide HFFA.out.1
  have HWXA := hide (gwX HW4.out HFFA.out.2)
  clear h6A hg6A HBLA HBKA HFFA
  go_wp2
  go_ret
  rw [HGS.out]
  exact ⟨vi, rfl, HGXA.out, HWXA.out, .inl rfl⟩
set_option maxHeartbeats 8000000 in
set_option maxRecDepth 1000000 in
theorem stat_ifa (m : Nat) (hS : StC m) {e : GE} (hL : StL e m) (c : GnC) (i : Nat) (vi vt : Value) (ints : List ByteArray) (f : Int) (w : World) (h : GnAt w c e i vi vt ints f) (hf : f < ((m + 1 : Nat) : Int)) (hm : m + 1 ≤ 15) (hf2 : -100 ≤ f) (hil : ints.length + 4 * (m + 1) ≤ 9000) (hcase : e.nx i % 16 = 13 ∧ 0 ≤ f - 1 ∧ e.nx i / 16 % 3 = 0) :
    Calls Tryz.prog 35 #[.pointer (some ⟨c.G, 0, none⟩)] w (StQ c e vt (gS e (m + 1) i ints f) f vi w) := by
  have HN := hide (next_gn h)
  have g0 := (gc0 h).1
  have hk6 := e.nx_lt i
  have hns := h.ns
  have hts := h.ts
  have HIL := hide h.il
  have HHL := hide hil
  have HHF := hide hf2
  have HHM := hide hm
  have HHG := hide hf
  have HGS : Hid (gS e (m + 1) i ints f = ⟨(({ data := #[105, 102, 32] } : ByteArray) ++ gD e ints (i + 1) ++ ({ data := #[32] } : ByteArray) ++ (gB (gS e m) 1 (i + 4) ints (f - 1 - 1)).1) ++ (({ data := #[101, 108, 115, 101, 32] } : ByteArray) ++ (gB (gS e m) 1 (gB (gS e m) 1 (i + 4) ints (f - 1 - 1)).2 ints (f - 1 - 1)).1), (gB (gS e m) 1 (gB (gS e m) 1 (i + 4) ints (f - 1 - 1)).2 ints (f - 1 - 1)).2, ints⟩) := by
    show _ = _
    unfold gS
    simp only
    rw [if_neg (by omega), if_neg (by omega), if_neg (by omega), if_neg (by omega), if_neg (by omega), if_neg (by omega), if_neg (by omega), if_neg (by omega), if_neg (by omega), if_pos (by omega)]
    unfold gE
    rw [if_pos (by omega)]
  obtain ⟨k, hk⟩ : ∃ k, e.nx i = k := ⟨_, rfl⟩
  rw [hk] at HN hk6 hcase
  try rw [hk] at HGS
  obtain ⟨j, hj⟩ : ∃ j, k / 16 % 4 = j := ⟨_, rfl⟩
  obtain ⟨kd, hkd⟩ : ∃ d, k / 16 = d := ⟨_, rfl⟩
  have hqw : IntKind.i64.wrap ((k : Int) / 16) = (kd : Int) := by rw [IntKind.wrap_i64]; omega
  have hmj : (kd : Int).tmod 4 = (j : Int) := by rw [← hj, ← hkd]; rfl
  have hj4 : j < 4 := by omega
  have hji : (j : Int) < 4 := by omega
  have hcl : ∀ W : World, (W.alloc (.cells #[.string ({ data := #[110, 111, 114, 116, 104] } : ByteArray), .string ({ data := #[101, 97, 115, 116] } : ByteArray), .string ({ data := #[115, 111, 117, 116, 104] } : ByteArray), .string ({ data := #[119, 101, 115, 116] } : ByteArray)] 9)).cell? ⟨W.heap.size, j, none⟩ = some (.string (wyW.getD j ⟨#[]⟩)) := fun W => by
    rw [cell_fresh]
    have h6 : j = 0 ∨ j = 1 ∨ j = 2 ∨ j = 3 := by omega
    rcases h6 with rfl | rfl | rfl | rfl <;> rfl
  have o2 := getD_le (L := wyW) (n := 5) (by decide) j
  try rw [hj] at HGS
  obtain ⟨O, hO⟩ : ∃ Z, wyW.getD j ⟨#[]⟩ = Z := ⟨_, rfl⟩
  rw [hO] at o2
  try rw [hO] at HGS
  simp only [hO] at hcl
  have a1 : ¬ 9223372036854775807 < 1 + O.size := by omega
  have a2 : ¬ 9223372036854775807 < 1 + O.size + 2 := by omega
  obtain ⟨mm, hmm⟩ : ∃ m, k % 16 = m := ⟨_, rfl⟩
  have hm16 : (k : Int).tmod 16 = (mm : Int) := by rw [← hmm]; rfl
  rw [hmm] at hcase
  have hfw : IntKind.i64.wrap (f - 1) = f - 1 := by rw [IntKind.wrap_i64]; omega
  have HCL := hide hcl
  have HHK := hide hk
  have HKD := hide hkd
  have HMM := hide hmm
  clear h hk hj hO hj4 hcl hkd hmm
  go_enter Tryz.func35, Tryz.ntmps35
  go_wp2_with fail
  refine HN.out.mono ?_
  rintro r w1 ⟨rfl, h1, hg1⟩
  have hc1 := HCL.out w1
  obtain ⟨W2, hW2⟩ : ∃ W, w1.alloc (.cells #[.string ({ data := #[110, 111, 114, 116, 104] } : ByteArray), .string ({ data := #[101, 97, 115, 116] } : ByteArray), .string ({ data := #[115, 111, 117, 116, 104] } : ByteArray), .string ({ data := #[119, 101, 115, 116] } : ByteArray)] 9) = W := ⟨_, rfl⟩
  have hb2 : Below w1.heap.size w1 W2 := by rw [← hW2]; exact (Below.refl _ _).alloc (Nat.le_refl _) _
  have h2 := h1.below hb2
  have g5 := (gc0 h2).2.2.2.2.2
  have g5f := h2.blk.frozen 5
  have HG3 := hide (h2.fuel (f' := f - 1))
  have HW3 : Hid (Gw (GnX c vi) w (W2.setCell ⟨c.G, 5, none⟩ (.int .i64 (f - 1)))) := (gwB (hg1.mono (fun _ _ g => .inl g)) hb2).trans (Gw.set W2 c.G 5 _) (fun _ _ g => .inr (.inl g))
  rw [hW2] at hc1
  have hW := hW2
  clear h1 hg1 h2 hb2 HN g0 hW2
  have tlt3 : decide ((mm : Int) < 3) = false := decide_eq_false (by omega)
  have teq3 : ((mm : Int) == 3) = false := by rw [beq_eq_false_iff_ne]; omega
  have teq4 : ((mm : Int) == 4) = false := by rw [beq_eq_false_iff_ne]; omega
  have teq5 : ((mm : Int) == 5) = false := by rw [beq_eq_false_iff_ne]; omega
  have teq6 : ((mm : Int) == 6) = false := by rw [beq_eq_false_iff_ne]; omega
  have teq7 : ((mm : Int) == 7) = false := by rw [beq_eq_false_iff_ne]; omega
  have tlt11 : decide ((mm : Int) < 11) = false := decide_eq_false (by omega)
  have teq11 : ((mm : Int) == 11) = false := by rw [beq_eq_false_iff_ne]; omega
  have teq12 : ((mm : Int) == 12) = false := by rw [beq_eq_false_iff_ne]; omega
  have teq13 : ((mm : Int) == 13) = true := by rw [beq_iff_eq]; omega
  have tf : decide (f - 1 < 0) = false := decide_eq_false (by omega)
  have g5a := (gc0 HG3.out).2.2.2.2.2
  have hsb := SBd_le m (by omega)
  have HS := hide hS
  have HLL := hide hL
  have bl := gB_le hL 1 (i + 4) ints (f - 1 - 1) hns
  obtain ⟨sb, hsbe⟩ : ∃ x, SBd m = x := ⟨_, rfl⟩
  have HM : Hid (0 < m ∧ m ≤ 15) := ⟨by omega, by omega⟩
  have cl := gD_le (e := e) hns (i + 1)
  rw [hsbe] at hsb bl
  obtain ⟨BB, hBB⟩ : ∃ Z, gB (gS e m) 1 (i + 4) ints (f - 1 - 1) = Z := ⟨_, rfl⟩
  rw [hBB] at HGS bl
  have HBB := hide hBB
  obtain ⟨X, hX⟩ : ∃ Z, BB.1 = Z := ⟨_, rfl⟩
  rw [hX] at HGS bl
  have HX := hide hX
  obtain ⟨I2, hI2⟩ : ∃ Z, BB.2 = Z := ⟨_, rfl⟩
  try rw [hI2] at HGS
  have HI2 := hide hI2
  obtain ⟨C, hC⟩ : ∃ Z, gD e ints (i + 1) = Z := ⟨_, rfl⟩
  rw [hC] at HGS cl
  have HCO := hide (cond_gn c e (i + 1) vi vt ints (f - 1) _ HG3.out)
  rw [hC] at HCO
  have bl2 := gB_le (HLL.out) 1 I2 ints (f - 1 - 1) hns
  rw [hsbe] at bl2
  obtain ⟨B2, hB2⟩ : ∃ Z, gB (gS e m) 1 I2 ints (f - 1 - 1) = Z := ⟨_, rfl⟩
  rw [hB2] at HGS bl2
  have HB2 := hide hB2
  obtain ⟨Y, hY⟩ : ∃ Z, B2.1 = Z := ⟨_, rfl⟩
  rw [hY] at HGS bl2
  have HY := hide hY
  have z1 : ¬ 9223372036854775807 < 5 + Y.size := by omega
  have z2 : ¬ 9223372036854775807 < 3 + C.size + 1 + X.size + (5 + Y.size) := by omega
  clear hB2 hY
  obtain ⟨d, hd⟩ : ∃ d, kd % 3 = d := ⟨_, rfl⟩
  have hdm : (kd : Int).tmod 3 = (d : Int) := by rw [← hd]; rfl
  have hd0 : d = 0 := by have h1 := hcase.2.2; have h2 := HKD.out; omega
  have tA : ((d : Int) == 0) = true := by rw [hd0]; rfl
  have tB : ((d : Int) == 1) = false := by rw [hd0]; rfl
  clear hd hd0 hBB hX hI2 hC hsbe hS hL
  have s0 : ¬ 9223372036854775807 < 3 + C.size := by omega
  have s1 : ¬ 9223372036854775807 < 3 + C.size + 1 := by omega
  have s2 : ¬ 9223372036854775807 < 3 + C.size + 1 + X.size := by omega
  go_wp2_with fail
  refine HCO.out.mono ?_
  rintro r w4 ⟨rfl, h4, hg4⟩
  have HG4 := hide h4
  have HW4 := hide (gwX HW3.out hg4)
  clear h4 hg4 HCO hc1 g5 g5f hW g5a
  have HINA := hide (inner_any c e (i + 4) vi vt ints (f - 1) w4 HG4.out (by omega) (by have := HHL.out; omega))
  go_wp2_with fail
  refine HINA.out.mono ?_
  rintro r uA ⟨GA, vxA, rfl, hGA, hvA, h5A, hb5A⟩
  have HBLA := hide (block_gn m HS.out { c with G := GA } e HLL.out 1 (i + 4) vxA vt ints (f - 1 - 1) uA h5A (by omega) (by omega) HM.out (by omega) (by have := HHL.out; omega))
  rw [HBB.out, HX.out, HI2.out] at HBLA
  have HBKA : Hid (∀ (w'' : World) (i' : Nat) (vi2 : Value) (ints2 : List ByteArray) (f2 : Int), Gw (GnX { c with G := GA } vxA) uA w'' → GnAt w'' { c with G := GA } e i' vi2 vt ints2 f2 → GnAt w'' c e i' vi vt ints (f - 1) ∧ Gw (· = c.R) w4 w'') := fun _ _ _ _ _ a b => GnAt.back HG4.out hGA hvA hb5A a b
  clear h5A hb5A hGA hvA HINA
  go_wp2_with fail
  refine HBLA.out.mono ?_
  rintro r xA ⟨vi2A, ints2A, f2A, rfl, h6A, hg6A⟩
  have HFFA := hide (HBKA.out _ _ _ _ _ hg6A h6A)
  have HGXA := hide HFFA.out.1
  have HWXA := hide (gwX HW4.out HFFA.out.2)
  clear h6A hg6A HBLA HBKA HFFA
  have HINB := hide (inner_any c e (I2) vi vt ints (f - 1) xA HGXA.out (by omega) (by have := HHL.out; omega))
  go_wp2_with fail
  refine HINB.out.mono ?_
  rintro r uB ⟨GB, vxB, rfl, hGB, hvB, h5B, hb5B⟩
  have HBLB := hide (block_gn m HS.out { c with G := GB } e HLL.out 1 (I2) vxB vt ints (f - 1 - 1) uB h5B (by omega) (by omega) HM.out (by omega) (by have := HHL.out; omega))
  rw [HB2.out, HY.out] at HBLB
  have HBKB : Hid (∀ (w'' : World) (i' : Nat) (vi2 : Value) (ints2 : List ByteArray) (f2 : Int), Gw (GnX { c with G := GB } vxB) uB w'' → GnAt w'' { c with G := GB } e i' vi2 vt ints2 f2 → GnAt w'' c e i' vi vt ints (f - 1) ∧ Gw (· = c.R) xA w'') := fun _ _ _ _ _ a b => GnAt.back HGXA.out hGB hvB hb5B a b
  clear h5B hb5B hGB hvB HINB
  go_wp2_with fail
  refine HBLB.out.mono ?_
  rintro r xB ⟨vi2B, ints2B, f2B, rfl, h6B, hg6B⟩
  have HFFB := hide (HBKB.out _ _ _ _ _ hg6B h6B)
  have HGXB := hide HFFB.out.1
  have HWXB := hide (gwX HWXA.out HFFB.out.2)
  clear h6B hg6B HBLB HBKB HFFB
  go_wp2
  go_ret
  rw [HGS.out]
  exact ⟨vi, rfl, HGXB.out, HWXB.out, .inl rfl⟩
set_option maxHeartbeats 8000000 in
set_option maxRecDepth 1000000 in
theorem stat_ifb (m : Nat) (hS : StC m) {e : GE} (hL : StL e m) (c : GnC) (i : Nat) (vi vt : Value) (ints : List ByteArray) (f : Int) (w : World) (h : GnAt w c e i vi vt ints f) (hf : f < ((m + 1 : Nat) : Int)) (hm : m + 1 ≤ 15) (hf2 : -100 ≤ f) (hil : ints.length + 4 * (m + 1) ≤ 9000) (hcase : e.nx i % 16 = 13 ∧ 0 ≤ f - 1 ∧ e.nx i / 16 % 3 = 1) :
    Calls Tryz.prog 35 #[.pointer (some ⟨c.G, 0, none⟩)] w (StQ c e vt (gS e (m + 1) i ints f) f vi w) := by
  have HN := hide (next_gn h)
  have g0 := (gc0 h).1
  have hk6 := e.nx_lt i
  have hns := h.ns
  have hts := h.ts
  have HIL := hide h.il
  have HHL := hide hil
  have HHF := hide hf2
  have HHM := hide hm
  have HHG := hide hf
  have HGS : Hid (gS e (m + 1) i ints f = ⟨(({ data := #[105, 102, 32] } : ByteArray) ++ gD e ints (i + 1) ++ ({ data := #[32] } : ByteArray) ++ (gB (gS e m) 1 (i + 4) ints (f - 1 - 1)).1) ++ (({ data := #[101, 108, 115, 101, 32, 105, 102, 32] } : ByteArray) ++ gD e ints (gB (gS e m) 1 (i + 4) ints (f - 1 - 1)).2 ++ ({ data := #[32] } : ByteArray) ++ (gB (gS e m) 1 ((gB (gS e m) 1 (i + 4) ints (f - 1 - 1)).2 + 3) ints (f - 1 - 1)).1), (gB (gS e m) 1 ((gB (gS e m) 1 (i + 4) ints (f - 1 - 1)).2 + 3) ints (f - 1 - 1)).2, ints⟩) := by
    show _ = _
    unfold gS
    simp only
    rw [if_neg (by omega), if_neg (by omega), if_neg (by omega), if_neg (by omega), if_neg (by omega), if_neg (by omega), if_neg (by omega), if_neg (by omega), if_neg (by omega), if_pos (by omega)]
    unfold gE
    rw [if_neg (by omega), if_pos (by omega)]
  obtain ⟨k, hk⟩ : ∃ k, e.nx i = k := ⟨_, rfl⟩
  rw [hk] at HN hk6 hcase
  try rw [hk] at HGS
  obtain ⟨j, hj⟩ : ∃ j, k / 16 % 4 = j := ⟨_, rfl⟩
  obtain ⟨kd, hkd⟩ : ∃ d, k / 16 = d := ⟨_, rfl⟩
  have hqw : IntKind.i64.wrap ((k : Int) / 16) = (kd : Int) := by rw [IntKind.wrap_i64]; omega
  have hmj : (kd : Int).tmod 4 = (j : Int) := by rw [← hj, ← hkd]; rfl
  have hj4 : j < 4 := by omega
  have hji : (j : Int) < 4 := by omega
  have hcl : ∀ W : World, (W.alloc (.cells #[.string ({ data := #[110, 111, 114, 116, 104] } : ByteArray), .string ({ data := #[101, 97, 115, 116] } : ByteArray), .string ({ data := #[115, 111, 117, 116, 104] } : ByteArray), .string ({ data := #[119, 101, 115, 116] } : ByteArray)] 9)).cell? ⟨W.heap.size, j, none⟩ = some (.string (wyW.getD j ⟨#[]⟩)) := fun W => by
    rw [cell_fresh]
    have h6 : j = 0 ∨ j = 1 ∨ j = 2 ∨ j = 3 := by omega
    rcases h6 with rfl | rfl | rfl | rfl <;> rfl
  have o2 := getD_le (L := wyW) (n := 5) (by decide) j
  try rw [hj] at HGS
  obtain ⟨O, hO⟩ : ∃ Z, wyW.getD j ⟨#[]⟩ = Z := ⟨_, rfl⟩
  rw [hO] at o2
  try rw [hO] at HGS
  simp only [hO] at hcl
  have a1 : ¬ 9223372036854775807 < 1 + O.size := by omega
  have a2 : ¬ 9223372036854775807 < 1 + O.size + 2 := by omega
  obtain ⟨mm, hmm⟩ : ∃ m, k % 16 = m := ⟨_, rfl⟩
  have hm16 : (k : Int).tmod 16 = (mm : Int) := by rw [← hmm]; rfl
  rw [hmm] at hcase
  have hfw : IntKind.i64.wrap (f - 1) = f - 1 := by rw [IntKind.wrap_i64]; omega
  have HCL := hide hcl
  have HHK := hide hk
  have HKD := hide hkd
  have HMM := hide hmm
  clear h hk hj hO hj4 hcl hkd hmm
  go_enter Tryz.func35, Tryz.ntmps35
  go_wp2_with fail
  refine HN.out.mono ?_
  rintro r w1 ⟨rfl, h1, hg1⟩
  have hc1 := HCL.out w1
  obtain ⟨W2, hW2⟩ : ∃ W, w1.alloc (.cells #[.string ({ data := #[110, 111, 114, 116, 104] } : ByteArray), .string ({ data := #[101, 97, 115, 116] } : ByteArray), .string ({ data := #[115, 111, 117, 116, 104] } : ByteArray), .string ({ data := #[119, 101, 115, 116] } : ByteArray)] 9) = W := ⟨_, rfl⟩
  have hb2 : Below w1.heap.size w1 W2 := by rw [← hW2]; exact (Below.refl _ _).alloc (Nat.le_refl _) _
  have h2 := h1.below hb2
  have g5 := (gc0 h2).2.2.2.2.2
  have g5f := h2.blk.frozen 5
  have HG3 := hide (h2.fuel (f' := f - 1))
  have HW3 : Hid (Gw (GnX c vi) w (W2.setCell ⟨c.G, 5, none⟩ (.int .i64 (f - 1)))) := (gwB (hg1.mono (fun _ _ g => .inl g)) hb2).trans (Gw.set W2 c.G 5 _) (fun _ _ g => .inr (.inl g))
  rw [hW2] at hc1
  have hW := hW2
  clear h1 hg1 h2 hb2 HN g0 hW2
  have tlt3 : decide ((mm : Int) < 3) = false := decide_eq_false (by omega)
  have teq3 : ((mm : Int) == 3) = false := by rw [beq_eq_false_iff_ne]; omega
  have teq4 : ((mm : Int) == 4) = false := by rw [beq_eq_false_iff_ne]; omega
  have teq5 : ((mm : Int) == 5) = false := by rw [beq_eq_false_iff_ne]; omega
  have teq6 : ((mm : Int) == 6) = false := by rw [beq_eq_false_iff_ne]; omega
  have teq7 : ((mm : Int) == 7) = false := by rw [beq_eq_false_iff_ne]; omega
  have tlt11 : decide ((mm : Int) < 11) = false := decide_eq_false (by omega)
  have teq11 : ((mm : Int) == 11) = false := by rw [beq_eq_false_iff_ne]; omega
  have teq12 : ((mm : Int) == 12) = false := by rw [beq_eq_false_iff_ne]; omega
  have teq13 : ((mm : Int) == 13) = true := by rw [beq_iff_eq]; omega
  have tf : decide (f - 1 < 0) = false := decide_eq_false (by omega)
  have g5a := (gc0 HG3.out).2.2.2.2.2
  have hsb := SBd_le m (by omega)
  have HS := hide hS
  have HLL := hide hL
  have bl := gB_le hL 1 (i + 4) ints (f - 1 - 1) hns
  obtain ⟨sb, hsbe⟩ : ∃ x, SBd m = x := ⟨_, rfl⟩
  have HM : Hid (0 < m ∧ m ≤ 15) := ⟨by omega, by omega⟩
  have cl := gD_le (e := e) hns (i + 1)
  rw [hsbe] at hsb bl
  obtain ⟨BB, hBB⟩ : ∃ Z, gB (gS e m) 1 (i + 4) ints (f - 1 - 1) = Z := ⟨_, rfl⟩
  rw [hBB] at HGS bl
  have HBB := hide hBB
  obtain ⟨X, hX⟩ : ∃ Z, BB.1 = Z := ⟨_, rfl⟩
  rw [hX] at HGS bl
  have HX := hide hX
  obtain ⟨I2, hI2⟩ : ∃ Z, BB.2 = Z := ⟨_, rfl⟩
  try rw [hI2] at HGS
  have HI2 := hide hI2
  obtain ⟨C, hC⟩ : ∃ Z, gD e ints (i + 1) = Z := ⟨_, rfl⟩
  rw [hC] at HGS cl
  have HCO := hide (cond_gn c e (i + 1) vi vt ints (f - 1) _ HG3.out)
  rw [hC] at HCO
  have bl2 := gB_le (HLL.out) 1 (I2 + 3) ints (f - 1 - 1) hns
  rw [hsbe] at bl2
  have cl2 := gD_le (e := e) hns I2
  obtain ⟨B2, hB2⟩ : ∃ Z, gB (gS e m) 1 (I2 + 3) ints (f - 1 - 1) = Z := ⟨_, rfl⟩
  rw [hB2] at HGS bl2
  have HB2 := hide hB2
  obtain ⟨Y, hY⟩ : ∃ Z, B2.1 = Z := ⟨_, rfl⟩
  rw [hY] at HGS bl2
  have HY := hide hY
  obtain ⟨C2, hC2⟩ : ∃ Z, gD e ints I2 = Z := ⟨_, rfl⟩
  rw [hC2] at HGS cl2
  have HC2 := hide hC2
  have z1 : ¬ 9223372036854775807 < 8 + C2.size := by omega
  have z2 : ¬ 9223372036854775807 < 8 + C2.size + 1 := by omega
  have z3 : ¬ 9223372036854775807 < 8 + C2.size + 1 + Y.size := by omega
  have z4 : ¬ 9223372036854775807 < 3 + C.size + 1 + X.size + (8 + C2.size + 1 + Y.size) := by omega
  clear hB2 hY hC2
  obtain ⟨d, hd⟩ : ∃ d, kd % 3 = d := ⟨_, rfl⟩
  have hdm : (kd : Int).tmod 3 = (d : Int) := by rw [← hd]; rfl
  have hd0 : d = 1 := by have h1 := hcase.2.2; have h2 := HKD.out; omega
  have tA : ((d : Int) == 0) = false := by rw [hd0]; rfl
  have tB : ((d : Int) == 1) = true := by rw [hd0]; rfl
  clear hd hd0 hBB hX hI2 hC hsbe hS hL
  have s0 : ¬ 9223372036854775807 < 3 + C.size := by omega
  have s1 : ¬ 9223372036854775807 < 3 + C.size + 1 := by omega
  have s2 : ¬ 9223372036854775807 < 3 + C.size + 1 + X.size := by omega
  go_wp2_with fail
  refine HCO.out.mono ?_
  rintro r w4 ⟨rfl, h4, hg4⟩
  have HG4 := hide h4
  have HW4 := hide (gwX HW3.out hg4)
  clear h4 hg4 HCO hc1 g5 g5f hW g5a
  have HINA := hide (inner_any c e (i + 4) vi vt ints (f - 1) w4 HG4.out (by omega) (by have := HHL.out; omega))
  go_wp2_with fail
  refine HINA.out.mono ?_
  rintro r uA ⟨GA, vxA, rfl, hGA, hvA, h5A, hb5A⟩
  have HBLA := hide (block_gn m HS.out { c with G := GA } e HLL.out 1 (i + 4) vxA vt ints (f - 1 - 1) uA h5A (by omega) (by omega) HM.out (by omega) (by have := HHL.out; omega))
  rw [HBB.out, HX.out, HI2.out] at HBLA
  have HBKA : Hid (∀ (w'' : World) (i' : Nat) (vi2 : Value) (ints2 : List ByteArray) (f2 : Int), Gw (GnX { c with G := GA } vxA) uA w'' → GnAt w'' { c with G := GA } e i' vi2 vt ints2 f2 → GnAt w'' c e i' vi vt ints (f - 1) ∧ Gw (· = c.R) w4 w'') := fun _ _ _ _ _ a b => GnAt.back HG4.out hGA hvA hb5A a b
  clear h5A hb5A hGA hvA HINA
  go_wp2_with fail
  refine HBLA.out.mono ?_
  rintro r xA ⟨vi2A, ints2A, f2A, rfl, h6A, hg6A⟩
  have HFFA := hide (HBKA.out _ _ _ _ _ hg6A h6A)
  have HGXA := hide HFFA.out.1
  have HWXA := hide (gwX HW4.out HFFA.out.2)
  clear h6A hg6A HBLA HBKA HFFA
  have HCP := hide (cond_gn c e I2 vi vt ints (f - 1) xA HGXA.out)
  rw [HC2.out] at HCP
  go_wp2_with fail
  refine HCP.out.mono ?_
  rintro r w7 ⟨rfl, h7, hg7⟩
  have HG7 := hide h7
  have HW7 := hide (gwX HWXA.out hg7)
  clear h7 hg7 HCP
  have HINB := hide (inner_any c e (I2 + 3) vi vt ints (f - 1) w7 HG7.out (by omega) (by have := HHL.out; omega))
  go_wp2_with fail
  refine HINB.out.mono ?_
  rintro r uB ⟨GB, vxB, rfl, hGB, hvB, h5B, hb5B⟩
  have HBLB := hide (block_gn m HS.out { c with G := GB } e HLL.out 1 (I2 + 3) vxB vt ints (f - 1 - 1) uB h5B (by omega) (by omega) HM.out (by omega) (by have := HHL.out; omega))
  rw [HB2.out, HY.out] at HBLB
  have HBKB : Hid (∀ (w'' : World) (i' : Nat) (vi2 : Value) (ints2 : List ByteArray) (f2 : Int), Gw (GnX { c with G := GB } vxB) uB w'' → GnAt w'' { c with G := GB } e i' vi2 vt ints2 f2 → GnAt w'' c e i' vi vt ints (f - 1) ∧ Gw (· = c.R) w7 w'') := fun _ _ _ _ _ a b => GnAt.back HG7.out hGB hvB hb5B a b
  clear h5B hb5B hGB hvB HINB
  go_wp2_with fail
  refine HBLB.out.mono ?_
  rintro r xB ⟨vi2B, ints2B, f2B, rfl, h6B, hg6B⟩
  have HFFB := hide (HBKB.out _ _ _ _ _ hg6B h6B)
  have HGXB := hide HFFB.out.1
  have HWXB := hide (gwX HW7.out HFFB.out.2)
  clear h6B hg6B HBLB HBKB HFFB
  go_wp2
  go_ret
  rw [HGS.out]
  exact ⟨vi, rfl, HGXB.out, HWXB.out, .inl rfl⟩
end Go.Proofs.YthoinjddamlapaaGreatDoor
