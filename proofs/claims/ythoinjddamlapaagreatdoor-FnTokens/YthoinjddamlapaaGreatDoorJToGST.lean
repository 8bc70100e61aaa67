/-
  spec.l9stat.
-/
import Derived.Test.YthoinjddamlapaaGreatDoorJToGBL
namespace Go.Proofs.YthoinjddamlapaaGreatDoor
open Go.RowKit

theorem gwX {c : GnC} {vi : Value} {a b d : World} (h : Gw (GnX c vi) a b) (k : Gw (· = c.R) b d) : Gw (GnX c vi) a d := h.trans k (fun _ _ g => .inl g)
theorem gwB {c : GnC} {vi : Value} {a b d : World} (h : Gw (GnX c vi) a b) (k : Below b.heap.size b d) : Gw (GnX c vi) a d := h.trans (Gw.of_below k (P := fun _ => False)) (fun _ _ g => g.elim)
/-- The fuel was set. -/
theorem GnAt.fuel {w : World} {c : GnC} {e : GE} {i : Nat} {vi vt : Value} {ints : List ByteArray} {f f' : Int} (h : GnAt w c e i vi vt ints f) : GnAt (w.setCell ⟨c.G, 5, none⟩ (.int .i64 f')) c e i vi vt ints f' := by
  have hg := Gw.set w c.G 5 (.int .i64 f')
  refine ⟨h.rd.gw hg (by have := h.lt; omega) (fun hn => by have := h.bb hn; have := h.lt; omega), h.blk.set 5 _, hg.own h.io (fun k hk q => h.ig (q ▸ hk)), h.ig, h.tx.gw hg (fun k hk => .inr (.inl hk)) (fun _ _ q => q), h.lt, h.bb, h.n6, h.wb, h.hb, h.ns, h.ts, h.il, h.tl, h.iz⟩
theorem gK_le (k : Nat) : (gK k).size ≤ 5 := getD_le (L := clW) (n := 5) (by decide) _
set_option maxHeartbeats 8000000 in
set_option maxRecDepth 1000000 in
theorem stat_wall (m : Nat) (c : GnC) (e : GE) (i : Nat) (vi vt : Value) (ints : List ByteArray) (f : Int) (w : World) (h : GnAt w c e i vi vt ints f) (hf : f < ((m + 1 : Nat) : Int)) (hm : m + 1 ≤ 15) (hf2 : -100 ≤ f) (hil : ints.length + 4 * (m + 1) ≤ 9000) (hcase : e.nx i % 16 < 3) :
    Calls Tryz.prog 35 #[.pointer (some ⟨c.G, 0, none⟩)] w (StQ c e vt (gS e (m + 1) i ints f) f vi w) := by
  have HN := hide (next_gn h)
  have g0 := (gc0 h).1
  have hk6 := e.nx_lt i
  have hns := h.ns
  have hts := h.ts
  have HIL := hide h.il
  have HHL := hide hil
  have HHF := hide hf2
  have HHM := hide hm
  have HHG := hide hf
  have HGS : Hid (gS e (m + 1) i ints f = ⟨({ data := #[119, 97, 108, 108, 32] } : ByteArray) ++ (gA e ints (i + 1)).1 ++ ({ data := #[59, 10] } : ByteArray), (gA e ints (i + 1)).2, ints⟩) := by
    show _ = _
    unfold gS
    simp only
    rw [if_pos (by omega)]
  obtain ⟨k, hk⟩ : ∃ k, e.nx i = k := ⟨_, rfl⟩
  rw [hk] at HN hk6 hcase
  try rw [hk] at HGS
  obtain ⟨j, hj⟩ : ∃ j, k / 16 % 4 = j := ⟨_, rfl⟩
  obtain ⟨kd, hkd⟩ : ∃ d, k / 16 = d := ⟨_, rfl⟩
  have hqw : IntKind.i64.wrap ((k : Int) / 16) = (kd : Int) := by rw [IntKind.wrap_i64]; omega
  have hmj : (kd : Int).tmod 4 = (j : Int) := by rw [← hj, ← hkd]; rfl
  have hj4 : j < 4 := by omega
  have hji : (j : Int) < 4 := by omega
  have hcl : ∀ W : World, (W.alloc (.cells #[.string ({ data := #[110, 111, 114, 116, 104] } : ByteArray), .string ({ data := #[101, 97, 115, 116] } : ByteArray), .string ({ data := #[115, 111, 117, 116, 104] } : ByteArray), .string ({ data := #[119, 101, 115, 116] } : ByteArray)] 9)).cell? ⟨W.heap.size, j, none⟩ = some (.string (wyW.getD j ⟨#[]⟩)) := fun W => by
    rw [cell_fresh]
    have h6 : j = 0 ∨ j = 1 ∨ j = 2 ∨ j = 3 := by omega
    rcases h6 with rfl | rfl | rfl | rfl <;> rfl
  have o2 := getD_le (L := wyW) (n := 5) (by decide) j
  try rw [hj] at HGS
  obtain ⟨O, hO⟩ : ∃ Z, wyW.getD j ⟨#[]⟩ = Z := ⟨_, rfl⟩
  rw [hO] at o2
  try rw [hO] at HGS
  simp only [hO] at hcl
  have a1 : ¬ 9223372036854775807 < 1 + O.size := by omega
  have a2 : ¬ 9223372036854775807 < 1 + O.size + 2 := by omega
  obtain ⟨mm, hmm⟩ : ∃ m, k % 16 = m := ⟨_, rfl⟩
  have hm16 : (k : Int).tmod 16 = (mm : Int) := by rw [← hmm]; rfl
  rw [hmm] at hcase
  have hfw : IntKind.i64.wrap (f - 1) = f - 1 := by rw [IntKind.wrap_i64]; omega
  have HCL := hide hcl
  have HHK := hide hk
  have HKD := hide hkd
  have HMM := hide hmm
  clear h hk hj hO hj4 hcl hkd hmm
  go_enter Tryz.func35, Tryz.ntmps35
  go_wp2_with fail
  refine HN.out.mono ?_
  rintro r w1 ⟨rfl, h1, hg1⟩
  have hc1 := HCL.out w1
  obtain ⟨W2, hW2⟩ : ∃ W, w1.alloc (.cells #[.string ({ data := #[110, 111, 114, 116, 104] } : ByteArray), .string ({ data := #[101, 97, 115, 116] } : ByteArray), .string ({ data := #[115, 111, 117, 116, 104] } : ByteArray), .string ({ data := #[119, 101, 115, 116] } : ByteArray)] 9) = W := ⟨_, rfl⟩
  have hb2 : Below w1.heap.size w1 W2 := by rw [← hW2]; exact (Below.refl _ _).alloc (Nat.le_refl _) _
  have h2 := h1.below hb2
  have g5 := (gc0 h2).2.2.2.2.2
  have g5f := h2.blk.frozen 5
  have HG3 := hide (h2.fuel (f' := f - 1))
  have HW3 : Hid (Gw (GnX c vi) w (W2.setCell ⟨c.G, 5, none⟩ (.int .i64 (f - 1)))) := (gwB (hg1.mono (fun _ _ g => .inl g)) hb2).trans (Gw.set W2 c.G 5 _) (fun _ _ g => .inr (.inl g))
  rw [hW2] at hc1
  have hW := hW2
  clear h1 hg1 h2 hb2 HN g0 hW2
  have tlt3 : decide ((mm : Int) < 3) = true := decide_eq_true (by omega)
  have HA := hide (area_gn c e (i + 1) vi vt ints (f - 1) _ HG3.out)
  have al := gA_le (e := e) hns (i + 1)
  obtain ⟨X, hX⟩ : ∃ Z, (gA e ints (i + 1)).1 = Z := ⟨_, rfl⟩
  rw [hX] at HA al HGS
  have s0 : ¬ 9223372036854775807 < 5 + X.size := by omega
  have s1 : ¬ 9223372036854775807 < 5 + X.size + 2 := by omega
  clear hX
  go_wp2_with fail
  refine HA.out.mono ?_
  rintro r w4 ⟨rfl, h4, hg4⟩
  have HGF := hide h4
  have HWF := hide (gwX HW3.out hg4)
  clear h4 hg4 HA hc1 g5 g5f hW
  go_wp2
  go_ret
  rw [HGS.out]
  exact ⟨vi, rfl, HGF.out, HWF.out, .inl rfl⟩
set_option maxHeartbeats 8000000 in
set_option maxRecDepth 1000000 in
theorem stat_open (m : Nat) (c : GnC) (e : GE) (i : Nat) (vi vt : Value) (ints : List ByteArray) (f : Int) (w : World) (h : GnAt w c e i vi vt ints f) (hf : f < ((m + 1 : Nat) : Int)) (hm : m + 1 ≤ 15) (hf2 : -100 ≤ f) (hil : ints.length + 4 * (m + 1) ≤ 9000) (hcase : e.nx i % 16 = 3) :
    Calls Tryz.prog 35 #[.pointer (some ⟨c.G, 0, none⟩)] w (StQ c e vt (gS e (m + 1) i ints f) f vi w) := by
  have HN := hide (next_gn h)
  have g0 := (gc0 h).1
  have hk6 := e.nx_lt i
  have hns := h.ns
  have hts := h.ts
  have HIL := hide h.il
  have HHL := hide hil
  have HHF := hide hf2
  have HHM := hide hm
  have HHG := hide hf
  have HGS : Hid (gS e (m + 1) i ints f = ⟨({ data := #[111, 112, 101, 110, 32] } : ByteArray) ++ (gA e ints (i + 1)).1 ++ ({ data := #[59, 10] } : ByteArray), (gA e ints (i + 1)).2, ints⟩) := by
    show _ = _
    unfold gS
    simp only
    rw [if_neg (by omega), if_pos (by omega)]
  obtain ⟨k, hk⟩ : ∃ k, e.nx i = k := ⟨_, rfl⟩
  rw [hk] at HN hk6 hcase
  try rw [hk] at HGS
  obtain ⟨j, hj⟩ : ∃ j, k / 16 % 4 = j := ⟨_, rfl⟩
  obtain ⟨kd, hkd⟩ : ∃ d, k / 16 = d := ⟨_, rfl⟩
  have hqw : IntKind.i64.wrap ((k : Int) / 16) = (kd : Int) := by rw [IntKind.wrap_i64]; omega
  have hmj : (kd : Int).tmod 4 = (j : Int) := by rw [← hj, ← hkd]; rfl
  have hj4 : j < 4 := by omega
  have hji : (j : Int) < 4 := by omega
  have hcl : ∀ W : World, (W.alloc (.cells #[.string ({ data := #[110, 111, 114, 116, 104] } : ByteArray), .string ({ data := #[101, 97, 115, 116] } : ByteArray), .string ({ data := #[115, 111, 117, 116, 104] } : ByteArray), .string ({ data := #[119, 101, 115, 116] } : ByteArray)] 9)).cell? ⟨W.heap.size, j, none⟩ = some (.string (wyW.getD j ⟨#[]⟩)) := fun W => by
    rw [cell_fresh]
    have h6 : j = 0 ∨ j = 1 ∨ j = 2 ∨ j = 3 := by omega
    rcases h6 with rfl | rfl | rfl | rfl <;> rfl
  have o2 := getD_le (L := wyW) (n := 5) (by decide) j
  try rw [hj] at HGS
  obtain ⟨O, hO⟩ : ∃ Z, wyW.getD j ⟨#[]⟩ = Z := ⟨_, rfl⟩
  rw [hO] at o2
  try rw [hO] at HGS
  simp only [hO] at hcl
  have a1 : ¬ 9223372036854775807 < 1 + O.size := by omega
  have a2 : ¬ 9223372036854775807 < 1 + O.size + 2 := by omega
  obtain ⟨mm, hmm⟩ : ∃ m, k % 16 = m := ⟨_, rfl⟩
  have hm16 : (k : Int).tmod 16 = (mm : Int) := by rw [← hmm]; rfl
  rw [hmm] at hcase
  have hfw : IntKind.i64.wrap (f - 1) = f - 1 := by rw [IntKind.wrap_i64]; omega
  have HCL := hide hcl
  have HHK := hide hk
  have HKD := hide hkd
  have HMM := hide hmm
  clear h hk hj hO hj4 hcl hkd hmm
  go_enter Tryz.func35, Tryz.ntmps35
  go_wp2_with fail
  refine HN.out.mono ?_
  rintro r w1 ⟨rfl, h1, hg1⟩
  have hc1 := HCL.out w1
  obtain ⟨W2, hW2⟩ : ∃ W, w1.alloc (.cells #[.string ({ data := #[110, 111, 114, 116, 104] } : ByteArray), .string ({ data := #[101, 97, 115, 116] } : ByteArray), .string ({ data := #[115, 111, 117, 116, 104] } : ByteArray), .string ({ data := #[119, 101, 115, 116] } : ByteArray)] 9) = W := ⟨_, rfl⟩
  have hb2 : Below w1.heap.size w1 W2 := by rw [← hW2]; exact (Below.refl _ _).alloc (Nat.le_refl _) _
  have h2 := h1.below hb2
  have g5 := (gc0 h2).2.2.2.2.2
  have g5f := h2.blk.frozen 5
  have HG3 := hide (h2.fuel (f' := f - 1))
  have HW3 : Hid (Gw (GnX c vi) w (W2.setCell ⟨c.G, 5, none⟩ (.int .i64 (f - 1)))) := (gwB (hg1.mono (fun _ _ g => .inl g)) hb2).trans (Gw.set W2 c.G 5 _) (fun _ _ g => .inr (.inl g))
  rw [hW2] at hc1
  have hW := hW2
  clear h1 hg1 h2 hb2 HN g0 hW2
  have tlt3 : decide ((mm : Int) < 3) = false := decide_eq_false (by omega)
  have teq3 : ((mm : Int) == 3) = true := by rw [beq_iff_eq]; omega
  have HA := hide (area_gn c e (i + 1) vi vt ints (f - 1) _ HG3.out)
  have al := gA_le (e := e) hns (i + 1)
  obtain ⟨X, hX⟩ : ∃ Z, (gA e ints (i + 1)).1 = Z := ⟨_, rfl⟩
  rw [hX] at HA al HGS
  have s0 : ¬ 9223372036854775807 < 5 + X.size := by omega
  have s1 : ¬ 9223372036854775807 < 5 + X.size + 2 := by omega
  clear hX
  go_wp2_with fail
  refine HA.out.mono ?_
  rintro r w4 ⟨rfl, h4, hg4⟩
  have HGF := hide h4
  have HWF := hide (gwX HW3.out hg4)
  clear h4 hg4 HA hc1 g5 g5f hW
  go_wp2
  go_ret
  rw [HGS.out]
  exact ⟨vi, rfl, HGF.out, HWF.out, .inl rfl⟩
set_option maxHeartbeats 8000000 in
set_option maxRecDepth 1000000 in
theorem stat_lane (m : Nat) (c : GnC) (e : GE) (i : Nat) (vi vt : Value) (ints : List ByteArray) (f : Int) (w : World) (h : GnAt w c e i vi vt ints f) (hf : f < ((m + 1 : Nat) : Int)) (hm : m + 1 ≤ 15) (hf2 : -100 ≤ f) (hil : ints.length + 4 * (m + 1) ≤ 9000) (hcase : e.nx i % 16 = 4) :
    Calls Tryz.prog 35 #[.pointer (some ⟨c.G, 0, none⟩)] w (StQ c e vt (gS e (m + 1) i ints f) f vi w) := by
  have HN := hide (next_gn h)
  have g0 := (gc0 h).1
  have hk6 := e.nx_lt i
  have hns := h.ns
  have hts := h.ts
  have HIL := hide h.il
  have HHL := hide hil
  have HHF := hide hf2
  have HHM := hide hm
  have HHG := hide hf
  have HGS : Hid (gS e (m + 1) i ints f = ⟨({ data := #[108, 97, 110, 101, 32] } : ByteArray) ++ (gA e ints (i + 1)).1 ++ (({ data := #[32] } : ByteArray) ++ wyW.getD (e.nx i / 16 % 4) ⟨#[]⟩ ++ ({ data := #[59, 10] } : ByteArray)), (gA e ints (i + 1)).2, ints⟩) := by
    show _ = _
    unfold gS
    simp only
    rw [if_neg (by omega), if_neg (by omega), if_pos (by omega)]
  obtain ⟨k, hk⟩ : ∃ k, e.nx i = k := ⟨_, rfl⟩
  rw [hk] at HN hk6 hcase
  try rw [hk] at HGS
  obtain ⟨j, hj⟩ : ∃ j, k / 16 % 4 = j := ⟨_, rfl⟩
  obtain ⟨kd, hkd⟩ : ∃ d, k / 16 = d := ⟨_, rfl⟩
  have hqw : IntKind.i64.wrap ((k : Int) / 16) = (kd : Int) := by rw [IntKind.wrap_i64]; omega
  have hmj : (kd : Int).tmod 4 = (j : Int) := by rw [← hj, ← hkd]; rfl
  have hj4 : j < 4 := by omega
  have hji : (j : Int) < 4 := by omega
  have hcl : ∀ W : World, (W.alloc (.cells #[.string ({ data := #[110, 111, 114, 116, 104] } : ByteArray), .string ({ data := #[101, 97, 115, 116] } : ByteArray), .string ({ data := #[115, 111, 117, 116, 104] } : ByteArray), .string ({ data := #[119, 101, 115, 116] } : ByteArray)] 9)).cell? ⟨W.heap.size, j, none⟩ = some (.string (wyW.getD j ⟨#[]⟩)) := fun W => by
    rw [cell_fresh]
    have h6 : j = 0 ∨ j = 1 ∨ j = 2 ∨ j = 3 := by omega
    rcases h6 with rfl | rfl | rfl | rfl <;> rfl
  have o2 := getD_le (L := wyW) (n := 5) (by decide) j
  try rw [hj] at HGS
  obtain ⟨O, hO⟩ : ∃ Z, wyW.getD j ⟨#[]⟩ = Z := ⟨_, rfl⟩
  rw [hO] at o2
  try rw [hO] at HGS
  simp only [hO] at hcl
  have a1 : ¬ 9223372036854775807 < 1 + O.size := by omega
  have a2 : ¬ 9223372036854775807 < 1 + O.size + 2 := by omega
  obtain ⟨mm, hmm⟩ : ∃ m, k % 16 = m := ⟨_, rfl⟩
  have hm16 : (k : Int).tmod 16 = (mm : Int) := by rw [← hmm]; rfl
  rw [hmm] at hcase
  have hfw : IntKind.i64.wrap (f - 1) = f - 1 := by rw [IntKind.wrap_i64]; omega
  have HCL := hide hcl
  have HHK := hide hk
  have HKD := hide hkd
  have HMM := hide hmm
  clear h hk hj hO hj4 hcl hkd hmm
  go_enter Tryz.func35, Tryz.ntmps35
  go_wp2_with fail
  refine HN.out.mono ?_
  rintro r w1 ⟨rfl, h1, hg1⟩
  have hc1 := HCL.out w1
  obtain ⟨W2, hW2⟩ : ∃ W, w1.alloc (.cells #[.string ({ data := #[110, 111, 114, 116, 104] } : ByteArray), .string ({ data := #[101, 97, 115, 116] } : ByteArray), .string ({ data := #[115, 111, 117, 116, 104] } : ByteArray), .string ({ data := #[119, 101, 115, 116] } : ByteArray)] 9) = W := ⟨_, rfl⟩
  have hb2 : Below w1.heap.size w1 W2 := by rw [← hW2]; exact (Below.refl _ _).alloc (Nat.le_refl _) _
  have h2 := h1.below hb2
  have g5 := (gc0 h2).2.2.2.2.2
  have g5f := h2.blk.frozen 5
  have HG3 := hide (h2.fuel (f' := f - 1))
  have HW3 : Hid (Gw (GnX c vi) w (W2.setCell ⟨c.G, 5, none⟩ (.int .i64 (f - 1)))) := (gwB (hg1.mono (fun _ _ g => .inl g)) hb2).trans (Gw.set W2 c.G 5 _) (fun _ _ g => .inr (.inl g))
  rw [hW2] at hc1
  have hW := hW2
  clear h1 hg1 h2 hb2 HN g0 hW2
  have tlt3 : decide ((mm : Int) < 3) = false := decide_eq_false (by omega)
  have teq3 : ((mm : Int) == 3) = false := by rw [beq_eq_false_iff_ne]; omega
  have teq4 : ((mm : Int) == 4) = true := by rw [beq_iff_eq]; omega
  have HA := hide (area_gn c e (i + 1) vi vt ints (f - 1) _ HG3.out)
  have al := gA_le (e := e) hns (i + 1)
  obtain ⟨X, hX⟩ : ∃ Z, (gA e ints (i + 1)).1 = Z := ⟨_, rfl⟩
  rw [hX] at HA al HGS
  have s0 : ¬ 9223372036854775807 < 5 + X.size := by omega
  have s1 : ¬ 9223372036854775807 < 5 + X.size + (1 + O.size + 2) := by omega
  clear hX
  go_wp2_with fail
  refine HA.out.mono ?_
  rintro r w4 ⟨rfl, h4, hg4⟩
  have HGF := hide h4
  have HWF := hide (gwX HW3.out hg4)
  clear h4 hg4 HA hc1 g5 g5f hW
  go_wp2
  go_ret
  rw [HGS.out]
  exact ⟨vi, rfl, HGF.out, HWF.out, .inl rfl⟩
set_option maxHeartbeats 8000000 in
set_option maxRecDepth 1000000 in
theorem stat_gate (m : Nat) (c : GnC) (e : GE) (i : Nat) (vi vt : Value) (ints : List ByteArray) (f : Int) (w : World) (h : GnAt w c e i vi vt ints f) (hf : f < ((m + 1 : Nat) : Int)) (hm : m + 1 ≤ 15) (hf2 : -100 ≤ f) (hil : ints.length + 4 * (m + 1) ≤ 9000) (hcase : e.nx i % 16 = 5) :
    Calls Tryz.prog 35 #[.pointer (some ⟨c.G, 0, none⟩)] w (StQ c e vt (gS e (m + 1) i ints f) f vi w) := by
  have HN := hide (next_gn h)
  have g0 := (gc0 h).1
  have hk6 := e.nx_lt i
  have hns := h.ns
  have hts := h.ts
  have HIL := hide h.il
  have HHL := hide hil
  have HHF := hide hf2
  have HHM := hide hm
  have HHG := hide hf
  have HGS : Hid (gS e (m + 1) i ints f = ⟨({ data := #[103, 97, 116, 101, 32] } : ByteArray) ++ gC e ints (i + 1) ++ (({ data := #[32] } : ByteArray) ++ wyW.getD (e.nx i / 16 % 4) ⟨#[]⟩ ++ ({ data := #[59, 10] } : ByteArray)), i + 3, ints⟩) := by
    show _ = _
    unfold gS
    simp only
    rw [if_neg (by omega), if_neg (by omega), if_neg (by omega), if_pos (by omega)]
  obtain ⟨k, hk⟩ : ∃ k, e.nx i = k := ⟨_, rfl⟩
  rw [hk] at HN hk6 hcase
  try rw [hk] at HGS
  obtain ⟨j, hj⟩ : ∃ j, k / 16 % 4 = j := ⟨_, rfl⟩
  obtain ⟨kd, hkd⟩ : ∃ d, k / 16 = d := ⟨_, rfl⟩
  have hqw : IntKind.i64.wrap ((k : Int) / 16) = (kd : Int) := by rw [IntKind.wrap_i64]; omega
  have hmj : (kd : Int).tmod 4 = (j : Int) := by rw [← hj, ← hkd]; rfl
  have hj4 : j < 4 := by omega
  have hji : (j : Int) < 4 := by omega
  have hcl : ∀ W : World, (W.alloc (.cells #[.string ({ data := #[110, 111, 114, 116, 104] } : ByteArray), .string ({ data := #[101, 97, 115, 116] } : ByteArray), .string ({ data := #[115, 111, 117, 116, 104] } : ByteArray), .string ({ data := #[119, 101, 115, 116] } : ByteArray)] 9)).cell? ⟨W.heap.size, j, none⟩ = some (.string (wyW.getD j ⟨#[]⟩)) := fun W => by
    rw [cell_fresh]
    have h6 : j = 0 ∨ j = 1 ∨ j = 2 ∨ j = 3 := by omega
    rcases h6 with rfl | rfl | rfl | rfl <;> rfl
  have o2 := getD_le (L := wyW) (n := 5) (by decide) j
  try rw [hj] at HGS
  obtain ⟨O, hO⟩ : ∃ Z, wyW.getD j ⟨#[]⟩ = Z := ⟨_, rfl⟩
  rw [hO] at o2
  try rw [hO] at HGS
  simp only [hO] at hcl
  have a1 : ¬ 9223372036854775807 < 1 + O.size := by omega
  have a2 : ¬ 9223372036854775807 < 1 + O.size + 2 := by omega
  obtain ⟨mm, hmm⟩ : ∃ m, k % 16 = m := ⟨_, rfl⟩
  have hm16 : (k : Int).tmod 16 = (mm : Int) := by rw [← hmm]; rfl
  rw [hmm] at hcase
  have hfw : IntKind.i64.wrap (f - 1) = f - 1 := by rw [IntKind.wrap_i64]; omega
  have HCL := hide hcl
  have HHK := hide hk
  have HKD := hide hkd
  have HMM := hide hmm
  clear h hk hj hO hj4 hcl hkd hmm
  go_enter Tryz.func35, Tryz.ntmps35
  go_wp2_with fail
  refine HN.out.mono ?_
  rintro r w1 ⟨rfl, h1, hg1⟩
  have hc1 := HCL.out w1
  obtain ⟨W2, hW2⟩ : ∃ W, w1.alloc (.cells #[.string ({ data := #[110, 111, 114, 116, 104] } : ByteArray), .string ({ data := #[101, 97, 115, 116] } : ByteArray), .string ({ data := #[115, 111, 117, 116, 104] } : ByteArray), .string ({ data := #[119, 101, 115, 116] } : ByteArray)] 9) = W := ⟨_, rfl⟩
  have hb2 : Below w1.heap.size w1 W2 := by rw [← hW2]; exact (Below.refl _ _).alloc (Nat.le_refl _) _
  have h2 := h1.below hb2
  have g5 := (gc0 h2).2.2.2.2.2
  have g5f := h2.blk.frozen 5
  have HG3 := hide (h2.fuel (f' := f - 1))
  have HW3 : Hid (Gw (GnX c vi) w (W2.setCell ⟨c.G, 5, none⟩ (.int .i64 (f - 1)))) := (gwB (hg1.mono (fun _ _ g => .inl g)) hb2).trans (Gw.set W2 c.G 5 _) (fun _ _ g => .inr (.inl g))
  rw [hW2] at hc1
  have hW := hW2
  clear h1 hg1 h2 hb2 HN g0 hW2
  have tlt3 : decide ((mm : Int) < 3) = false := decide_eq_false (by omega)
  have teq3 : ((mm : Int) == 3) = false := by rw [beq_eq_false_iff_ne]; omega
  have teq4 : ((mm : Int) == 4) = false := by rw [beq_eq_false_iff_ne]; omega
  have teq5 : ((mm : Int) == 5) = true := by rw [beq_iff_eq]; omega
  have HA := hide (cell_gn c e (i + 1) vi vt ints (f - 1) _ HG3.out)
  have al := gC_le (e := e) hns (i + 1)
  obtain ⟨X, hX⟩ : ∃ Z, gC e ints (i + 1) = Z := ⟨_, rfl⟩
  rw [hX] at HA al HGS
  have s0 : ¬ 9223372036854775807 < 5 + X.size := by omega
  have s1 : ¬ 9223372036854775807 < 5 + X.size + (1 + O.size + 2) := by omega
  clear hX
  go_wp2_with fail
  refine HA.out.mono ?_
  rintro r w4 ⟨rfl, h4, hg4⟩
  have HGF := hide h4
  have HWF := hide (gwX HW3.out hg4)
  clear h4 hg4 HA hc1 g5 g5f hW
  go_wp2
  go_ret
  rw [HGS.out]
  exact ⟨vi, rfl, HGF.out, HWF.out, .inl rfl⟩
set_option maxHeartbeats 8000000 in
set_option maxRecDepth 1000000 in
theorem stat_bar (m : Nat) (c : GnC) (e : GE) (i : Nat) (vi vt : Value) (ints : List ByteArray) (f : Int) (w : World) (h : GnAt w c e i vi vt ints f) (hf : f < ((m + 1 : Nat) : Int)) (hm : m + 1 ≤ 15) (hf2 : -100 ≤ f) (hil : ints.length + 4 * (m + 1) ≤ 9000) (hcase : e.nx i % 16 = 6) :
    Calls Tryz.prog 35 #[.pointer (some ⟨c.G, 0, none⟩)] w (StQ c e vt (gS e (m + 1) i ints f) f vi w) := by
  have HN := hide (next_gn h)
  have g0 := (gc0 h).1
  have hk6 := e.nx_lt i
  have hns := h.ns
  have hts := h.ts
  have HIL := hide h.il
  have HHL := hide hil
  have HHF := hide hf2
  have HHM := hide hm
  have HHG := hide hf
  have HGS : Hid (gS e (m + 1) i ints f = ⟨({ data := #[98, 97, 114, 32] } : ByteArray) ++ gC e ints (i + 1) ++ (({ data := #[32] } : ByteArray) ++ wyW.getD (e.nx i / 16 % 4) ⟨#[]⟩ ++ ({ data := #[59, 10] } : ByteArray)), i + 3, ints⟩) := by
    show _ = _
    unfold gS
    simp only
    rw [if_neg (by omega), if_neg (by omega), if_neg (by omega), if_neg (by omega), if_pos (by omega)]
  obtain ⟨k, hk⟩ : ∃ k, e.nx i = k := ⟨_, rfl⟩
  rw [hk] at HN hk6 hcase
  try rw [hk] at HGS
  obtain ⟨j, hj⟩ : ∃ j, k / 16 % 4 = j := ⟨_, rfl⟩
  obtain ⟨kd, hkd⟩ : ∃ d, k / 16 = d := ⟨_, rfl⟩
  have hqw : IntKind.i64.wrap ((k : Int) / 16) = (kd : Int) := by rw [IntKind.wrap_i64]; omega
  have hmj : (kd : Int).tmod 4 = (j : Int) := by rw [← hj, ← hkd]; rfl
  have hj4 : j < 4 := by omega
  have hji : (j : Int) < 4 := by omega
  have hcl : ∀ W : World, (W.alloc (.cells #[.string ({ data := #[110, 111, 114, 116, 104] } : ByteArray), .string ({ data := #[101, 97, 115, 116] } : ByteArray), .string ({ data := #[115, 111, 117, 116, 104] } : ByteArray), .string ({ data := #[119, 101, 115, 116] } : ByteArray)] 9)).cell? ⟨W.heap.size, j, none⟩ = some (.string (wyW.getD j ⟨#[]⟩)) := fun W => by
    rw [cell_fresh]
    have h6 : j = 0 ∨ j = 1 ∨ j = 2 ∨ j = 3 := by omega
    rcases h6 with rfl | rfl | rfl | rfl <;> rfl
  have o2 := getD_le (L := wyW) (n := 5) (by decide) j
  try rw [hj] at HGS
  obtain ⟨O, hO⟩ : ∃ Z, wyW.getD j ⟨#[]⟩ = Z := ⟨_, rfl⟩
  rw [hO] at o2
  try rw [hO] at HGS
  simp only [hO] at hcl
  have a1 : ¬ 9223372036854775807 < 1 + O.size := by omega
  have a2 : ¬ 9223372036854775807 < 1 + O.size + 2 := by omega
  obtain ⟨mm, hmm⟩ : ∃ m, k % 16 = m := ⟨_, rfl⟩
  have hm16 : (k : Int).tmod 16 = (mm : Int) := by rw [← hmm]; rfl
  rw [hmm] at hcase
  have hfw : IntKind.i64.wrap (f - 1) = f - 1 := by rw [IntKind.wrap_i64]; omega
  have HCL := hide hcl
  have HHK := hide hk
  have HKD := hide hkd
  have HMM := hide hmm
  clear h hk hj hO hj4 hcl hkd hmm
  go_enter Tryz.func35, Tryz.ntmps35
  go_wp2_with fail
  refine HN.out.mono ?_
  rintro r w1 ⟨rfl, h1, hg1⟩
  have hc1 := HCL.out w1
  obtain ⟨W2, hW2⟩ : ∃ W, w1.alloc (.cells #[.string ({ data := #[110, 111, 114, 116, 104] } : ByteArray), .string ({ data := #[101, 97, 115, 116] } : ByteArray), .string ({ data := #[115, 111, 117, 116, 104] } : ByteArray), .string ({ data := #[119, 101, 115, 116] } : ByteArray)] 9) = W := ⟨_, rfl⟩
  have hb2 : Below w1.heap.size w1 W2 := by rw [← hW2]; exact (Below.refl _ _).alloc (Nat.le_refl _) _
  have h2 := h1.below hb2
  have g5 := (gc0 h2).2.2.2.2.2
  have g5f := h2.blk.frozen 5
  have HG3 := hide (h2.fuel (f' := f - 1))
  have HW3 : Hid (Gw (GnX c vi) w (W2.setCell ⟨c.G, 5, none⟩ (.int .i64 (f - 1)))) := (gwB (hg1.mono (fun _ _ g => .inl g)) hb2).trans (Gw.set W2 c.G 5 _) (fun _ _ g => .inr (.inl g))
  rw [hW2] at hc1
  have hW := hW2
  clear h1 hg1 h2 hb2 HN g0 hW2
  have tlt3 : decide ((mm : Int) < 3) = false := decide_eq_false (by omega)
  have teq3 : ((mm : Int) == 3) = false := by rw [beq_eq_false_iff_ne]; omega
  have teq4 : ((mm : Int) == 4) = false := by rw [beq_eq_false_iff_ne]; omega
  have teq5 : ((mm : Int) == 5) = false := by rw [beq_eq_false_iff_ne]; omega
  have teq6 : ((mm : Int) == 6) = true := by rw [beq_iff_eq]; omega
  have HA := hide (cell_gn c e (i + 1) vi vt ints (f - 1) _ HG3.out)
  have al := gC_le (e := e) hns (i + 1)
  obtain ⟨X, hX⟩ : ∃ Z, gC e ints (i + 1) = Z := ⟨_, rfl⟩
  rw [hX] at HA al HGS
  have s0 : ¬ 9223372036854775807 < 4 + X.size := by omega
  have s1 : ¬ 9223372036854775807 < 4 + X.size + (1 + O.size + 2) := by omega
  clear hX
  go_wp2_with fail
  refine HA.out.mono ?_
  rintro r w4 ⟨rfl, h4, hg4⟩
  have HGF := hide h4
  have HWF := hide (gwX HW3.out hg4)
  clear h4 hg4 HA hc1 g5 g5f hW
  go_wp2
  go_ret
  rw [HGS.out]
  exact ⟨vi, rfl, HGF.out, HWF.out, .inl rfl⟩
set_option maxHeartbeats 8000000 in
set_option maxRecDepth 1000000 in
theorem stat_zone (m : Nat) (c : GnC) (e : GE) (i : Nat) (vi vt : Value) (ints : List ByteArray) (f : Int) (w : World) (h : GnAt w c e i vi vt ints f) (hf : f < ((m + 1 : Nat) : Int)) (hm : m + 1 ≤ 15) (hf2 : -100 ≤ f) (hil : ints.length + 4 * (m + 1) ≤ 9000) (hcase : e.nx i % 16 = 7) :
    Calls Tryz.prog 35 #[.pointer (some ⟨c.G, 0, none⟩)] w (StQ c e vt (gS e (m + 1) i ints f) f vi w) := by
  have HN := hide (next_gn h)
  have g0 := (gc0 h).1
  have hk6 := e.nx_lt i
  have hns := h.ns
  have hts := h.ts
  have HIL := hide h.il
  have HHL := hide hil
  have HHF := hide hf2
  have HHM := hide hm
  have HHG := hide hf
  have HGS : Hid (gS e (m + 1) i ints f = ⟨({ data := #[122, 111, 110, 101, 32] } : ByteArray) ++ (gA e ints (i + 1)).1 ++ ({ data := #[32, 99, 111, 115, 116, 32] } : ByteArray) ++ decB (1 + e.nx i / 16 % 9) ++ ({ data := #[59, 10] } : ByteArray), (gA e ints (i + 1)).2, ints⟩) := by
    show _ = _
    unfold gS
    simp only
    rw [if_neg (by omega), if_neg (by omega), if_neg (by omega), if_neg (by omega), if_neg (by omega), if_pos (by omega)]
  obtain ⟨k, hk⟩ : ∃ k, e.nx i = k := ⟨_, rfl⟩
  rw [hk] at HN hk6 hcase
  try rw [hk] at HGS
  obtain ⟨j, hj⟩ : ∃ j, k / 16 % 4 = j := ⟨_, rfl⟩
  obtain ⟨kd, hkd⟩ : ∃ d, k / 16 = d := ⟨_, rfl⟩
  have hqw : IntKind.i64.wrap ((k : Int) / 16) = (kd : Int) := by rw [IntKind.wrap_i64]; omega
  have hmj : (kd : Int).tmod 4 = (j : Int) := by rw [← hj, ← hkd]; rfl
  have hj4 : j < 4 := by omega
  have hji : (j : Int) < 4 := by omega
  have hcl : ∀ W : World, (W.alloc (.cells #[.string ({ data := #[110, 111, 114, 116, 104] } : ByteArray), .string ({ data := #[101, 97, 115, 116] } : ByteArray), .string ({ data := #[115, 111, 117, 116, 104] } : ByteArray), .string ({ data := #[119, 101, 115, 116] } : ByteArray)] 9)).cell? ⟨W.heap.size, j, none⟩ = some (.string (wyW.getD j ⟨#[]⟩)) := fun W => by
    rw [cell_fresh]
    have h6 : j = 0 ∨ j = 1 ∨ j = 2 ∨ j = 3 := by omega
    rcases h6 with rfl | rfl | rfl | rfl <;> rfl
  have o2 := getD_le (L := wyW) (n := 5) (by decide) j
  try rw [hj] at HGS
  obtain ⟨O, hO⟩ : ∃ Z, wyW.getD j ⟨#[]⟩ = Z := ⟨_, rfl⟩
  rw [hO] at o2
  try rw [hO] at HGS
  simp only [hO] at hcl
  have a1 : ¬ 9223372036854775807 < 1 + O.size := by omega
  have a2 : ¬ 9223372036854775807 < 1 + O.size + 2 := by omega
  obtain ⟨mm, hmm⟩ : ∃ m, k % 16 = m := ⟨_, rfl⟩
  have hm16 : (k : Int).tmod 16 = (mm : Int) := by rw [← hmm]; rfl
  rw [hmm] at hcase
  have hfw : IntKind.i64.wrap (f - 1) = f - 1 := by rw [IntKind.wrap_i64]; omega
  have HCL := hide hcl
  have HHK := hide hk
  have HKD := hide hkd
  have HMM := hide hmm
  clear h hk hj hO hj4 hcl hkd hmm
  go_enter Tryz.func35, Tryz.ntmps35
  go_wp2_with fail
  refine HN.out.mono ?_
  rintro r w1 ⟨rfl, h1, hg1⟩
  have hc1 := HCL.out w1
  obtain ⟨W2, hW2⟩ : ∃ W, w1.alloc (.cells #[.string ({ data := #[110, 111, 114, 116, 104] } : ByteArray), .string ({ data := #[101, 97, 115, 116] } : ByteArray), .string ({ data := #[115, 111, 117, 116, 104] } : ByteArray), .string ({ data := #[119, 101, 115, 116] } : ByteArray)] 9) = W := ⟨_, rfl⟩
  have hb2 : Below w1.heap.size w1 W2 := by rw [← hW2]; exact (Below.refl _ _).alloc (Nat.le_refl _) _
  have h2 := h1.below hb2
  have g5 := (gc0 h2).2.2.2.2.2
  have g5f := h2.blk.frozen 5
  have HG3 := hide (h2.fuel (f' := f - 1))
  have HW3 : Hid (Gw (GnX c vi) w (W2.setCell ⟨c.G, 5, none⟩ (.int .i64 (f - 1)))) := (gwB (hg1.mono (fun _ _ g => .inl g)) hb2).trans (Gw.set W2 c.G 5 _) (fun _ _ g => .inr (.inl g))
  rw [hW2] at hc1
  have hW := hW2
  clear h1 hg1 h2 hb2 HN g0 hW2
  have tlt3 : decide ((mm : Int) < 3) = false := decide_eq_false (by omega)
  have teq3 : ((mm : Int) == 3) = false := by rw [beq_eq_false_iff_ne]; omega
  have teq4 : ((mm : Int) == 4) = false := by rw [beq_eq_false_iff_ne]; omega
  have teq5 : ((mm : Int) == 5) = false := by rw [beq_eq_false_iff_ne]; omega
  have teq6 : ((mm : Int) == 6) = false := by rw [beq_eq_false_iff_ne]; omega
  have teq7 : ((mm : Int) == 7) = true := by rw [beq_iff_eq]; omega
  obtain ⟨d, hd⟩ : ∃ d, kd % 9 = d := ⟨_, rfl⟩
  have hdm : (kd : Int).tmod 9 = (d : Int) := by rw [← hd]; rfl
  have hdl : d < 10 := by omega
  have HDD := hide (fun V => l2dG_any (1 + d) V (by omega))
  have dl := decB_le (1 + d)
  rw [HKD.out] at HGS
  obtain ⟨D, hD⟩ : ∃ Z, decB (1 + d) = Z := ⟨_, rfl⟩
  rw [hd, hD] at HGS
  rw [hD] at HDD dl
  clear hD hd
  have hdw : IntKind.i64.wrap (1 + (d : Int)) = ((1 + d : Nat) : Int) := by rw [IntKind.wrap_i64]; omega
  have HA := hide (area_gn c e (i + 1) vi vt ints (f - 1) _ HG3.out)
  have al := gA_le (e := e) hns (i + 1)
  obtain ⟨X, hX⟩ : ∃ Z, (gA e ints (i + 1)).1 = Z := ⟨_, rfl⟩
  rw [hX] at HA al HGS
  have s0 : ¬ 9223372036854775807 < 5 + X.size := by omega
  have s1 : ¬ 9223372036854775807 < 5 + X.size + 6 := by omega
  have s2 : ¬ 9223372036854775807 < 5 + X.size + 6 + D.size := by omega
  have s3 : ¬ 9223372036854775807 < 5 + X.size + 6 + D.size + 2 := by omega
  clear hX
  go_wp2_with fail
  refine HA.out.mono ?_
  rintro r w4 ⟨rfl, h4, hg4⟩
  have HGF := hide h4
  have HWF := hide (gwX HW3.out hg4)
  clear h4 hg4 HA hc1 g5 g5f hW
  go_wp2_with fail
  refine (HDD.out _).mono ?_
  rintro r w5 ⟨rfl, hb5⟩
  have HGZ := hide (HGF.out.below hb5)
  have HWZ := hide (gwB HWF.out hb5)
  clear hb5 HDD
  go_wp2
  go_ret
  rw [HGS.out]
  exact ⟨vi, rfl, HGZ.out, HWZ.out, .inl rfl⟩
end Go.Proofs.YthoinjddamlapaaGreatDoor
