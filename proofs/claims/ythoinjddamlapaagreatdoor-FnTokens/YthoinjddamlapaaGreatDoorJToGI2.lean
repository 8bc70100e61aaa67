/-
  spec.l9int2.
  spec.l9col, l9row, l9cell, l9area.
-/
import Derived.Test.YthoinjddamlapaaGreatDoorJToGN0
namespace Go.Proofs.YthoinjddamlapaaGreatDoor
open Go.RowKit

set_option maxHeartbeats 4000000 in
set_option maxRecDepth 1000000 in
theorem int2_any (c : GnC) (e : GE) (i : Nat) (vi vt : Value) (ints : List ByteArray) (f : Int) (most : Nat) (w : World) (h : GnAt w c e i vi vt ints f) (hm : 1 ≤ most ∧ most ≤ 100) :
    Calls Tryz.prog 68 #[.pointer (some ⟨c.G, 0, none⟩), .int .i64 (most : Nat)] w (GnQ c e (i + 1) vi vt ints f w (gI ints most (e.nx i))) := by
  have HN := hide (next_gn h)
  have g0 := (gc0 h).1
  have hk6 := e.nx_lt i
  obtain ⟨k, hk⟩ : ∃ k, e.nx i = k := ⟨_, rfl⟩
  rw [hk] at HN hk6 ⊢
  obtain ⟨q, hq⟩ : ∃ q, k % most = q := ⟨_, rfl⟩
  have hq9 : q < 100 := by have := Nat.mod_lt k (show 0 < most by omega); omega
  have hmod : (k : Int).tmod (most : Int) = (q : Int) := by rw [← hq]; rfl
  have hm0 : ((most : Int) == 0) = false := by rw [beq_eq_false_iff_ne]; omega
  have HD := hide (fun W => l2dG_any q W (by omega))
  have v3 := decB_le q
  obtain ⟨V, hV⟩ : ∃ V, decB q = V := ⟨_, rfl⟩
  rw [hV] at HD v3
  have HV : Hid (decB (k % most) = V) := by show _ = _; rw [hq, hV]
  have hm1 := hm.1
  have hm2 := hm.2
  clear h hk hq hV hm
  go_enter Tryz.func68, Tryz.ntmps68
  go_wp2_with fail
  refine HN.out.mono ?_
  rintro r w1 ⟨rfl, h1, hg1⟩
  have HG1 := hide h1
  have HW1 := hide hg1
  clear h1 hg1 HN g0
  go_wp2_with fail
  refine (HD.out _).mono ?_
  rintro r w2 ⟨rfl, hb2⟩
  have HG2 := hide (HG1.out.below hb2)
  have HW2 : Hid (Gw (· = c.R) w w2) := HW1.out.trans (Gw.of_below hb2 (P := fun _ => False)) (fun _ _ g => g.elim)
  have g3 := (gc0 HG2.out).2.2.2.1
  obtain ⟨ai, gi, ki, hvi, hai, hci⟩ := HG2.out.ivw
  have HWB : Hid (∀ W, Below w2.heap.size w2 W → GnAt W c e (i + 1) vi vt ints f ∧ Gw (· = c.R) w W) := fun W hW => ⟨HG2.out.below hW, HW2.out.trans (Gw.of_below hW (P := fun _ => False)) (fun _ _ g => g.elim)⟩
  clear hb2 HD HG1 HW1 hmod hm0 hq9
  by_cases c1 : k < 150
  · have t1 : decide ((k : Int) < 150) = true := decide_eq_true (by omega)
    have HE : Hid (gI ints most k = V) := by show _ = _; unfold gI; rw [if_pos c1]; exact HV.out
    go_wp2
    go_ret
    exact ⟨by rw [HE.out]; rfl, HG2.out, HW2.out⟩
  have t1 : decide ((k : Int) < 150) = false := decide_eq_false (by omega)
  have E1 : Hid (gI ints most k = if k < 190 ∧ 0 < ints.length then ints.getD (k % ints.length) ⟨#[]⟩ else if k < 210 then decB (k % 3) ++ ({ data := #[32, 43, 32] } : ByteArray) ++ decB (k % most) ++ ({ data := #[32, 47, 32, 50] } : ByteArray) else if k < 225 then ({ data := #[40] } : ByteArray) ++ decB (most - 1) ++ ({ data := #[32, 45, 32] } : ByteArray) ++ decB (k % most) ++ ({ data := #[41, 32, 42, 32, 49] } : ByteArray) else if k < 235 then ({ data := #[45, 40, 45] } : ByteArray) ++ decB (k % most) ++ ({ data := #[41] } : ByteArray) else if k < 250 then decB k ++ ({ data := #[32, 37, 32] } : ByteArray) ++ decB most else odI.getD (k - 250) ⟨#[]⟩) := by show _ = _; unfold gI; rw [if_neg c1]
  by_cases c2 : k < 190 ∧ 0 < ints.length
  · have t2 : decide ((k : Int) < 190) = true := decide_eq_true (by omega)
    obtain rfl := hai c2.2
    obtain ⟨j, hj⟩ : ∃ j, k % ints.length = j := ⟨_, rfl⟩
    have hjl : j < ints.length := by rw [← hj]; exact Nat.mod_lt _ c2.2
    have gj := hci j hjl
    have HE : Hid (gI ints most k = ints.getD j ⟨#[]⟩) := by show _ = _; rw [E1.out, if_pos c2, hj]
    obtain ⟨Z, hZ⟩ : ∃ Z, ints.getD j ⟨#[]⟩ = Z := ⟨_, rfl⟩
    rw [hZ] at gj HE
    have hlp : 0 < ints.length := c2.2
    obtain ⟨l, hl⟩ : ∃ l, ints.length = l := ⟨_, rfl⟩
    rw [hl] at hvi hj hjl hlp
    rw [hvi] at g3
    have t3 : decide ((l : Int) > 0) = true := decide_eq_true (by omega)
    have hl0 : ((l : Int) == 0) = false := by rw [beq_eq_false_iff_ne]; omega
    have hmj : (k : Int).tmod (l : Int) = (j : Int) := by rw [← hj]; rfl
    have hjli : (j : Int) < (l : Int) := by omega
    clear hci hai hvi hZ hj c2 hl
    go_wp2_with fail
    go_quiet (fail)
    go_wp2
    go_ret
    obtain ⟨q1, q2⟩ := HWB.out _ (below_drewN (Below.refl _ _) nq)
    exact ⟨by rw [HE.out]; rfl, q1, q2⟩
  obtain ⟨l, hl⟩ : ∃ l, ints.length = l := ⟨_, rfl⟩
  have t2 : k < 190 → (l : Int) = 0 := fun g => by have : ¬ 0 < ints.length := fun x => c2 ⟨g, x⟩; omega
  rw [hl] at hvi
  rw [hvi] at g3
  clear hci hai hvi
  have E2 : Hid (gI ints most k = if k < 210 then decB (k % 3) ++ ({ data := #[32, 43, 32] } : ByteArray) ++ decB (k % most) ++ ({ data := #[32, 47, 32, 50] } : ByteArray) else if k < 225 then ({ data := #[40] } : ByteArray) ++ decB (most - 1) ++ ({ data := #[32, 45, 32] } : ByteArray) ++ decB (k % most) ++ ({ data := #[41, 32, 42, 32, 49] } : ByteArray) else if k < 235 then ({ data := #[45, 40, 45] } : ByteArray) ++ decB (k % most) ++ ({ data := #[41] } : ByteArray) else if k < 250 then decB k ++ ({ data := #[32, 37, 32] } : ByteArray) ++ decB most else odI.getD (k - 250) ⟨#[]⟩) := by show _ = _; rw [E1.out, if_neg c2]
  clear c2 hl
  by_cases c3 : k < 210
  · have t3 : decide ((k : Int) < 210) = true := decide_eq_true (by omega)
    obtain ⟨j, hj⟩ : ∃ j, k % 3 = j := ⟨_, rfl⟩
    have HD3 := hide (fun W => l2dG_any j W (by omega))
    have x3 := decB_le j
    obtain ⟨X, hX⟩ : ∃ X, decB j = X := ⟨_, rfl⟩
    rw [hX] at HD3 x3
    have HE : Hid (gI ints most k = X ++ ({ data := #[32, 43, 32] } : ByteArray) ++ V ++ ({ data := #[32, 47, 32, 50] } : ByteArray)) := by show _ = _; rw [E2.out, if_pos c3, HV.out, hj, hX]
    have hmj : (k : Int).tmod 3 = (j : Int) := by rw [← hj]; rfl
    clear hj hX
    have s1 : ¬ 9223372036854775807 < X.size + 3 := by omega
    have s2 : ¬ 9223372036854775807 < X.size + 3 + V.size := by omega
    have s3 : ¬ 9223372036854775807 < X.size + 3 + V.size + 4 := by omega
    by_cases c4 : k < 190
    · have t4 : decide ((k : Int) < 190) = true := decide_eq_true (by omega)
      have hl0 := t2 c4
      obtain rfl : l = 0 := by omega
      go_wp2_with fail
      refine (HD3.out _).mono ?_
      rintro r w3 ⟨rfl, hb3⟩
      obtain ⟨q1, q2⟩ := HWB.out _ hb3
      have Q1 := hide q1
      have Q2 := hide q2
      clear q1 q2 hb3
      go_wp2
      go_ret
      exact ⟨by rw [HE.out]; rfl, Q1.out, Q2.out⟩
    · have t4 : decide ((k : Int) < 190) = false := decide_eq_false (by omega)
      clear t2
      go_wp2_with fail
      refine (HD3.out _).mono ?_
      rintro r w3 ⟨rfl, hb3⟩
      obtain ⟨q1, q2⟩ := HWB.out _ hb3
      have Q1 := hide q1
      have Q2 := hide q2
      clear q1 q2 hb3
      go_wp2
      go_ret
      exact ⟨by rw [HE.out]; rfl, Q1.out, Q2.out⟩
  have t3 : decide ((k : Int) < 210) = false := decide_eq_false (by omega)
  have t4 : decide ((k : Int) < 190) = false := decide_eq_false (by omega)
  clear t2
  by_cases c5 : k < 225
  · have t5 : decide ((k : Int) < 225) = true := decide_eq_true (by omega)
    obtain ⟨j, hj⟩ : ∃ j, most - 1 = j := ⟨_, rfl⟩
    have HD3 := hide (fun W => l2dG_any j W (by omega))
    have x3 := decB_le j
    obtain ⟨X, hX⟩ : ∃ X, decB j = X := ⟨_, rfl⟩
    rw [hX] at HD3 x3
    have HE : Hid (gI ints most k = ({ data := #[40] } : ByteArray) ++ X ++ ({ data := #[32, 45, 32] } : ByteArray) ++ V ++ ({ data := #[41, 32, 42, 32, 49] } : ByteArray)) := by show _ = _; rw [E2.out, if_neg c3, if_pos c5, HV.out, hj, hX]
    have hmj : IntKind.i64.wrap ((most : Int) - 1) = (j : Int) := by rw [IntKind.wrap_i64]; omega
    clear hj hX
    have s1 : ¬ 9223372036854775807 < 1 + X.size := by omega
    have s2 : ¬ 9223372036854775807 < 1 + X.size + 3 := by omega
    have s3 : ¬ 9223372036854775807 < 1 + X.size + 3 + V.size := by omega
    have s4 : ¬ 9223372036854775807 < 1 + X.size + 3 + V.size + 5 := by omega
    go_wp2_with fail
    refine (HD3.out _).mono ?_
    rintro r w3 ⟨rfl, hb3⟩
    obtain ⟨q1, q2⟩ := HWB.out _ hb3
    have Q1 := hide q1
    have Q2 := hide q2
    clear q1 q2 hb3
    go_wp2
    go_ret
    exact ⟨by rw [HE.out]; rfl, Q1.out, Q2.out⟩
  have t5 : decide ((k : Int) < 225) = false := decide_eq_false (by omega)
  by_cases c6 : k < 235
  · have t6 : decide ((k : Int) < 235) = true := decide_eq_true (by omega)
    have HE : Hid (gI ints most k = ({ data := #[45, 40, 45] } : ByteArray) ++ V ++ ({ data := #[41] } : ByteArray)) := by show _ = _; rw [E2.out, if_neg c3, if_neg c5, if_pos c6, HV.out]
    have s1 : ¬ 9223372036854775807 < 3 + V.size := by omega
    have s2 : ¬ 9223372036854775807 < 3 + V.size + 1 := by omega
    go_wp2
    go_ret
    exact ⟨by rw [HE.out]; rfl, HG2.out, HW2.out⟩
  have t6 : decide ((k : Int) < 235) = false := decide_eq_false (by omega)
  by_cases c7 : k < 250
  · have t7 : decide ((k : Int) < 250) = true := decide_eq_true (by omega)
    have HD3 := hide (fun W => l2dG_any k W (by omega))
    have HD4 := hide (fun W => l2dG_any most W (by omega))
    have x3 := decB_le k
    have x4 := decB_le most
    have HE : Hid (gI ints most k = decB k ++ ({ data := #[32, 37, 32] } : ByteArray) ++ decB most) := by show _ = _; rw [E2.out, if_neg c3, if_neg c5, if_neg c6, if_pos c7]
    obtain ⟨X, hX⟩ : ∃ X, decB k = X := ⟨_, rfl⟩
    obtain ⟨Y, hY⟩ : ∃ X, decB most = X := ⟨_, rfl⟩
    rw [hX] at HD3 x3 HE
    rw [hY] at HD4 x4 HE
    clear hX hY
    have s1 : ¬ 9223372036854775807 < X.size + 3 := by omega
    have s2 : ¬ 9223372036854775807 < X.size + 3 + Y.size := by omega
    go_wp2_with fail
    refine (HD3.out _).mono ?_
    rintro r w3 ⟨rfl, hb3⟩
    have HB3 := hide hb3
    clear hb3
    go_wp2_with fail
    refine (HD4.out _).mono ?_
    rintro r w4 ⟨rfl, hb4⟩
    obtain ⟨q1, q2⟩ := HWB.out _ (HB3.out.trans (hb4.mono HB3.out.size))
    have Q1 := hide q1
    have Q2 := hide q2
    clear q1 q2 hb4
    go_wp2
    go_ret
    exact ⟨by rw [HE.out]; rfl, Q1.out, Q2.out⟩
  have t7 : decide ((k : Int) < 250) = false := decide_eq_false (by omega)
  obtain ⟨j, hj⟩ : ∃ j, k - 250 = j := ⟨_, rfl⟩
  have hj6 : j < 6 := by omega
  have hjw : IntKind.i64.wrap ((k : Int) - 250) = (j : Int) := by rw [IntKind.wrap_i64]; omega
  have HE : Hid (gI ints most k = odI.getD j ⟨#[]⟩) := by show _ = _; rw [E2.out, if_neg c3, if_neg c5, if_neg c6, if_neg c7, hj]
  have hji : (j : Int) < 6 := by omega
  have hcl : (w2.alloc (.cells #[.string ({ data := #[45, 49] } : ByteArray), .string ({ data := #[57, 57] } : ByteArray), .string ({ data := #[49, 32, 47, 32, 48] } : ByteArray), .string ({ data := #[57, 57, 57, 57, 57, 32, 42, 32, 57, 57] } : ByteArray), .string ({ data := #[110, 111, 119, 104, 101, 114, 101] } : ByteArray), .string ({ data := #[34, 116, 34] } : ByteArray)] 9)).cell? ⟨w2.heap.size, j, none⟩ = some (.string (odI.getD j ⟨#[]⟩)) := by
    rw [cell_fresh]
    have h6 : j = 0 ∨ j = 1 ∨ j = 2 ∨ j = 3 ∨ j = 4 ∨ j = 5 := by omega
    rcases h6 with rfl | rfl | rfl | rfl | rfl | rfl <;> rfl
  obtain ⟨Z, hZ⟩ : ∃ Z, odI.getD j ⟨#[]⟩ = Z := ⟨_, rfl⟩
  rw [hZ] at hcl HE
  obtain ⟨q1, q2⟩ := HWB.out _ ((Below.refl _ w2).alloc (Nat.le_refl _) (.cells #[.string ({ data := #[45, 49] } : ByteArray), .string ({ data := #[57, 57] } : ByteArray), .string ({ data := #[49, 32, 47, 32, 48] } : ByteArray), .string ({ data := #[57, 57, 57, 57, 57, 32, 42, 32, 57, 57] } : ByteArray), .string ({ data := #[110, 111, 119, 104, 101, 114, 101] } : ByteArray), .string ({ data := #[34, 116, 34] } : ByteArray)] 9))
  have Q1 := hide q1
  have Q2 := hide q2
  clear q1 q2 hZ hj hj6
  go_wp2
  go_ret
  exact ⟨by rw [HE.out]; rfl, Q1.out, Q2.out⟩
end Go.Proofs.YthoinjddamlapaaGreatDoor

namespace Go.Proofs.YthoinjddamlapaaGreatDoor
open Go.RowKit

theorem Gw.then {R : Nat} {a b c : World} (h : Gw (· = R) a b) (k : Gw (· = R) b c) : Gw (· = R) a c := h.trans k (fun _ _ g => g)
theorem gC_le {e : GE} {ints : List ByteArray} (h : ∀ x ∈ ints, x.size ≤ 4) (i : Nat) : (gC e ints i).size ≤ 62 := by
  have h1 := gI_le h e.w (e.nx i)
  have h2 := gI_le h e.h (e.nx (i + 1))
  unfold gC
  simp only [ByteArray.size_append, lsz, List.size_toArray, List.length_cons, List.length_nil]
  omega
theorem gA_le {e : GE} {ints : List ByteArray} (h : ∀ x ∈ ints, x.size ≤ 4) (i : Nat) : (gA e ints i).1.size ≤ 128 := by
  have h1 := gC_le (e := e) h i
  have h2 := gC_le (e := e) h (i + 3)
  unfold gA
  split
  · simp only [ByteArray.size_append, lsz, List.size_toArray, List.length_cons, List.length_nil]
    omega
  · show (gC e ints i).size ≤ 128; omega
set_option maxHeartbeats 2000000 in
set_option maxRecDepth 1000000 in
theorem col_any (c : GnC) (e : GE) (i : Nat) (vi vt : Value) (ints : List ByteArray) (f : Int) (w : World) (h : GnAt w c e i vi vt ints f) :
    Calls Tryz.prog 55 #[.pointer (some ⟨c.G, 0, none⟩)] w (GnQ c e (i + 1) vi vt ints f w (gI ints e.w (e.nx i))) := by
  have g1 := (gc0 h).2.1
  have HI := hide (int2_any c e i vi vt ints f e.w w h (by have := h.wb; omega))
  obtain ⟨Z, hZ⟩ : ∃ Z, gI ints e.w (e.nx i) = Z := ⟨_, rfl⟩
  rw [hZ] at HI ⊢
  clear h hZ
  go_enter Tryz.func55, Tryz.ntmps55
  go_wp2_with fail
  refine HI.out.mono ?_
  rintro r w1 ⟨rfl, h1, h2⟩
  have H1 := hide h1
  have H2 := hide h2
  clear h1 h2 HI g1
  go_wp2
  go_ret
  exact ⟨rfl, H1.out, H2.out⟩
set_option maxHeartbeats 2000000 in
set_option maxRecDepth 1000000 in
theorem row_any (c : GnC) (e : GE) (i : Nat) (vi vt : Value) (ints : List ByteArray) (f : Int) (w : World) (h : GnAt w c e i vi vt ints f) :
    Calls Tryz.prog 66 #[.pointer (some ⟨c.G, 0, none⟩)] w (GnQ c e (i + 1) vi vt ints f w (gI ints e.h (e.nx i))) := by
  have g1 := (gc0 h).2.2.1
  have HI := hide (int2_any c e i vi vt ints f e.h w h (by have := h.hb; omega))
  obtain ⟨Z, hZ⟩ : ∃ Z, gI ints e.h (e.nx i) = Z := ⟨_, rfl⟩
  rw [hZ] at HI ⊢
  clear h hZ
  go_enter Tryz.func66, Tryz.ntmps66
  go_wp2_with fail
  refine HI.out.mono ?_
  rintro r w1 ⟨rfl, h1, h2⟩
  have H1 := hide h1
  have H2 := hide h2
  clear h1 h2 HI g1
  go_wp2
  go_ret
  exact ⟨rfl, H1.out, H2.out⟩
set_option maxHeartbeats 2000000 in
set_option maxRecDepth 1000000 in
theorem cell_gn (c : GnC) (e : GE) (i : Nat) (vi vt : Value) (ints : List ByteArray) (f : Int) (w : World) (h : GnAt w c e i vi vt ints f) :
    Calls Tryz.prog 53 #[.pointer (some ⟨c.G, 0, none⟩)] w (GnQ c e (i + 2) vi vt ints f w (gC e ints i)) := by
  have HI := hide (col_any c e i vi vt ints f w h)
  have n1 := gI_le h.ns e.w (e.nx i)
  have n2 := gI_le h.ns e.h (e.nx (i + 1))
  clear h
  unfold gC
  obtain ⟨X, hX⟩ : ∃ Z, gI ints e.w (e.nx i) = Z := ⟨_, rfl⟩
  obtain ⟨Y, hY⟩ : ∃ Z, gI ints e.h (e.nx (i + 1)) = Z := ⟨_, rfl⟩
  rw [hX] at HI n1 ⊢
  rw [hY] at n2 ⊢
  have HY := hide hY
  clear hX hY
  go_enter Tryz.func53, Tryz.ntmps53
  go_wp2_with fail
  refine HI.out.mono ?_
  rintro r w1 ⟨rfl, h1, h2⟩
  have HR := hide (row_any c e (i + 1) vi vt ints f w1 h1)
  have H2 := hide h2
  clear h1 h2 HI
  rw [HY.out] at HR
  have s1 : ¬ 9223372036854775807 < X.size + 2 := by omega
  have s2 : ¬ 9223372036854775807 < X.size + 2 + Y.size := by omega
  go_wp2_with fail
  refine HR.out.mono ?_
  rintro r w2 ⟨rfl, h3, h4⟩
  have H3 := hide h3
  have H4 := hide (H2.out.then h4)
  clear h3 h4 HR H2
  go_wp2
  go_ret
  exact ⟨rfl, H3.out, H4.out⟩
set_option maxHeartbeats 2000000 in
set_option maxRecDepth 1000000 in
theorem area_gn (c : GnC) (e : GE) (i : Nat) (vi vt : Value) (ints : List ByteArray) (f : Int) (w : World) (h : GnAt w c e i vi vt ints f) :
    Calls Tryz.prog 52 #[.pointer (some ⟨c.G, 0, none⟩)] w (GnQ c e (gA e ints i).2 vi vt ints f w (gA e ints i).1) := by
  have HI := hide (cell_gn c e i vi vt ints f w h)
  have n1 := gC_le (e := e) h.ns i
  have n2 := gC_le (e := e) h.ns (i + 3)
  have HA : Hid (gA e ints i = if e.nx (i + 2) % 2 = 0 then (gC e ints i ++ (({ data := #[32, 116, 111, 32] } : ByteArray) ++ gC e ints (i + 3)), i + 5) else (gC e ints i, i + 3)) := rfl
  clear h
  obtain ⟨X, hX⟩ : ∃ Z, gC e ints i = Z := ⟨_, rfl⟩
  rw [hX] at HI n1 HA
  clear hX
  go_enter Tryz.func52, Tryz.ntmps52
  go_wp2_with fail
  refine HI.out.mono ?_
  rintro r w1 ⟨rfl, h1, h2⟩
  have HN := hide (next_gn h1)
  have g0 := (gc0 h1).1
  have H2 := hide h2
  clear h1 h2 HI
  go_wp2_with fail
  refine HN.out.mono ?_
  rintro r w2 ⟨rfl, h3, h4⟩
  have H4 := hide (H2.out.then h4)
  have HC := hide (cell_gn c e (i + 3) vi vt ints f w2 h3)
  have H3 := hide h3
  clear h3 h4 HN g0 H2
  obtain ⟨k, hk⟩ : ∃ k, e.nx (i + 2) = k := ⟨_, rfl⟩
  rw [hk] at HA ⊢
  clear hk
  obtain ⟨Y, hY⟩ : ∃ Z, gC e ints (i + 3) = Z := ⟨_, rfl⟩
  rw [hY] at HC n2 HA
  clear hY
  obtain ⟨m, hm⟩ : ∃ m, k % 2 = m := ⟨_, rfl⟩
  have hmm : (k : Int).tmod 2 = (m : Int) := by rw [← hm]; rfl
  rw [hm] at HA
  by_cases hz : m = 0
  · subst hz
    have HE : Hid (gA e ints i = (X ++ (({ data := #[32, 116, 111, 32] } : ByteArray) ++ Y), i + 5)) := by show _ = _; rw [HA.out, if_pos rfl]
    have s1 : ¬ 9223372036854775807 < 4 + Y.size := by omega
    have s2 : ¬ 9223372036854775807 < X.size + (4 + Y.size) := by omega
    clear hm HA
    go_wp2_with fail
    refine HC.out.mono ?_
    rintro r w3 ⟨rfl, h5, h6⟩
    have H5 := hide h5
    have H6 := hide (H4.out.then h6)
    clear h5 h6 HC
    go_wp2
    go_ret
    rw [HE.out]
    exact ⟨rfl, H5.out, H6.out⟩
  · have tm : ((m : Int) == 0) = false := by rw [beq_eq_false_iff_ne]; omega
    have HE : Hid (gA e ints i = (X, i + 3)) := by show _ = _; rw [HA.out, if_neg hz]
    clear hm HA hz
    go_wp2
    go_ret
    rw [HE.out]
    exact ⟨rfl, H3.out, H4.out⟩
end Go.Proofs.YthoinjddamlapaaGreatDoor
