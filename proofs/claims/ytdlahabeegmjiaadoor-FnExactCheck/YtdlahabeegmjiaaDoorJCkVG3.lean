/-
  The walk of l2fields, where a node has a name.
-/
import Derived.Test.YtdlahabeegmjiaaDoorJCkAP
namespace Go.Proofs.YtdlahabeegmjiaaDoor
open Go.RowKit

set_option maxHeartbeats 4000000 in
set_option maxRecDepth 1000000 in
theorem fields_3 (N C : Int) (T : ByteArray) (M : List ByteArray) (Y : List Int) (vt vn vy : Value) (w : World) (h : NV w ⟨3, N, T, M, Y, C⟩ vt vn vy) (hb : NB ⟨3, N, T, M, Y, C⟩) :
    Calls Tryd.prog 44 #[.agg #[.int .i64 3, .int .i64 N, vt, vn, vy, .int .i64 C]] w fun e w' => e = .returned (.bool (vFd ⟨3, N, T, M, Y, C⟩)) ∧ Below w.heap.size w w' := by
  obtain ⟨W1, hW1⟩ : ∃ W1, w.alloc (.cells #[.int .i64 3, .int .i64 N, vt, vn, vy, .int .i64 C] 42) = W1 := ⟨_, rfl⟩
  have hB1 : Below w.heap.size w W1 := by rw [← hW1]; exact (Below.refl _ _).alloc (Nat.le_refl _) _
  have hBk : Blk W1 w.heap.size 42 #[.int .i64 3, .int .i64 N, vt, vn, vy, .int .i64 C] := by rw [← hW1]; exact Blk.new _ _ _
  have hnO : nOf ⟨3, N, T, M, Y, C⟩ = 1 := rfl
  have hgN : gNk 3 = 0 := rfl
  have HTX : Hid (vTx ⟨3, N, T, M, Y, C⟩ = (T.size == 0)) := by show _ = _; unfold vTx; rw [if_neg (show ¬ (3 : Int) = 17 from by decide)]
  have HTY : Hid (vTy ⟨3, N, T, M, Y, C⟩ = (Y.length == 0)) := by show _ = _; unfold vTy; rw [if_neg (show ¬ (3 : Int) = 1 from by decide)]
  have HNS : Hid (vNs ⟨3, N, T, M, Y, C⟩ = (((M.length : Int) == 1) && M.all vNm)) := by show (((M.length : Int) == nOf ⟨3, N, T, M, Y, C⟩) && M.all vNm) = _; rw [hnO]
  have HTXF := hide (vfd_tx (d := ⟨3, N, T, M, Y, C⟩))
  have HTYF := hide (vfd_ty (d := ⟨3, N, T, M, Y, C⟩))
  have HNSF := hide (vfd_ns (d := ⟨3, N, T, M, Y, C⟩))
  have HLOF := hide (vfd_lo (d := ⟨3, N, T, M, Y, C⟩))
  have HOKF := hide (vfd_ok (d := ⟨3, N, T, M, Y, C⟩))
  simp only [hgN] at HOKF
  simp only at HLOF
  obtain ⟨V, hV⟩ : ∃ V, vFd ⟨3, N, T, M, Y, C⟩ = V := ⟨_, rfl⟩
  rw [hV] at HTXF HTYF HNSF HLOF HOKF ⊢
  have HE := hide hb.each
  have hyl := hb.types
  have hml := hb.names
  have htl := hb.text
  obtain ⟨ay, by_, oy, cy, hvy, hay, hcy⟩ := h.types
  obtain ⟨an, bn, on, cn, hvn, han, hcn⟩ := h.names
  obtain ⟨at_, bt, ot, ct, hvt, hat, hct⟩ := h.text
  simp only at hvy hvn hvt hay han hat hcy hcn hct hyl hml htl HE
  subst hvy hvn hvt
  have HC := hide hcn
  have HW := hide hW1
  have HB1 := hide hB1
  have HBK := hide hBk
  have b0 := HBK.out.cell 0
  have b1 := HBK.out.cell 1
  have b2 := HBK.out.cell 2
  have b3 := HBK.out.cell 3
  have b4 := HBK.out.cell 4
  simp only [List.getElem?_toArray, List.getElem?_cons_succ, List.getElem?_cons_zero] at b0 b1 b2 b3 b4
  clear hW1 hB1 hBk hcy hct hcn hat hay h hb hnO hgN hV
  by_cases c1 : Y.length ≠ 0
  · have e1 : ((Y.length : Int) != 0) = true := by rw [bne_iff_ne]; omega
    have HV : Hid (V = false) := HTYF.out (by rw [HTY.out, beq_eq_false_iff_ne]; exact c1)
    clear c1
    go_enter Tryd.func44, Tryd.ntmps44
    go_wp2_with fail
    rw [HW.out]
    go_wp2
    all_goals go_ret
    all_goals exact ⟨by rw [HV.out]; rfl, HB1.out⟩
  have c1 : Y.length = 0 := by omega
  have HVY : Hid (vTy ⟨3, N, T, M, Y, C⟩ = true) := by show _ = _; rw [HTY.out, beq_iff_eq]; exact c1
  have e1 : ((Y.length : Int) != 0) = false := by rw [bne_eq_false_iff_eq]; omega
  by_cases c2 : M.length ≠ 1
  · have e2 : ((M.length : Int) != 1) = true := by rw [bne_iff_ne]; omega
    have HV : Hid (V = false) := HNSF.out (by rw [HNS.out, beq_eq_false_iff_ne.2 (show ¬ (M.length : Int) = 1 by omega), Bool.false_and])
    clear c1 c2
    go_enter Tryd.func44, Tryd.ntmps44
    go_wp2_with fail
    rw [HW.out]
    go_wp2
    all_goals go_ret
    all_goals exact ⟨by rw [HV.out]; rfl, HB1.out⟩
  have c2 : M.length = 1 := by omega
  have e2 : ((M.length : Int) != 1) = false := by rw [bne_eq_false_iff_eq]; omega
  have HNS2 : Hid (vNs ⟨3, N, T, M, Y, C⟩ = M.all vNm) := by show _ = _; rw [HNS.out, beq_iff_eq.2 (show (M.length : Int) = 1 by omega), Bool.true_and]
  have HQ : Hid (M.length = 1) := c2
  clear c1 c2
  go_enter Tryd.func44, Tryd.ntmps44
  go_wp2_with fail
  rw [HW.out]
  go_wp2
  go_loopw [5] (fun ix wr => ∃ k : Nat, k ≤ M.length ∧ ix = .int .i64 k ∧ (M.drop k).all vNm = M.all vNm ∧ Below w.heap.size w wr ∧ Below W1.heap.size W1 wr) (fun ix _ => M.length - (intOf ix).toNat)
  case atStart => exact ⟨0, Nat.zero_le _, rfl, rfl, HB1.out, Below.refl _ _⟩
  case round =>
    obtain ⟨k, hk, rfl, hok, hb, hb1⟩ := hrel
    have HB := hide hb
    have HBW := hide hb1
    have q0 := cell_kept b0 hb1
    have q1 := cell_kept b1 hb1
    have q2 := cell_kept b2 hb1
    have q3 := cell_kept b3 hb1
    by_cases hlt : k < M.length
    · obtain rfl := han (by omega)
      obtain ⟨x, hx, hxs⟩ := HC.out k hlt
      have g := cell_kept hx hb
      have hz := HE.out k hlt
      have hd : M.drop k = M.getD k .empty :: M.drop (k + 1) := drop_at M .empty k hlt
      rw [hd, List.all_cons] at hok
      obtain ⟨s, hs⟩ : ∃ s, M.getD k .empty = s := ⟨_, rfl⟩
      rw [hs] at hxs hz hok
      have HL := hide (l2name_any x s wr (hxs.below hb) hz)
      obtain ⟨B, hB⟩ : ∃ B, vNm s = B := ⟨_, rfl⟩
      rw [hB] at HL hok
      have HOK := hide hok
      have hlq : decide ((k : Int) < 1) = true := decide_eq_true (by have := HQ.out; omega)
      have hlti : (k : Int) < (M.length : Int) := by omega
      clear hd hs hx hxs hz hok hB hb hb1 hk
      go_wp2_with fail
      refine HL.out.mono ?_
      rintro e w4 ⟨rfl, hb4⟩
      have HB4 : Hid (Below w.heap.size w w4) := HB.out.trans (hb4.mono HB.out.size)
      have HBW4 : Hid (Below W1.heap.size W1 w4) := HBW.out.trans (hb4.mono HBW.out.size)
      clear hb4
      cases B with
      | true =>
        have HR : Hid ((M.drop (k + 1)).all vNm = M.all vNm) := HOK.out
        go_wp2
        go_roundw
        case rel => exact ⟨k + 1, by omega, by go_num, HR.out, HB4.out, HBW4.out⟩
        case measure => simp [intOf]; omega
      | false =>
        have HR : Hid (M.all vNm = false) := HOK.out.symm
        have HV : Hid (V = false) := HNSF.out (by rw [HNS2.out, HR.out])
        go_wp2
        go_ret
        exact ⟨by rw [HV.out]; rfl, HB4.out⟩
    · have hlq : decide ((k : Int) < 1) = false := decide_eq_false (by have := HQ.out; omega)
      have HVN : Hid (vNs ⟨3, N, T, M, Y, C⟩ = true) := by show _ = _; rw [HNS2.out, ← hok, show k = M.length by omega, List.drop_length]; rfl
      clear hok hb hb1 hlt hk
      by_cases c3 : T.size ≠ 0
      · have e3 : ((T.size : Int) != 0) = true := by rw [bne_iff_ne]; omega
        have HV : Hid (V = false) := HTXF.out (by rw [HTX.out, beq_eq_false_iff_ne]; exact c3)
        clear c3
        go_wp2
        all_goals go_ret
        all_goals exact ⟨by rw [HV.out]; rfl, HB.out⟩
      have c3 : T.size = 0 := by omega
      have e3 : ((T.size : Int) != 0) = false := by rw [bne_eq_false_iff_eq]; omega
      have HVT : Hid (vTx ⟨3, N, T, M, Y, C⟩ = true) := by show _ = _; rw [HTX.out, beq_iff_eq]; exact c3
      clear c3
      by_cases c4 : 0 ≤ N
      · have d4 : decide ((0 : Int) ≤ N) = true := decide_eq_true c4
        have HV : Hid (V = decide (N ≤ 0)) := HOKF.out HVT.out HVY.out HVN.out c4
        clear c4
        go_wp2
        all_goals go_ret
        all_goals exact ⟨by rw [HV.out]; rfl, HB.out⟩
      · have d4 : decide ((0 : Int) ≤ N) = false := decide_eq_false c4
        have HV : Hid (V = false) := HLOF.out (by omega)
        clear c4
        go_wp2
        all_goals go_ret
        all_goals exact ⟨by rw [HV.out]; rfl, HB.out⟩

set_option maxHeartbeats 4000000 in
set_option maxRecDepth 1000000 in
theorem fields_4 (N C : Int) (T : ByteArray) (M : List ByteArray) (Y : List Int) (vt vn vy : Value) (w : World) (h : NV w ⟨4, N, T, M, Y, C⟩ vt vn vy) (hb : NB ⟨4, N, T, M, Y, C⟩) :
    Calls Tryd.prog 44 #[.agg #[.int .i64 4, .int .i64 N, vt, vn, vy, .int .i64 C]] w fun e w' => e = .returned (.bool (vFd ⟨4, N, T, M, Y, C⟩)) ∧ Below w.heap.size w w' := by
  obtain ⟨W1, hW1⟩ : ∃ W1, w.alloc (.cells #[.int .i64 4, .int .i64 N, vt, vn, vy, .int .i64 C] 42) = W1 := ⟨_, rfl⟩
  have hB1 : Below w.heap.size w W1 := by rw [← hW1]; exact (Below.refl _ _).alloc (Nat.le_refl _) _
  have hBk : Blk W1 w.heap.size 42 #[.int .i64 4, .int .i64 N, vt, vn, vy, .int .i64 C] := by rw [← hW1]; exact Blk.new _ _ _
  have hnO : nOf ⟨4, N, T, M, Y, C⟩ = 1 := rfl
  have hgN : gNk 4 = 0 := rfl
  have HTX : Hid (vTx ⟨4, N, T, M, Y, C⟩ = (T.size == 0)) := by show _ = _; unfold vTx; rw [if_neg (show ¬ (4 : Int) = 17 from by decide)]
  have HTY : Hid (vTy ⟨4, N, T, M, Y, C⟩ = (Y.length == 0)) := by show _ = _; unfold vTy; rw [if_neg (show ¬ (4 : Int) = 1 from by decide)]
  have HNS : Hid (vNs ⟨4, N, T, M, Y, C⟩ = (((M.length : Int) == 1) && M.all vNm)) := by show (((M.length : Int) == nOf ⟨4, N, T, M, Y, C⟩) && M.all vNm) = _; rw [hnO]
  have HTXF := hide (vfd_tx (d := ⟨4, N, T, M, Y, C⟩))
  have HTYF := hide (vfd_ty (d := ⟨4, N, T, M, Y, C⟩))
  have HNSF := hide (vfd_ns (d := ⟨4, N, T, M, Y, C⟩))
  have HLOF := hide (vfd_lo (d := ⟨4, N, T, M, Y, C⟩))
  have HOKF := hide (vfd_ok (d := ⟨4, N, T, M, Y, C⟩))
  simp only [hgN] at HOKF
  simp only at HLOF
  obtain ⟨V, hV⟩ : ∃ V, vFd ⟨4, N, T, M, Y, C⟩ = V := ⟨_, rfl⟩
  rw [hV] at HTXF HTYF HNSF HLOF HOKF ⊢
  have HE := hide hb.each
  have hyl := hb.types
  have hml := hb.names
  have htl := hb.text
  obtain ⟨ay, by_, oy, cy, hvy, hay, hcy⟩ := h.types
  obtain ⟨an, bn, on, cn, hvn, han, hcn⟩ := h.names
  obtain ⟨at_, bt, ot, ct, hvt, hat, hct⟩ := h.text
  simp only at hvy hvn hvt hay han hat hcy hcn hct hyl hml htl HE
  subst hvy hvn hvt
  have HC := hide hcn
  have HW := hide hW1
  have HB1 := hide hB1
  have HBK := hide hBk
  have b0 := HBK.out.cell 0
  have b1 := HBK.out.cell 1
  have b2 := HBK.out.cell 2
  have b3 := HBK.out.cell 3
  have b4 := HBK.out.cell 4
  simp only [List.getElem?_toArray, List.getElem?_cons_succ, List.getElem?_cons_zero] at b0 b1 b2 b3 b4
  clear hW1 hB1 hBk hcy hct hcn hat hay h hb hnO hgN hV
  by_cases c1 : Y.length ≠ 0
  · have e1 : ((Y.length : Int) != 0) = true := by rw [bne_iff_ne]; omega
    have HV : Hid (V = false) := HTYF.out (by rw [HTY.out, beq_eq_false_iff_ne]; exact c1)
    clear c1
    go_enter Tryd.func44, Tryd.ntmps44
    go_wp2_with fail
    rw [HW.out]
    go_wp2
    all_goals go_ret
    all_goals exact ⟨by rw [HV.out]; rfl, HB1.out⟩
  have c1 : Y.length = 0 := by omega
  have HVY : Hid (vTy ⟨4, N, T, M, Y, C⟩ = true) := by show _ = _; rw [HTY.out, beq_iff_eq]; exact c1
  have e1 : ((Y.length : Int) != 0) = false := by rw [bne_eq_false_iff_eq]; omega
  by_cases c2 : M.length ≠ 1
  · have e2 : ((M.length : Int) != 1) = true := by rw [bne_iff_ne]; omega
    have HV : Hid (V = false) := HNSF.out (by rw [HNS.out, beq_eq_false_iff_ne.2 (show ¬ (M.length : Int) = 1 by omega), Bool.false_and])
    clear c1 c2
    go_enter Tryd.func44, Tryd.ntmps44
    go_wp2_with fail
    rw [HW.out]
    go_wp2
    all_goals go_ret
    all_goals exact ⟨by rw [HV.out]; rfl, HB1.out⟩
  have c2 : M.length = 1 := by omega
  have e2 : ((M.length : Int) != 1) = false := by rw [bne_eq_false_iff_eq]; omega
  have HNS2 : Hid (vNs ⟨4, N, T, M, Y, C⟩ = M.all vNm) := by show _ = _; rw [HNS.out, beq_iff_eq.2 (show (M.length : Int) = 1 by omega), Bool.true_and]
  have HQ : Hid (M.length = 1) := c2
  clear c1 c2
  go_enter Tryd.func44, Tryd.ntmps44
  go_wp2_with fail
  rw [HW.out]
  go_wp2
  go_loopw [5] (fun ix wr => ∃ k : Nat, k ≤ M.length ∧ ix = .int .i64 k ∧ (M.drop k).all vNm = M.all vNm ∧ Below w.heap.size w wr ∧ Below W1.heap.size W1 wr) (fun ix _ => M.length - (intOf ix).toNat)
  case atStart => exact ⟨0, Nat.zero_le _, rfl, rfl, HB1.out, Below.refl _ _⟩
  case round =>
    obtain ⟨k, hk, rfl, hok, hb, hb1⟩ := hrel
    have HB := hide hb
    have HBW := hide hb1
    have q0 := cell_kept b0 hb1
    have q1 := cell_kept b1 hb1
    have q2 := cell_kept b2 hb1
    have q3 := cell_kept b3 hb1
    by_cases hlt : k < M.length
    · obtain rfl := han (by omega)
      obtain ⟨x, hx, hxs⟩ := HC.out k hlt
      have g := cell_kept hx hb
      have hz := HE.out k hlt
      have hd : M.drop k = M.getD k .empty :: M.drop (k + 1) := drop_at M .empty k hlt
      rw [hd, List.all_cons] at hok
      obtain ⟨s, hs⟩ : ∃ s, M.getD k .empty = s := ⟨_, rfl⟩
      rw [hs] at hxs hz hok
      have HL := hide (l2name_any x s wr (hxs.below hb) hz)
      obtain ⟨B, hB⟩ : ∃ B, vNm s = B := ⟨_, rfl⟩
      rw [hB] at HL hok
      have HOK := hide hok
      have hlq : decide ((k : Int) < 1) = true := decide_eq_true (by have := HQ.out; omega)
      have hlti : (k : Int) < (M.length : Int) := by omega
      clear hd hs hx hxs hz hok hB hb hb1 hk
      go_wp2_with fail
      refine HL.out.mono ?_
      rintro e w4 ⟨rfl, hb4⟩
      have HB4 : Hid (Below w.heap.size w w4) := HB.out.trans (hb4.mono HB.out.size)
      have HBW4 : Hid (Below W1.heap.size W1 w4) := HBW.out.trans (hb4.mono HBW.out.size)
      clear hb4
      cases B with
      | true =>
        have HR : Hid ((M.drop (k + 1)).all vNm = M.all vNm) := HOK.out
        go_wp2
        go_roundw
        case rel => exact ⟨k + 1, by omega, by go_num, HR.out, HB4.out, HBW4.out⟩
        case measure => simp [intOf]; omega
      | false =>
        have HR : Hid (M.all vNm = false) := HOK.out.symm
        have HV : Hid (V = false) := HNSF.out (by rw [HNS2.out, HR.out])
        go_wp2
        go_ret
        exact ⟨by rw [HV.out]; rfl, HB4.out⟩
    · have hlq : decide ((k : Int) < 1) = false := decide_eq_false (by have := HQ.out; omega)
      have HVN : Hid (vNs ⟨4, N, T, M, Y, C⟩ = true) := by show _ = _; rw [HNS2.out, ← hok, show k = M.length by omega, List.drop_length]; rfl
      clear hok hb hb1 hlt hk
      by_cases c3 : T.size ≠ 0
      · have e3 : ((T.size : Int) != 0) = true := by rw [bne_iff_ne]; omega
        have HV : Hid (V = false) := HTXF.out (by rw [HTX.out, beq_eq_false_iff_ne]; exact c3)
        clear c3
        go_wp2
        all_goals go_ret
        all_goals exact ⟨by rw [HV.out]; rfl, HB.out⟩
      have c3 : T.size = 0 := by omega
      have e3 : ((T.size : Int) != 0) = false := by rw [bne_eq_false_iff_eq]; omega
      have HVT : Hid (vTx ⟨4, N, T, M, Y, C⟩ = true) := by show _ = _; rw [HTX.out, beq_iff_eq]; exact c3
      clear c3
      by_cases c4 : 0 ≤ N
      · have d4 : decide ((0 : Int) ≤ N) = true := decide_eq_true c4
        have HV : Hid (V = decide (N ≤ 0)) := HOKF.out HVT.out HVY.out HVN.out c4
        clear c4
        go_wp2
        all_goals go_ret
        all_goals exact ⟨by rw [HV.out]; rfl, HB.out⟩
      · have d4 : decide ((0 : Int) ≤ N) = false := decide_eq_false c4
        have HV : Hid (V = false) := HLOF.out (by omega)
        clear c4
        go_wp2
        all_goals go_ret
        all_goals exact ⟨by rw [HV.out]; rfl, HB.out⟩

set_option maxHeartbeats 4000000 in
set_option maxRecDepth 1000000 in
theorem fields_5 (N C : Int) (T : ByteArray) (M : List ByteArray) (Y : List Int) (vt vn vy : Value) (w : World) (h : NV w ⟨5, N, T, M, Y, C⟩ vt vn vy) (hb : NB ⟨5, N, T, M, Y, C⟩) :
    Calls Tryd.prog 44 #[.agg #[.int .i64 5, .int .i64 N, vt, vn, vy, .int .i64 C]] w fun e w' => e = .returned (.bool (vFd ⟨5, N, T, M, Y, C⟩)) ∧ Below w.heap.size w w' := by
  obtain ⟨W1, hW1⟩ : ∃ W1, w.alloc (.cells #[.int .i64 5, .int .i64 N, vt, vn, vy, .int .i64 C] 42) = W1 := ⟨_, rfl⟩
  have hB1 : Below w.heap.size w W1 := by rw [← hW1]; exact (Below.refl _ _).alloc (Nat.le_refl _) _
  have hBk : Blk W1 w.heap.size 42 #[.int .i64 5, .int .i64 N, vt, vn, vy, .int .i64 C] := by rw [← hW1]; exact Blk.new _ _ _
  have hnO : nOf ⟨5, N, T, M, Y, C⟩ = 1 := rfl
  have hgN : gNk 5 = 0 := rfl
  have HTX : Hid (vTx ⟨5, N, T, M, Y, C⟩ = (T.size == 0)) := by show _ = _; unfold vTx; rw [if_neg (show ¬ (5 : Int) = 17 from by decide)]
  have HTY : Hid (vTy ⟨5, N, T, M, Y, C⟩ = (Y.length == 0)) := by show _ = _; unfold vTy; rw [if_neg (show ¬ (5 : Int) = 1 from by decide)]
  have HNS : Hid (vNs ⟨5, N, T, M, Y, C⟩ = (((M.length : Int) == 1) && M.all vNm)) := by show (((M.length : Int) == nOf ⟨5, N, T, M, Y, C⟩) && M.all vNm) = _; rw [hnO]
  have HTXF := hide (vfd_tx (d := ⟨5, N, T, M, Y, C⟩))
  have HTYF := hide (vfd_ty (d := ⟨5, N, T, M, Y, C⟩))
  have HNSF := hide (vfd_ns (d := ⟨5, N, T, M, Y, C⟩))
  have HLOF := hide (vfd_lo (d := ⟨5, N, T, M, Y, C⟩))
  have HOKF := hide (vfd_ok (d := ⟨5, N, T, M, Y, C⟩))
  simp only [hgN] at HOKF
  simp only at HLOF
  obtain ⟨V, hV⟩ : ∃ V, vFd ⟨5, N, T, M, Y, C⟩ = V := ⟨_, rfl⟩
  rw [hV] at HTXF HTYF HNSF HLOF HOKF ⊢
  have HE := hide hb.each
  have hyl := hb.types
  have hml := hb.names
  have htl := hb.text
  obtain ⟨ay, by_, oy, cy, hvy, hay, hcy⟩ := h.types
  obtain ⟨an, bn, on, cn, hvn, han, hcn⟩ := h.names
  obtain ⟨at_, bt, ot, ct, hvt, hat, hct⟩ := h.text
  simp only at hvy hvn hvt hay han hat hcy hcn hct hyl hml htl HE
  subst hvy hvn hvt
  have HC := hide hcn
  have HW := hide hW1
  have HB1 := hide hB1
  have HBK := hide hBk
  have b0 := HBK.out.cell 0
  have b1 := HBK.out.cell 1
  have b2 := HBK.out.cell 2
  have b3 := HBK.out.cell 3
  have b4 := HBK.out.cell 4
  simp only [List.getElem?_toArray, List.getElem?_cons_succ, List.getElem?_cons_zero] at b0 b1 b2 b3 b4
  clear hW1 hB1 hBk hcy hct hcn hat hay h hb hnO hgN hV
  by_cases c1 : Y.length ≠ 0
  · have e1 : ((Y.length : Int) != 0) = true := by rw [bne_iff_ne]; omega
    have HV : Hid (V = false) := HTYF.out (by rw [HTY.out, beq_eq_false_iff_ne]; exact c1)
    clear c1
    go_enter Tryd.func44, Tryd.ntmps44
    go_wp2_with fail
    rw [HW.out]
    go_wp2
    all_goals go_ret
    all_goals exact ⟨by rw [HV.out]; rfl, HB1.out⟩
  have c1 : Y.length = 0 := by omega
  have HVY : Hid (vTy ⟨5, N, T, M, Y, C⟩ = true) := by show _ = _; rw [HTY.out, beq_iff_eq]; exact c1
  have e1 : ((Y.length : Int) != 0) = false := by rw [bne_eq_false_iff_eq]; omega
  by_cases c2 : M.length ≠ 1
  · have e2 : ((M.length : Int) != 1) = true := by rw [bne_iff_ne]; omega
    have HV : Hid (V = false) := HNSF.out (by rw [HNS.out, beq_eq_false_iff_ne.2 (show ¬ (M.length : Int) = 1 by omega), Bool.false_and])
    clear c1 c2
    go_enter Tryd.func44, Tryd.ntmps44
    go_wp2_with fail
    rw [HW.out]
    go_wp2
    all_goals go_ret
    all_goals exact ⟨by rw [HV.out]; rfl, HB1.out⟩
  have c2 : M.length = 1 := by omega
  have e2 : ((M.length : Int) != 1) = false := by rw [bne_eq_false_iff_eq]; omega
  have HNS2 : Hid (vNs ⟨5, N, T, M, Y, C⟩ = M.all vNm) := by show _ = _; rw [HNS.out, beq_iff_eq.2 (show (M.length : Int) = 1 by omega), Bool.true_and]
  have HQ : Hid (M.length = 1) := c2
  clear c1 c2
  go_enter Tryd.func44, Tryd.ntmps44
  go_wp2_with fail
  rw [HW.out]
  go_wp2
  go_loopw [5] (fun ix wr => ∃ k : Nat, k ≤ M.length ∧ ix = .int .i64 k ∧ (M.drop k).all vNm = M.all vNm ∧ Below w.heap.size w wr ∧ Below W1.heap.size W1 wr) (fun ix _ => M.length - (intOf ix).toNat)
  case atStart => exact ⟨0, Nat.zero_le _, rfl, rfl, HB1.out, Below.refl _ _⟩
  case round =>
    obtain ⟨k, hk, rfl, hok, hb, hb1⟩ := hrel
    have HB := hide hb
    have HBW := hide hb1
    have q0 := cell_kept b0 hb1
    have q1 := cell_kept b1 hb1
    have q2 := cell_kept b2 hb1
    have q3 := cell_kept b3 hb1
    by_cases hlt : k < M.length
    · obtain rfl := han (by omega)
      obtain ⟨x, hx, hxs⟩ := HC.out k hlt
      have g := cell_kept hx hb
      have hz := HE.out k hlt
      have hd : M.drop k = M.getD k .empty :: M.drop (k + 1) := drop_at M .empty k hlt
      rw [hd, List.all_cons] at hok
      obtain ⟨s, hs⟩ : ∃ s, M.getD k .empty = s := ⟨_, rfl⟩
      rw [hs] at hxs hz hok
      have HL := hide (l2name_any x s wr (hxs.below hb) hz)
      obtain ⟨B, hB⟩ : ∃ B, vNm s = B := ⟨_, rfl⟩
      rw [hB] at HL hok
      have HOK := hide hok
      have hlq : decide ((k : Int) < 1) = true := decide_eq_true (by have := HQ.out; omega)
      have hlti : (k : Int) < (M.length : Int) := by omega
      clear hd hs hx hxs hz hok hB hb hb1 hk
      go_wp2_with fail
      refine HL.out.mono ?_
      rintro e w4 ⟨rfl, hb4⟩
      have HB4 : Hid (Below w.heap.size w w4) := HB.out.trans (hb4.mono HB.out.size)
      have HBW4 : Hid (Below W1.heap.size W1 w4) := HBW.out.trans (hb4.mono HBW.out.size)
      clear hb4
      cases B with
      | true =>
        have HR : Hid ((M.drop (k + 1)).all vNm = M.all vNm) := HOK.out
        go_wp2
        go_roundw
        case rel => exact ⟨k + 1, by omega, by go_num, HR.out, HB4.out, HBW4.out⟩
        case measure => simp [intOf]; omega
      | false =>
        have HR : Hid (M.all vNm = false) := HOK.out.symm
        have HV : Hid (V = false) := HNSF.out (by rw [HNS2.out, HR.out])
        go_wp2
        go_ret
        exact ⟨by rw [HV.out]; rfl, HB4.out⟩
    · have hlq : decide ((k : Int) < 1) = false := decide_eq_false (by have := HQ.out; omega)
      have HVN : Hid (vNs ⟨5, N, T, M, Y, C⟩ = true) := by show _ = _; rw [HNS2.out, ← hok, show k = M.length by omega, List.drop_length]; rfl
      clear hok hb hb1 hlt hk
      by_cases c3 : T.size ≠ 0
      · have e3 : ((T.size : Int) != 0) = true := by rw [bne_iff_ne]; omega
        have HV : Hid (V = false) := HTXF.out (by rw [HTX.out, beq_eq_false_iff_ne]; exact c3)
        clear c3
        go_wp2
        all_goals go_ret
        all_goals exact ⟨by rw [HV.out]; rfl, HB.out⟩
      have c3 : T.size = 0 := by omega
      have e3 : ((T.size : Int) != 0) = false := by rw [bne_eq_false_iff_eq]; omega
      have HVT : Hid (vTx ⟨5, N, T, M, Y, C⟩ = true) := by show _ = _; rw [HTX.out, beq_iff_eq]; exact c3
      clear c3
      by_cases c4 : 0 ≤ N
      · have d4 : decide ((0 : Int) ≤ N) = true := decide_eq_true c4
        have HV : Hid (V = decide (N ≤ 0)) := HOKF.out HVT.out HVY.out HVN.out c4
        clear c4
        go_wp2
        all_goals go_ret
        all_goals exact ⟨by rw [HV.out]; rfl, HB.out⟩
      · have d4 : decide ((0 : Int) ≤ N) = false := decide_eq_false c4
        have HV : Hid (V = false) := HLOF.out (by omega)
        clear c4
        go_wp2
        all_goals go_ret
        all_goals exact ⟨by rw [HV.out]; rfl, HB.out⟩

set_option maxHeartbeats 4000000 in
set_option maxRecDepth 1000000 in
theorem fields_19 (N C : Int) (T : ByteArray) (M : List ByteArray) (Y : List Int) (vt vn vy : Value) (w : World) (h : NV w ⟨19, N, T, M, Y, C⟩ vt vn vy) (hb : NB ⟨19, N, T, M, Y, C⟩) :
    Calls Tryd.prog 44 #[.agg #[.int .i64 19, .int .i64 N, vt, vn, vy, .int .i64 C]] w fun e w' => e = .returned (.bool (vFd ⟨19, N, T, M, Y, C⟩)) ∧ Below w.heap.size w w' := by
  obtain ⟨W1, hW1⟩ : ∃ W1, w.alloc (.cells #[.int .i64 19, .int .i64 N, vt, vn, vy, .int .i64 C] 42) = W1 := ⟨_, rfl⟩
  have hB1 : Below w.heap.size w W1 := by rw [← hW1]; exact (Below.refl _ _).alloc (Nat.le_refl _) _
  have hBk : Blk W1 w.heap.size 42 #[.int .i64 19, .int .i64 N, vt, vn, vy, .int .i64 C] := by rw [← hW1]; exact Blk.new _ _ _
  have hnO : nOf ⟨19, N, T, M, Y, C⟩ = 1 := rfl
  have hgN : gNk 19 = 0 := rfl
  have HTX : Hid (vTx ⟨19, N, T, M, Y, C⟩ = (T.size == 0)) := by show _ = _; unfold vTx; rw [if_neg (show ¬ (19 : Int) = 17 from by decide)]
  have HTY : Hid (vTy ⟨19, N, T, M, Y, C⟩ = (Y.length == 0)) := by show _ = _; unfold vTy; rw [if_neg (show ¬ (19 : Int) = 1 from by decide)]
  have HNS : Hid (vNs ⟨19, N, T, M, Y, C⟩ = (((M.length : Int) == 1) && M.all vNm)) := by show (((M.length : Int) == nOf ⟨19, N, T, M, Y, C⟩) && M.all vNm) = _; rw [hnO]
  have HTXF := hide (vfd_tx (d := ⟨19, N, T, M, Y, C⟩))
  have HTYF := hide (vfd_ty (d := ⟨19, N, T, M, Y, C⟩))
  have HNSF := hide (vfd_ns (d := ⟨19, N, T, M, Y, C⟩))
  have HLOF := hide (vfd_lo (d := ⟨19, N, T, M, Y, C⟩))
  have HOKF := hide (vfd_ok (d := ⟨19, N, T, M, Y, C⟩))
  simp only [hgN] at HOKF
  simp only at HLOF
  obtain ⟨V, hV⟩ : ∃ V, vFd ⟨19, N, T, M, Y, C⟩ = V := ⟨_, rfl⟩
  rw [hV] at HTXF HTYF HNSF HLOF HOKF ⊢
  have HE := hide hb.each
  have hyl := hb.types
  have hml := hb.names
  have htl := hb.text
  obtain ⟨ay, by_, oy, cy, hvy, hay, hcy⟩ := h.types
  obtain ⟨an, bn, on, cn, hvn, han, hcn⟩ := h.names
  obtain ⟨at_, bt, ot, ct, hvt, hat, hct⟩ := h.text
  simp only at hvy hvn hvt hay han hat hcy hcn hct hyl hml htl HE
  subst hvy hvn hvt
  have HC := hide hcn
  have HW := hide hW1
  have HB1 := hide hB1
  have HBK := hide hBk
  have b0 := HBK.out.cell 0
  have b1 := HBK.out.cell 1
  have b2 := HBK.out.cell 2
  have b3 := HBK.out.cell 3
  have b4 := HBK.out.cell 4
  simp only [List.getElem?_toArray, List.getElem?_cons_succ, List.getElem?_cons_zero] at b0 b1 b2 b3 b4
  clear hW1 hB1 hBk hcy hct hcn hat hay h hb hnO hgN hV
  by_cases c1 : Y.length ≠ 0
  · have e1 : ((Y.length : Int) != 0) = true := by rw [bne_iff_ne]; omega
    have HV : Hid (V = false) := HTYF.out (by rw [HTY.out, beq_eq_false_iff_ne]; exact c1)
    clear c1
    go_enter Tryd.func44, Tryd.ntmps44
    go_wp2_with fail
    rw [HW.out]
    go_wp2
    all_goals go_ret
    all_goals exact ⟨by rw [HV.out]; rfl, HB1.out⟩
  have c1 : Y.length = 0 := by omega
  have HVY : Hid (vTy ⟨19, N, T, M, Y, C⟩ = true) := by show _ = _; rw [HTY.out, beq_iff_eq]; exact c1
  have e1 : ((Y.length : Int) != 0) = false := by rw [bne_eq_false_iff_eq]; omega
  by_cases c2 : M.length ≠ 1
  · have e2 : ((M.length : Int) != 1) = true := by rw [bne_iff_ne]; omega
    have HV : Hid (V = false) := HNSF.out (by rw [HNS.out, beq_eq_false_iff_ne.2 (show ¬ (M.length : Int) = 1 by omega), Bool.false_and])
    clear c1 c2
    go_enter Tryd.func44, Tryd.ntmps44
    go_wp2_with fail
    rw [HW.out]
    go_wp2
    all_goals go_ret
    all_goals exact ⟨by rw [HV.out]; rfl, HB1.out⟩
  have c2 : M.length = 1 := by omega
  have e2 : ((M.length : Int) != 1) = false := by rw [bne_eq_false_iff_eq]; omega
  have HNS2 : Hid (vNs ⟨19, N, T, M, Y, C⟩ = M.all vNm) := by show _ = _; rw [HNS.out, beq_iff_eq.2 (show (M.length : Int) = 1 by omega), Bool.true_and]
  have HQ : Hid (M.length = 1) := c2
  clear c1 c2
  go_enter Tryd.func44, Tryd.ntmps44
  go_wp2_with fail
  rw [HW.out]
  go_wp2
  go_loopw [5] (fun ix wr => ∃ k : Nat, k ≤ M.length ∧ ix = .int .i64 k ∧ (M.drop k).all vNm = M.all vNm ∧ Below w.heap.size w wr ∧ Below W1.heap.size W1 wr) (fun ix _ => M.length - (intOf ix).toNat)
  case atStart => exact ⟨0, Nat.zero_le _, rfl, rfl, HB1.out, Below.refl _ _⟩
  case round =>
    obtain ⟨k, hk, rfl, hok, hb, hb1⟩ := hrel
    have HB := hide hb
    have HBW := hide hb1
    have q0 := cell_kept b0 hb1
    have q1 := cell_kept b1 hb1
    have q2 := cell_kept b2 hb1
    have q3 := cell_kept b3 hb1
    by_cases hlt : k < M.length
    · obtain rfl := han (by omega)
      obtain ⟨x, hx, hxs⟩ := HC.out k hlt
      have g := cell_kept hx hb
      have hz := HE.out k hlt
      have hd : M.drop k = M.getD k .empty :: M.drop (k + 1) := drop_at M .empty k hlt
      rw [hd, List.all_cons] at hok
      obtain ⟨s, hs⟩ : ∃ s, M.getD k .empty = s := ⟨_, rfl⟩
      rw [hs] at hxs hz hok
      have HL := hide (l2name_any x s wr (hxs.below hb) hz)
      obtain ⟨B, hB⟩ : ∃ B, vNm s = B := ⟨_, rfl⟩
      rw [hB] at HL hok
      have HOK := hide hok
      have hlq : decide ((k : Int) < 1) = true := decide_eq_true (by have := HQ.out; omega)
      have hlti : (k : Int) < (M.length : Int) := by omega
      clear hd hs hx hxs hz hok hB hb hb1 hk
      go_wp2_with fail
      refine HL.out.mono ?_
      rintro e w4 ⟨rfl, hb4⟩
      have HB4 : Hid (Below w.heap.size w w4) := HB.out.trans (hb4.mono HB.out.size)
      have HBW4 : Hid (Below W1.heap.size W1 w4) := HBW.out.trans (hb4.mono HBW.out.size)
      clear hb4
      cases B with
      | true =>
        have HR : Hid ((M.drop (k + 1)).all vNm = M.all vNm) := HOK.out
        go_wp2
        go_roundw
        case rel => exact ⟨k + 1, by omega, by go_num, HR.out, HB4.out, HBW4.out⟩
        case measure => simp [intOf]; omega
      | false =>
        have HR : Hid (M.all vNm = false) := HOK.out.symm
        have HV : Hid (V = false) := HNSF.out (by rw [HNS2.out, HR.out])
        go_wp2
        go_ret
        exact ⟨by rw [HV.out]; rfl, HB4.out⟩
    · have hlq : decide ((k : Int) < 1) = false := decide_eq_false (by have := HQ.out; omega)
      have HVN : Hid (vNs ⟨19, N, T, M, Y, C⟩ = true) := by show _ = _; rw [HNS2.out, ← hok, show k = M.length by omega, List.drop_length]; rfl
      clear hok hb hb1 hlt hk
      by_cases c3 : T.size ≠ 0
      · have e3 : ((T.size : Int) != 0) = true := by rw [bne_iff_ne]; omega
        have HV : Hid (V = false) := HTXF.out (by rw [HTX.out, beq_eq_false_iff_ne]; exact c3)
        clear c3
        go_wp2
        all_goals go_ret
        all_goals exact ⟨by rw [HV.out]; rfl, HB.out⟩
      have c3 : T.size = 0 := by omega
      have e3 : ((T.size : Int) != 0) = false := by rw [bne_eq_false_iff_eq]; omega
      have HVT : Hid (vTx ⟨19, N, T, M, Y, C⟩ = true) := by show _ = _; rw [HTX.out, beq_iff_eq]; exact c3
      clear c3
      by_cases c4 : 0 ≤ N
      · have d4 : decide ((0 : Int) ≤ N) = true := decide_eq_true c4
        have HV : Hid (V = decide (N ≤ 0)) := HOKF.out HVT.out HVY.out HVN.out c4
        clear c4
        go_wp2
        all_goals go_ret
        all_goals exact ⟨by rw [HV.out]; rfl, HB.out⟩
      · have d4 : decide ((0 : Int) ≤ N) = false := decide_eq_false c4
        have HV : Hid (V = false) := HLOF.out (by omega)
        clear c4
        go_wp2
        all_goals go_ret
        all_goals exact ⟨by rw [HV.out]; rfl, HB.out⟩
end Go.Proofs.YtdlahabeegmjiaaDoor
