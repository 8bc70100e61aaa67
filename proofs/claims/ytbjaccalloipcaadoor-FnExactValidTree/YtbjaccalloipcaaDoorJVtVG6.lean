/-
  The walk of l2fields, where a node is a text.
-/
import Derived.Test.YtbjaccalloipcaaDoorJVtVG2
namespace Go.Proofs.YtbjaccalloipcaaDoor
open Go.RowKit

set_option maxHeartbeats 4000000 in
set_option maxRecDepth 1000000 in
theorem fields_17 (N C : Int) (T : ByteArray) (M : List ByteArray) (Y : List Int) (vt vn vy : Value) (w : World) (h : NV w ⟨17, N, T, M, Y, C⟩ vt vn vy) (hb : NB ⟨17, N, T, M, Y, C⟩) :
    Calls Tryd.prog 18 #[.agg #[.int .i64 17, .int .i64 N, vt, vn, vy, .int .i64 C]] w fun e w' => e = .returned (.bool (vFd ⟨17, N, T, M, Y, C⟩)) ∧ Below w.heap.size w w' := by
  obtain ⟨W1, hW1⟩ : ∃ W1, w.alloc (.cells #[.int .i64 17, .int .i64 N, vt, vn, vy, .int .i64 C] 35) = W1 := ⟨_, rfl⟩
  have hB1 : Below w.heap.size w W1 := by rw [← hW1]; exact (Below.refl _ _).alloc (Nat.le_refl _) _
  have hBk : Blk W1 w.heap.size 35 #[.int .i64 17, .int .i64 N, vt, vn, vy, .int .i64 C] := by rw [← hW1]; exact Blk.new _ _ _
  have hnO : nOf ⟨17, N, T, M, Y, C⟩ = 0 := rfl
  have hgN : gN 17 = 0 := rfl
  have HTX : Hid (vTx ⟨17, N, T, M, Y, C⟩ = (decide (T.size ≤ 60) && decide ((chk T).1 = 0))) := by show _ = _; unfold vTx; rw [if_pos rfl]
  have HTY : Hid (vTy ⟨17, N, T, M, Y, C⟩ = (Y.length == 0)) := by show _ = _; unfold vTy; rw [if_neg (show ¬ (17 : Int) = 1 from by decide)]
  have HNS : Hid (vNs ⟨17, N, T, M, Y, C⟩ = (((M.length : Int) == 0) && M.all vNm)) := by show (((M.length : Int) == nOf ⟨17, N, T, M, Y, C⟩) && M.all vNm) = _; rw [hnO]
  have HTXF := hide (vfd_tx (d := ⟨17, N, T, M, Y, C⟩))
  have HTYF := hide (vfd_ty (d := ⟨17, N, T, M, Y, C⟩))
  have HNSF := hide (vfd_ns (d := ⟨17, N, T, M, Y, C⟩))
  have HLOF := hide (vfd_lo (d := ⟨17, N, T, M, Y, C⟩))
  have HOKF := hide (vfd_ok (d := ⟨17, N, T, M, Y, C⟩))
  simp only [hgN] at HOKF
  simp only at HLOF
  obtain ⟨V, hV⟩ : ∃ V, vFd ⟨17, N, T, M, Y, C⟩ = V := ⟨_, rfl⟩
  rw [hV] at HTXF HTYF HNSF HLOF HOKF ⊢
  have HE := hide hb.each
  have HGD := hide (fun w2 (hb2 : Below w.heap.size w w2) => good_bs (w := w2) hb.text (h.text.below hb2))
  have hyl := hb.types
  have hml := hb.names
  have htl := hb.text
  obtain ⟨ay, by_, oy, cy, hvy, hay, hcy⟩ := h.types
  obtain ⟨an, bn, on, cn, hvn, han, hcn⟩ := h.names
  obtain ⟨at_, bt, ot, ct, hvt, hat, hct⟩ := h.text
  simp only at HGD
  simp only at hvy hvn hvt hay han hat hcy hcn hct hyl hml htl HE
  subst hvy hvn hvt
  have HC := hide hcn
  have HW := hide hW1
  have HB1 := hide hB1
  have HBK := hide hBk
  have b0 := HBK.out.cell 0
  have b1 := HBK.out.cell 1
  have b2 := HBK.out.cell 2
  have b3 := HBK.out.cell 3
  have b4 := HBK.out.cell 4
  simp only [List.getElem?_toArray, List.getElem?_cons_succ, List.getElem?_cons_zero] at b0 b1 b2 b3 b4
  clear hW1 hB1 hBk hcy hct hcn hat hay h hb hnO hgN hV
  by_cases c1 : Y.length ≠ 0
  · have e1 : ((Y.length : Int) != 0) = true := by rw [bne_iff_ne]; omega
    have HV : Hid (V = false) := HTYF.out (by rw [HTY.out, beq_eq_false_iff_ne]; exact c1)
    clear c1
    go_enter Tryd.func18, Tryd.ntmps18
    go_wp2_with fail
    rw [HW.out]
    go_wp2
    all_goals go_ret
    all_goals exact ⟨by rw [HV.out]; rfl, HB1.out⟩
  have c1 : Y.length = 0 := by omega
  have HVY : Hid (vTy ⟨17, N, T, M, Y, C⟩ = true) := by show _ = _; rw [HTY.out, beq_iff_eq]; exact c1
  have e1 : ((Y.length : Int) != 0) = false := by rw [bne_eq_false_iff_eq]; omega
  by_cases c2 : M.length ≠ 0
  · have e2 : ((M.length : Int) != 0) = true := by rw [bne_iff_ne]; omega
    have HV : Hid (V = false) := HNSF.out (by rw [HNS.out, beq_eq_false_iff_ne.2 (show ¬ (M.length : Int) = 0 by omega), Bool.false_and])
    clear c1 c2
    go_enter Tryd.func18, Tryd.ntmps18
    go_wp2_with fail
    rw [HW.out]
    go_wp2
    all_goals go_ret
    all_goals exact ⟨by rw [HV.out]; rfl, HB1.out⟩
  have c2 : M.length = 0 := by omega
  have e2 : ((M.length : Int) != 0) = false := by rw [bne_eq_false_iff_eq]; omega
  have HNS2 : Hid (vNs ⟨17, N, T, M, Y, C⟩ = M.all vNm) := by show _ = _; rw [HNS.out, beq_iff_eq.2 (show (M.length : Int) = 0 by omega), Bool.true_and]
  have HQ : Hid (M.length = 0) := c2
  clear c1 c2
  go_enter Tryd.func18, Tryd.ntmps18
  go_wp2_with fail
  rw [HW.out]
  go_wp2
  go_loopw [5] (fun ix wr => ∃ k : Nat, k ≤ M.length ∧ ix = .int .i64 k ∧ (M.drop k).all vNm = M.all vNm ∧ Below w.heap.size w wr ∧ Below W1.heap.size W1 wr) (fun ix _ => M.length - (intOf ix).toNat)
  case atStart => exact ⟨0, Nat.zero_le _, rfl, rfl, HB1.out, Below.refl _ _⟩
  case round =>
    obtain ⟨k, hk, rfl, hok, hb, hb1⟩ := hrel
    have HB := hide hb
    have HBW := hide hb1
    have q0 := cell_kept b0 hb1
    have q1 := cell_kept b1 hb1
    have q2 := cell_kept b2 hb1
    have q3 := cell_kept b3 hb1
    by_cases hlt : k < M.length
    · have := HQ.out; omega
    · have hlq : decide ((k : Int) < 0) = false := decide_eq_false (by have := HQ.out; omega)
      have HVN : Hid (vNs ⟨17, N, T, M, Y, C⟩ = true) := by show _ = _; rw [HNS2.out, ← hok, show k = M.length by omega, List.drop_length]; rfl
      clear hok hb hb1 hlt hk
      by_cases c3 : ¬ T.size ≤ 60
      · have e3 : decide ((60 : Int) < (T.size : Int)) = true := decide_eq_true (by omega)
        have HV : Hid (V = false) := HTXF.out (by rw [HTX.out, decide_eq_false c3, Bool.false_and])
        clear c3
        go_wp2
        all_goals go_ret
        all_goals exact ⟨by rw [HV.out]; rfl, HB.out⟩
      have e3 : decide ((60 : Int) < (T.size : Int)) = false := decide_eq_false (by omega)
      have HG := hide (HGD.out wr HB.out)
      obtain ⟨G, hG⟩ : ∃ G, (chk T).1 = G := ⟨_, rfl⟩
      rw [hG] at HG HTX
      rw [decide_eq_true (by omega), Bool.true_and] at HTX
      clear c3 hG
      by_cases c5 : G ≠ 0
      · have e5 : ((G : Int) == 0) = false := by rw [beq_eq_false_iff_ne]; omega
        have HV : Hid (V = false) := HTXF.out (by rw [HTX.out, decide_eq_false c5])
        rw [e5] at HG
        clear c5 e5
        go_wp2_with fail
        refine HG.out.mono ?_
        rintro e w5 ⟨rfl, hb5⟩
        have HB5 : Hid (Below w.heap.size w w5) := HB.out.trans (hb5.mono HB.out.size)
        clear hb5
        go_wp2
        all_goals go_ret
        all_goals exact ⟨by rw [HV.out]; rfl, HB5.out⟩
      have c5 : G = 0 := by omega
      have HVT : Hid (vTx ⟨17, N, T, M, Y, C⟩ = true) := by show _ = _; rw [HTX.out, decide_eq_true c5]
      have e5 : ((G : Int) == 0) = true := by rw [beq_iff_eq]; omega
      rw [e5] at HG
      clear c5 e5
      go_wp2_with fail
      refine HG.out.mono ?_
      rintro e w5 ⟨rfl, hb5⟩
      have p0 := cell_kept q0 hb5
      have p1 := cell_kept q1 hb5
      have HB5 : Hid (Below w.heap.size w w5) := HB.out.trans (hb5.mono HB.out.size)
      clear hb5
      by_cases c4 : 0 ≤ N
      · have d4 : decide ((0 : Int) ≤ N) = true := decide_eq_true c4
        have HV : Hid (V = decide (N ≤ 0)) := HOKF.out HVT.out HVY.out HVN.out c4
        clear c4
        go_wp2
        all_goals go_ret
        all_goals exact ⟨by rw [HV.out]; rfl, HB5.out⟩
      · have d4 : decide ((0 : Int) ≤ N) = false := decide_eq_false c4
        have HV : Hid (V = false) := HLOF.out (by omega)
        clear c4
        go_wp2
        all_goals go_ret
        all_goals exact ⟨by rw [HV.out]; rfl, HB5.out⟩
end Go.Proofs.YtbjaccalloipcaaDoor
