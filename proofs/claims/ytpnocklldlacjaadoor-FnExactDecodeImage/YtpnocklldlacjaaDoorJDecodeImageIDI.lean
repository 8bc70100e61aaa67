/-
  The walk of impl.DecodeImage.
-/
import Derived.Test.YtpnocklldlacjaaDoorJDecodeImageIRB
import Derived.Test.YtpnocklldlacjaaDoorJDecodeImageIRB
import Derived.Test.YtpnocklldlacjaaDoorJDecodeImageIEI
import Derived.Test.YtpnocklldlacjaaDoorJDecodeImageIPH
import Derived.Test.YtpnocklldlacjaaDoorJDecodeImageTBO
import Derived.Test.YtpnocklldlacjaaDoorJDecodeImageTBO
import Derived.BigQuiet
import Derived.Deep.QuietTactic
import Derived.Deep.RegionWith
namespace Go.Proofs.YtpnocklldlacjaaDoor
open Go.RowKit

theorem zero_own (w w' : World) : ∃ bl, TbF w' ⟨0, 0, [], [], []⟩ (.slice none 0 0) (.slice none 0 0) (.slice none 0 0) bl ∧ Fr w w' bl :=
  tb_own (TS.nil w' w.heap.size) (Nat.le_refl _) (Els.nil _ _) (Els.nil _ _) 0 0

set_option maxHeartbeats 4000000 in
set_option maxRecDepth 1000000 in
theorem implDecode_of (HRT : ∀ (w : World) (g b o c : Nat) (a : Addr) (s : ByteArray), Rz w g b o c a s (0, false) → Calls Tryd.prog 45 #[.pointer (some ⟨g, 0, none⟩)] w fun e w' => ∃ d vT vD vH st, e = .returned (tbagg d vT vD vH) ∧ RtO w g b o c a s w' d vT vD vH st)
    (s : ByteArray) (u : Value) (w : World) (hs : s.size ≤ 1048576) (hmv : MvOk w) (hT : Lib.Utf8Tabs 3 4 w) (hE : ∃ a, ErC w a) (h : BS w u s) (hc : Cp u) :
    Calls Tryd.prog 22 #[u] w fun e w' => ∃ v2 v3 v4 bl, e = .returned (.tuple #[tbagg (diF s) v2 v3 v4, .int .i64 (diC s)]) ∧ TbF w' (diF s) v2 v3 v4 bl ∧ Fr w w' bl ∧ Below w.heap.size w w' := by
  have HBS := hide h
  have HMV := hide hmv
  have HUT := hide hT
  obtain ⟨ea, he⟩ := hE
  obtain ⟨a, b, o, c, rfl, ha, hcc⟩ := h
  have hcp : s.size ≤ c := hc
  have hel : 0 < w.heap.size := World.block_lt_of_cell? _ _ he
  obtain ⟨G, hG⟩ : ∃ G, w.heap.size = G := ⟨_, rfl⟩
  obtain ⟨W0, hW0⟩ : ∃ W, ((w.alloc (.cells #[.int .i64 0, .int .i64 0, .slice none 0 0, .slice none 0 0, .slice none 0 0] 30)).alloc (.cells #[.slice a s.size c, .nilIface] 77)) = W := ⟨_, rfl⟩
  have hb0 : Below w.heap.size w W0 := by rw [← hW0]; exact ((Below.refl _ _).alloc (Nat.le_refl _) _).alloc (by rw [World.size_alloc]; omega) _
  have HG0 : Hid (Blk W0 G 30 #[.int .i64 0, .int .i64 0, .slice none 0 0, .slice none 0 0, .slice none 0 0]) := by
    rw [← hW0, ← hG]
    exact (Blk.new _ _ _).alloc _
  have HA0 : Blk W0 (G + 1) 77 #[.slice a s.size c, .nilIface] := by
    have := Blk.new (w.alloc (.cells #[.int .i64 0, .int .i64 0, .slice none 0 0, .slice none 0 0, .slice none 0 0] 30)) 77 #[.slice a s.size c, .nilIface]
    rw [hW0, World.size_alloc, hG] at this
    exact this
  have HZ : Hid (Rz W0 (G + 1) b o c ea s (0, false)) :=
    ⟨⟨Nat.zero_le _, a, HA0, fun h => ha h⟩, ⟨hs, hcp, fun j hj => cell_kept (hcc j hj) hb0⟩, he.below hb0, fun h0 hgb => by
      have : b < w.heap.size := World.block_lt_of_cell? _ _ (hcc 0 h0)
      omega, by omega⟩
  have HTB := hide (HRT W0 (G + 1) b o c ea s HZ.out)
  have HB0 := hide hb0
  have HGG := hide hG
  have HWW := hide hW0
  clear ha hcc hc he hb0 hW0 HA0 hmv hT HRT hG
  go_enter Tryd.func22, Tryd.ntmps22
  go_wp2_with fail
  rw [HGG.out, HWW.out]
  clear HWW
  refine HTB.out.mono ?_
  rintro e w1 ⟨d, vT, vD, vH, st, rfl, hr⟩
  have HR := hide hr
  clear hr HTB
  have hER : ErC w1 ea := HR.out.rz.er
  obtain ⟨_, a', hRB, _⟩ := HR.out.rz.ri
  have hc0 := hRB.cell 0
  have hc1 := hRB.cell 1
  simp only [List.getElem?_toArray, List.getElem?_cons_succ, List.getElem?_cons_zero] at hc0 hc1
  unfold ErC at hER
  obtain ⟨sp, sb⟩ := st
  have hzz := wrs_blk HR.out.wr HG0.out (by omega)
  have HZZ := hide hzz
  have hlt := hRB.lt
  obtain ⟨B, LT, LH, LD, hB, hTS, hEn, hEi, e1, e2, e3, -⟩ := HR.out.own
  obtain ⟨dw, dh, dT, dD, dP⟩ := d
  simp only at e1 e2 e3
  have hv := hTS.tbv dw dh
  rw [← e1, ← e2, ← e3] at hv
  obtain ⟨aT, cT, rfl⟩ := hv.targets.slice
  obtain ⟨aD, cD, rfl⟩ := hv.dist.slice
  obtain ⟨aH, cH, rfl⟩ := hv.hop.slice
  have HOW : Hid (∃ bl, TbF w1 ⟨dw, dh, dT, dD, dP⟩ (.slice aT dT.length cT) (.slice aD dD.length cD) (.slice aH dP.length cH) bl ∧ Fr W0 w1 bl) := by
    have := tb_own hTS hB hEn hEi dw dh
    rw [← e1, ← e2, ← e3] at this
    exact this
  clear hTS hEn hEi e1 e2 e3 hB hzz hv
  simp only [tbagg]
  obtain ⟨W2, hW2⟩ : ∃ W, w1.alloc (.cells #[.int .i64 dw, .int .i64 dh, .slice aT dT.length cT, .slice aD dD.length cD, .slice aH dP.length cH] 30) = W := ⟨_, rfl⟩
  have hb2 : Below w1.heap.size w1 W2 := by rw [← hW2]; exact (Below.refl _ _).alloc (Nat.le_refl _) _
  have HM2 : Hid (Blk W2 w1.heap.size 30 #[.int .i64 dw, .int .i64 dh, .slice aT dT.length cT, .slice aD dD.length cD, .slice aH dP.length cH]) := by rw [← hW2]; exact Blk.new _ _ _
  have HB2 : Hid (Below w.heap.size w W2) := by
    have h1 := HR.out.wr.below (B := w.heap.size) (fun g hg => by rw [List.mem_singleton.1 hg, HGG.out]; omega) HB0.out.size
    exact (HB0.out.trans h1).trans (hb2.mono (Nat.le_trans HB0.out.size h1.size))
  have HZ2 := hide (HZZ.out.below hb2)
  have HE2 := cell_kept hER hb2
  have z0 := HM2.out.cell 0
  have z1 := HM2.out.cell 1
  have z2 := HM2.out.cell 2
  have z3 := HM2.out.cell 3
  have z4 := HM2.out.cell 4
  simp only [List.getElem?_toArray, List.getElem?_cons_succ, List.getElem?_cons_zero] at z0 z1 z2 z3 z4
  have y0 := HZ2.out.cell 0
  have y1 := HZ2.out.cell 1
  have y2 := HZ2.out.cell 2
  have y3 := HZ2.out.cell 3
  have y4 := HZ2.out.cell 4
  simp only [List.getElem?_toArray, List.getElem?_cons_succ, List.getElem?_cons_zero] at y0 y1 y2 y3 y4
  have k0 := HZ2.out.frozen 0
  have k1 := HZ2.out.frozen 1
  have k2 := HZ2.out.frozen 2
  have k3 := HZ2.out.frozen 3
  have k4 := HZ2.out.frozen 4
  have HBB := hide hb2
  cases sb with
  | true =>
    have hc2 := cell_kept (show w1.cell? ⟨G + 1, 1, none⟩ = some (.iface 136 (.pointer (some ea))) from hc1) hb2
    have HNO := hide (HR.out.no rfl)
    clear hc1 hc0 hRB hER hb2
    go_wp2_with fail
    refine (is_same ea _).mono ?_
    rintro e w3 ⟨rfl, rfl⟩
    go_wp2
    (try simp only [Exit.inBlock, Exit.then])
    refine bodyPost_ret (results_row_tmp rfl _ _ _ G 30 #[.int .i64 0, .int .i64 0, .slice none 0 0, .slice none 0 0, .slice none 0 0] (0, 0) rfl (HZ2.out.five _ _ _ _ _) Tryd.underlying30 (by kernel_rfl)) rfl ?_
    rw [HNO.out.1, HNO.out.2]
    obtain ⟨bl, hf, hr⟩ := zero_own w (((((w3.setCell ⟨G, 0, none⟩ (.int .i64 0)).setCell ⟨G, 1, none⟩ (.int .i64 0)).setCell ⟨G, 2, none⟩ (.slice none 0 0)).setCell ⟨G, 3, none⟩ (.slice none 0 0)).setCell ⟨G, 4, none⟩ (.slice none 0 0))
    exact ⟨_, _, _, bl, rfl, hf, hr, below_five HB2.out (by rw [HGG.out]; exact Nat.le_refl _) _ _ _ _ _⟩
  | false =>
    have hc2 := cell_kept (show w1.cell? ⟨G + 1, 1, none⟩ = some .nilIface from hc1) hb2
    have HYES := hide (HR.out.yes rfl)
    clear hc1 hc0 hRB hER hb2
    go_wp2_with fail
    refine (is_nilErr ea _).mono ?_
    rintro e w3 ⟨rfl, rfl⟩
    have HTV : Hid (TbV w3 ⟨dw, dh, dT, dD, dP⟩ (.slice aT dT.length cT) (.slice aD dD.length cD) (.slice aH dP.length cH)) := by
      obtain ⟨bl, hf, _⟩ := HOW.out
      exact hf.rd.below HBB.out
    obtain ⟨q1, q2, q3⟩ := rI_rng HYES.out
    have HEN := hide (implEncode_any ⟨dw, dh, dT, dD, dP⟩ _ _ _ w3 q2 q1 (HMV.out.below HB2.out) (Utf8Tabs_below HUT.out HB2.out) HTV.out)
    have HSM := hide (di_some HYES.out q3)
    clear q1 q2 q3
    go_wp2_with fail
    refine HEN.out.mono ?_
    rintro e w4 ⟨v, bv, rfl, hv, -, hb4⟩
    have HB4 : Hid (Below w.heap.size w w4) := HB2.out.trans (hb4.mono HB2.out.size)
    have HQ := hide (bytesEqual_any _ _ _ _ w4 hv.rd (HBS.out.below HB4.out))
    have HZ4 := hide (HZ2.out.below hb4)
    have HM4 := hide (HM2.out.below hb4)
    have HW4 := hide (HBB.out.trans (hb4.mono HBB.out.size))
    obtain ⟨av, cv, rfl⟩ := hv.rd.slice
    clear hb4 hv z0 z1 z2 z3 z4 y0 y1 y2 y3 y4 k0 k1 k2 k3 k4 HEN HE2 hc2 hW2
    have z0 := HM4.out.cell 0
    have z1 := HM4.out.cell 1
    have z2 := HM4.out.cell 2
    have z3 := HM4.out.cell 3
    have z4 := HM4.out.cell 4
    simp only [List.getElem?_toArray, List.getElem?_cons_succ, List.getElem?_cons_zero] at z0 z1 z2 z3 z4
    have y0 := HZ4.out.cell 0
    have y1 := HZ4.out.cell 1
    have y2 := HZ4.out.cell 2
    have y3 := HZ4.out.cell 3
    have y4 := HZ4.out.cell 4
    simp only [List.getElem?_toArray, List.getElem?_cons_succ, List.getElem?_cons_zero] at y0 y1 y2 y3 y4
    have k0 := HZ4.out.frozen 0
    have k1 := HZ4.out.frozen 1
    have k2 := HZ4.out.frozen 2
    have k3 := HZ4.out.frozen 3
    have k4 := HZ4.out.frozen 4
    go_wp2_with fail
    refine HQ.out.mono ?_
    rintro e w5 ⟨⟨tb, rfl, hti⟩, rfl⟩
    have HTI := hide hti
    clear hti HQ
    cases tb with
    | false =>
      have HNO := hide (HSM.out.2 (fun h => by have := HTI.out.2 h; cases this))
      go_wp2
      (try simp only [Exit.inBlock, Exit.then])
      refine bodyPost_ret (results_row_tmp rfl _ _ _ G 30 #[.int .i64 0, .int .i64 0, .slice none 0 0, .slice none 0 0, .slice none 0 0] (0, 0) rfl (HZ4.out.five _ _ _ _ _) Tryd.underlying30 (by kernel_rfl)) rfl ?_
      rw [HNO.out.1, HNO.out.2]
      obtain ⟨bl, hf, hr⟩ := zero_own w (((((w5.setCell ⟨G, 0, none⟩ (.int .i64 0)).setCell ⟨G, 1, none⟩ (.int .i64 0)).setCell ⟨G, 2, none⟩ (.slice none 0 0)).setCell ⟨G, 3, none⟩ (.slice none 0 0)).setCell ⟨G, 4, none⟩ (.slice none 0 0))
      exact ⟨_, _, _, bl, rfl, hf, hr, below_five HB4.out (by rw [HGG.out]; exact Nat.le_refl _) _ _ _ _ _⟩
    | true =>
      have HYY := hide (HSM.out.1 (HTI.out.1 rfl))
      go_wp2
      (try simp only [Exit.inBlock, Exit.then])
      refine bodyPost_ret (results_row_tmp rfl _ _ _ G 30 #[.int .i64 dw, .int .i64 dh, .slice aT dT.length cT, .slice aD dD.length cD, .slice aH dP.length cH] (0, 0) rfl (HZ4.out.five _ _ _ _ _) Tryd.underlying30 (by kernel_rfl)) rfl ?_
      rw [HYY.out.1, HYY.out.2]
      obtain ⟨bl, hf, hr⟩ := HOW.out
      have hwr : Wrs [G] w1 (((((w5.setCell ⟨G, 0, none⟩ (.int .i64 dw)).setCell ⟨G, 1, none⟩ (.int .i64 dh)).setCell ⟨G, 2, none⟩ (.slice aT dT.length cT)).setCell ⟨G, 3, none⟩ (.slice aD dD.length cD)).setCell ⟨G, 4, none⟩ (.slice aH dP.length cH)) :=
        (((((Wrs.of_below HW4.out).set (List.mem_singleton.2 rfl) _).set (List.mem_singleton.2 rfl) _).set (List.mem_singleton.2 rfl) _).set (List.mem_singleton.2 rfl) _).set (List.mem_singleton.2 rfl) _
      have hGl := HG0.out.lt
      refine ⟨_, _, _, bl, rfl, hf.keep (fun g hg => hwr.blk g (hr.hi g hg) (fun hm => ?_)), hr.mono HB0.out.size hwr.size, below_five HB4.out (by rw [HGG.out]; exact Nat.le_refl _) _ _ _ _ _⟩
      have := hr.lo g hg
      have := List.mem_singleton.1 hm
      omega
end Go.Proofs.YtpnocklldlacjaaDoor
