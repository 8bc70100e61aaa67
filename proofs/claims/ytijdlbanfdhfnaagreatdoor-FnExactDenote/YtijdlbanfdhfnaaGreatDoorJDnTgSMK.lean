/-
  The walk of markTargetS.
  The walk of markLayout.
-/
import Derived.Test.YtijdlbanfdhfnaaGreatDoorJDnTgS2
import Derived.Test.YtijdlbanfdhfnaaGreatDoorJDnDcS1
namespace Go.Proofs.YtijdlbanfdhfnaaGreatDoor
open Go.RowKit

set_option maxHeartbeats 4000000 in
set_option maxRecDepth 1000000 in
theorem markTgS_f {w : World} {v : Value} {L : List Tg} {bl : List Nat} {k : Nat} (hs : TgSB L) (hk : k ≤ 1000000000000000) (hF : TgSF w v L bl) (hN : bl.Nodup) :
    Calls Tryz.prog 35 #[v, .int .i64 (k : Nat)] w fun e w' => e = .returned (.int .i64 (k + TgSn L L.length : Nat)) ∧ TgSM w' v L k bl ∧ Wrs bl w w' := by
  obtain ⟨a, b, o, c, V, NB, rfl, ha, hbl, hfz, hc⟩ := hF
  have HBL := hide hbl
  have hsl := hs.len
  have HLE := hide (fun i hi => TgSn_le hs i hi)
  have HSZ : Hid (∀ j, j < L.length → (L.getD j .zero).name.size ≤ 1048576) := fun j hj => (hs.each j hj).name
  have HND : Hid (0 < L.length → (∀ j, j < L.length → b ∉ NB j) ∧ ∀ i j, i < L.length → j < L.length → i ≠ j → ∀ g, g ∈ NB i → g ∉ NB j) := fun hz => by
    rw [hbl, if_pos hz, List.nodup_append] at hN
    obtain ⟨_, h2, h3⟩ := hN
    exact ⟨fun j hj hm => h3 b (List.mem_singleton.2 rfl) b (mem_flat hj hm) rfl, (flat_split h2).2⟩
  have HC := hide hc
  have HFZ := hide hfz
  clear hc hfz hN hs hbl
  go_enter Tryz.func35, Tryz.ntmps35
  go_wp2
  go_loopw [1, 5] (fun kk i wr => ∃ m : Nat, m ≤ L.length ∧ i = .int .i64 m ∧ kk = .int .i64 (k + TgSn L m : Nat) ∧ Wrs bl w wr ∧ (∀ j, j < L.length * 3 → wr.frozen? ⟨b, o + j, none⟩ = false) ∧ (∀ j, m ≤ j → j < L.length → TgC wr b (o + j * 3) (L.getD j .zero) (V j) ∧ TgF wr (L.getD j .zero) (V j) (NB j)) ∧ ∀ j, j < m → (wr.cell? ⟨b, o + j * 3 + 1, none⟩ = some (mkI (k + TgSn L j + (0 + (L.getD j .zero).name.size))) ∧ wr.cell? ⟨b, o + j * 3 + 2, none⟩ = some (mkI (k + TgSn L j + (1 + (L.getD j .zero).name.size)))) ∧ wr.cell? ⟨b, o + j * 3, none⟩ = some (V j) ∧ BM wr (V j) ((L.getD j .zero).name.size) (k + TgSn L j + 0) (NB j)) (fun _ i _ => L.length - (intOf i).toNat)
  case atStart => exact ⟨0, Nat.zero_le _, rfl, rfl, Wrs.refl _ _, HFZ.out, fun j _ hj => HC.out j hj, fun j hj => absurd hj (Nat.not_lt_zero _)⟩
  case round =>
    obtain ⟨m, hm, rfl, rfl, hw, hfr, hun, hmk⟩ := hrel
    have HW := hide hw
    have HFR := hide hfr
    have HUN := hide hun
    have HMK := hide hmk
    clear hw hfr hun hmk
    by_cases hlt : m < L.length
    · obtain rfl := ha (by omega)
      obtain ⟨hbn, hij⟩ := HND.out (by omega)
      have HBN := hide hbn
      have HIJ := hide hij
      have hlti : (m : Int) < (L.length : Int) := by omega
      obtain ⟨hcm, hfm⟩ := HUN.out m (Nat.le_refl _) hlt
      have hle := HLE.out m (by omega)
      have hsz := HSZ.out m hlt
      obtain ⟨d, hd⟩ : ∃ d, L.getD m .zero = d := ⟨_, rfl⟩
      rw [hd] at hcm hfm hsz
      have HD := hide hd
      obtain ⟨y, hy⟩ : ∃ y, k + TgSn L m = y := ⟨_, rfl⟩
      have HY := hide hy
      have hyb : y ≤ 2000000000000000 := by omega
      rw [hy]
      obtain ⟨n, hn⟩ : ∃ n, d.name.size = n := ⟨_, rfl⟩
      have HNN := hide hn
      have hnb : n ≤ 1048576 := by omega
      have HSN : Hid (k + TgSn L (m + 1) = y + 2 + n) := by
        show k + (TgSn L m + TgN (L.getD m .zero)) = _
        rw [HD.out]
        unfold TgN
        omega
      obtain ⟨g0, g1, g2⟩ := hcm
      obtain ⟨av, cv, hv⟩ := hfm.slice
      rw [hv] at g0
      have HV := hide hv
      rw [hn] at hv g0
      have HG : Hid ((∃ u, wr.cell? ⟨b, o + m * 3 + 1, none⟩ = some u) ∧ (∃ u, wr.cell? ⟨b, o + m * 3 + 2, none⟩ = some u)) := ⟨⟨_, g1⟩, ⟨_, g2⟩⟩
      have HVM : Hid (wr.cell? ⟨b, o + m * 3, none⟩ = some (V m)) := by show _ = _; rw [hv]; exact g0
      have s1 := HFR.out (m * 3 + 1) (by omega)
      have s2 := HFR.out (m * 3 + 2) (by omega)
      simp only [← Nat.add_assoc] at s1 s2
      have HF1 : Hid (BF wr (.slice av n cv) d.name (NB m)) := by
        show BF _ _ _ _
        rw [← hv]
        exact hfm
      have HM := hide (markB_f (w := wr) (k := y + 0) (by omega) (by omega) HF1.out)
      rw [hn] at HM
      clear hfm hn hy hd hbn hij
      go_wp2_with fail
      change Calls Tryz.prog 33 #[.slice av n cv, .int .i64 ((y + 0 : Nat) : Int)] wr _
      refine HM.out.mono ?_
      rintro e w2 ⟨rfl, hm2, hw2⟩
      have hb2 : w2.heap[b]? = wr.heap[b]? := hw2.blk b (by exact World.block_lt_of_cell? _ _ g1) (HBN.out m hlt)
      have c2 : ∀ j, w2.cell? ⟨b, j, none⟩ = wr.cell? ⟨b, j, none⟩ := fun j => World.cell?_of_block (w := wr) (a := ⟨b, j, none⟩) hb2
      have f2 : ∀ j, w2.frozen? ⟨b, j, none⟩ = wr.frozen? ⟨b, j, none⟩ := fun j => World.frozen?_of_block (w := wr) (a := ⟨b, j, none⟩) hb2
      obtain ⟨k2, hk2⟩ : ∃ k2, y + 0 + n = k2 := ⟨_, rfl⟩
      rw [hk2]
      have HK2 := hide hk2
      have hk2b : k2 ≤ 3000000000000000 := by omega
      have r1 : w2.cell? ⟨b, o + m * 3 + 1, none⟩ = some (.int .i64 d.kind) := (c2 _).trans g1
      have t1 : w2.frozen? ⟨b, o + m * 3 + 1, none⟩ = false := (f2 _).trans s1
      have r2 : w2.cell? ⟨b, o + m * 3 + 2, none⟩ = some (.int .i64 d.cell) := (c2 _).trans g2
      have t2 : w2.frozen? ⟨b, o + m * 3 + 2, none⟩ = false := (f2 _).trans s2
      have HE3 : Hid (∀ j, j < ([mkI k2, mkI (k2 + 1)]).length → ∃ u, w2.cell? ⟨b, o + m * 3 + 1 + j, none⟩ = some u) := fun j hj => by
        match j, hj with
        | 0, _ => exact ⟨_, r1⟩
        | 1, _ => exact ⟨_, r2⟩
      have HO : Hid (∀ j, (j < o + m * 3 ∨ o + m * 3 + 3 ≤ j) → (setRun w2 b (o + m * 3 + 1) [mkI k2, mkI (k2 + 1)]).cell? ⟨b, j, none⟩ = wr.cell? ⟨b, j, none⟩) := fun j hj => (setRun_off HE3.out (by simp only [List.length_cons, List.length_nil]; omega)).trans ((c2 _))
      have HB : Hid (∀ g, g < wr.heap.size → g ≠ b → g ∉ NB m → (setRun w2 b (o + m * 3 + 1) [mkI k2, mkI (k2 + 1)]).heap[g]? = wr.heap[g]?) := fun g hg h1 h2 => (setRun_blk h1 _ _ _).trans ((hw2.blk g (by exact hg) h2))
      have HM3 : Hid (BM (setRun w2 b (o + m * 3 + 1) [mkI k2, mkI (k2 + 1)]) (V m) n (y + 0) (NB m)) := by
        show BM _ _ _ _ _
        rw [hv]
        exact hm2.keep (fun g hg => setRun_blk (fun e => HBN.out m hlt (by rw [← e]; exact hg)) _ _ _)
      have HQ3 : Hid ((setRun w2 b (o + m * 3 + 1) [mkI k2, mkI (k2 + 1)]).cell? ⟨b, o + m * 3, none⟩ = some (V m)) := ((setRun_off HE3.out (by simp only [List.length_cons, List.length_nil]; omega)).trans ((c2 _))).trans HVM.out
      have HI3 : Hid ((setRun w2 b (o + m * 3 + 1) [mkI k2, mkI (k2 + 1)]).cell? ⟨b, o + m * 3 + 1, none⟩ = some (mkI (y + (0 + n))) ∧ (setRun w2 b (o + m * 3 + 1) [mkI k2, mkI (k2 + 1)]).cell? ⟨b, o + m * 3 + 2, none⟩ = some (mkI (y + (1 + n)))) := by
        have hk2' := HK2.out
        refine ⟨?_, ?_⟩
        · rw [show y + (0 + n) = k2 + 0 by omega]
          have := setRun_at HE3.out (i := 0) (u := mkI (k2 + 0)) (by simp) rfl
          exact this
        · rw [show y + (1 + n) = k2 + 1 by omega]
          have := setRun_at HE3.out (i := 1) (u := mkI (k2 + 1)) (by simp) rfl
          exact this
      have HW3 : Hid (Wrs bl w (setRun w2 b (o + m * 3 + 1) [mkI k2, mkI (k2 + 1)])) := by
        have hbm : b ∈ bl := by rw [HBL.out]; exact List.mem_append_left _ (by rw [if_pos (by omega)]; exact List.mem_singleton.2 rfl)
        exact setRun_wrs ((HW.out).trans (hw2.mono (fun g hg => by rw [HBL.out]; exact List.mem_append_right _ (mem_flat hlt hg)))) hbm
      have HF3 : Hid (∀ j, j < L.length * 3 → (setRun w2 b (o + m * 3 + 1) [mkI k2, mkI (k2 + 1)]).frozen? ⟨b, o + j, none⟩ = false) := fun j hj => (setRun_fz _ _ _ _ _).trans ((f2 _).trans ((HFR.out j hj)))
      clear hm2 hw2 hb2 c2 f2 hk2 HM HF1
      go_wp2
      go_roundw
      case rel =>
        refine ⟨m + 1, by omega, by go_num, ?_, HW3.out, HF3.out, fun j hj1 hj2 => ?_, fun j hj => ?_⟩
        · have h1 := HSN.out
          have h2 := HK2.out
          rw [h1]
          congr 1
          omega
        · obtain ⟨hcj, hfj⟩ := HUN.out j (by omega) hj2
          obtain ⟨q0, q1, q2⟩ := hcj
          refine ⟨⟨(HO.out _ (by omega)).trans q0, (HO.out _ (by omega)).trans q1, (HO.out _ (by omega)).trans q2⟩, hfj.keep (fun g hg => HB.out g (hfj.lt g hg) (fun e => HBN.out j hj2 (by rw [← e]; exact hg)) (HIJ.out j m hj2 hlt (by omega) g hg))⟩
        · by_cases e : j = m
          · subst e
            obtain ⟨q1, q2⟩ := HI3.out
            rw [HD.out, HNN.out, HY.out]
            exact ⟨⟨q1, q2⟩, HQ3.out, HM3.out⟩
          · obtain ⟨⟨q1, q2⟩, qq, hmj⟩ := HMK.out j (by omega)
            exact ⟨⟨(HO.out _ (by omega)).trans q1, (HO.out _ (by omega)).trans q2⟩, (HO.out _ (by omega)).trans qq, hmj.keep (fun g hg => HB.out g (hmj.lt g hg) (fun e' => HBN.out j (by omega) (by rw [← e']; exact hg)) (HIJ.out j m (by omega) hlt e g hg))⟩
      case measure => simp [intOf]; omega
    · have hge : ¬ (m : Int) < (L.length : Int) := by omega
      have e : m = L.length := by omega
      subst e
      go_wp2
      go_ret
      exact ⟨rfl, ⟨a, b, o, c, V, NB, rfl, ha, HBL.out, HMK.out⟩, HW.out⟩
end Go.Proofs.YtijdlbanfdhfnaaGreatDoor

namespace Go.Proofs.YtijdlbanfdhfnaaGreatDoor
open Go.RowKit

set_option maxHeartbeats 4000000 in
set_option maxRecDepth 1000000 in
theorem markLy_f {w : World} {d : Ly} {v2 v3 v4 : Value} {bl : List Nat} {k : Nat} (hb : LyB d) (hk : k ≤ 100000000000000) (h : LyF w d v2 v3 v4 bl) (hN : bl.Nodup) :
    Calls Tryz.prog 11 #[lyagg d v2 v3 v4, .int .i64 (k : Nat)] w fun e w' => e = .returned (.int .i64 (k + LyNv d : Nat)) ∧ LyM w' d v2 v3 v4 k bl ∧ Wrs bl w w' := by
  obtain ⟨x0, x1, x2, x3, x4⟩ := d
  have hb2 := hb.cost
  have hb3 := hb.exits
  have hb4 := hb.targets
  simp only at hb2 hb3 hb4
  have HNV : Hid (LyNv ⟨x0, x1, x2, x3, x4⟩ = x2.length + x3.length + (TgSn x4 x4.length)) := rfl
  have hc2 : x2.length ≤ 2000000000000 := by omega
  have hc3 : x3.length ≤ 2000000000000 := by omega
  have hc4 : (TgSn x4 x4.length) ≤ 2000000000000 := by have := TgSn_le hb4 _ (Nat.le_refl _); have := hb4.len; omega
  obtain ⟨bl2, bl3, bl4, hbl, h2, h3, h4⟩ := h
  simp only at h2 h3 h4
  obtain ⟨a2, c2, e2⟩ := h2.slice
  obtain ⟨a3, c3, e3⟩ := h3.slice
  obtain ⟨a4, c4, e4⟩ := h4.slice
  subst e2 e3 e4
  rw [hbl] at hN
  simp only [List.nodup_append, List.mem_append] at hN
  obtain ⟨nd2, ⟨nd3, nd4, dj3⟩, dj2⟩ := hN
  have D2_3 : Hid (∀ g, g ∈ bl3 → g ∉ bl2) := fun g hg hg2 => dj2 g hg2 g (.inl hg) rfl
  have D2_4 : Hid (∀ g, g ∈ bl4 → g ∉ bl2) := fun g hg hg2 => dj2 g hg2 g (.inr (hg)) rfl
  have D3_4 : Hid (∀ g, g ∈ bl4 → g ∉ bl3) := fun g hg hg2 => dj3 g hg2 g (hg) rfl
  have HBL := hide hbl
  clear hbl hb dj2 dj3
  unfold lyagg
  simp only
  obtain ⟨W0, hW0⟩ : ∃ W, w.alloc (.cells #[.int .i64 x0, .int .i64 x1, .slice a2 (x2.length) c2, .slice a3 (x3.length) c3, .slice a4 (x4.length) c4] 27) = W := ⟨_, rfl⟩
  have HB0 : Hid (Below w.heap.size w W0) := by rw [← hW0]; exact (Below.refl _ _).alloc (Nat.le_refl _) _
  have HA0 : Hid (Blk W0 w.heap.size 27 #[.int .i64 x0, .int .i64 x1, .slice a2 (x2.length) c2, .slice a3 (x3.length) c3, .slice a4 (x4.length) c4]) := by rw [← hW0]; exact Blk.new _ _ _
  have HZ : Hid ((∀ g ∈ bl2, g < w.heap.size) ∧ (∀ g ∈ bl3, g < w.heap.size) ∧ (∀ g ∈ bl4, g < w.heap.size)) := ⟨h2.lt, h3.lt, h4.lt⟩
  have H2_0 := hide (h2.below HB0.out)
  have H3_0 := hide (h3.below HB0.out)
  have H4_0 := hide (h4.below HB0.out)
  have HW := hide hW0
  clear hW0 h2 h3 h4
  go_enter Tryz.func11, Tryz.ntmps11
  go_wp2_with fail
  rw [HW.out]
  clear HW
  refine (markI_f (w := W0) (k := k) (by omega) (by omega) H2_0.out).mono ?_
  rintro e w2 ⟨rfl, hm2, hw2⟩
  have HM2_2 := hide hm2
  have HWR2 := hide hw2
  have hbx2 : w2.heap[w.heap.size]? = W0.heap[w.heap.size]? := hw2.blk _ HA0.out.lt (fun hm => Nat.lt_irrefl _ (HZ.out.1 _ hm))
  have HA2 : Hid (Blk w2 w.heap.size 27 #[.int .i64 x0, .int .i64 x1, .slice a2 (x2.length) c2, .slice a3 (x3.length) c3, .slice a4 (x4.length) c4]) := hbx2.trans HA0.out
  have H3_2 := hide (H3_0.out.keep (fun g hg => hw2.blk g (H3_0.out.lt g hg) (D2_3.out g hg)))
  have H4_2 := hide (H4_0.out.keep (fun g hg => hw2.blk g (H4_0.out.lt g hg) (D2_4.out g hg)))
  have HT2 : Hid (Wrs (bl2) W0 w2) := hw2
  clear hm2 hw2 hbx2
  obtain ⟨k2, hk2⟩ : ∃ k2, k + x2.length = k2 := ⟨_, rfl⟩
  rw [hk2]
  have HK2 := hide hk2
  have hkb2 : k2 ≤ 103000000000000 := by omega
  clear hk2
  have z3 := HA2.out.cell 3
  simp only [List.getElem?_toArray, List.getElem?_cons_succ, List.getElem?_cons_zero] at z3
  go_wp2_with fail
  clear z3
  refine (markI_f (w := w2) (k := k2) (by omega) (by omega) H3_2.out).mono ?_
  rintro e w3 ⟨rfl, hm3, hw3⟩
  have HM3_3 := hide hm3
  have HWR3 := hide hw3
  have hbx3 : w3.heap[w.heap.size]? = w2.heap[w.heap.size]? := hw3.blk _ HA2.out.lt (fun hm => Nat.lt_irrefl _ (HZ.out.2.1 _ hm))
  have HA3 : Hid (Blk w3 w.heap.size 27 #[.int .i64 x0, .int .i64 x1, .slice a2 (x2.length) c2, .slice a3 (x3.length) c3, .slice a4 (x4.length) c4]) := hbx3.trans HA2.out
  have H4_3 := hide (H4_2.out.keep (fun g hg => hw3.blk g (H4_2.out.lt g hg) (D3_4.out g hg)))
  have HM2_3 := hide (HM2_2.out.keep (fun g hg => hw3.blk g (HM2_2.out.lt g hg) (fun h => D2_3.out g h hg)))
  clear hm3 hw3 hbx3
  obtain ⟨k3, hk3⟩ : ∃ k3, k2 + x3.length = k3 := ⟨_, rfl⟩
  rw [hk3]
  have HK3 := hide hk3
  have hkb3 : k3 ≤ 106000000000000 := by omega
  clear hk3
  have z4 := HA3.out.cell 4
  simp only [List.getElem?_toArray, List.getElem?_cons_succ, List.getElem?_cons_zero] at z4
  go_wp2_with fail
  clear z4
  refine (markTgS_f (w := w3) (k := k3) hb4 (by omega) H4_3.out nd4).mono ?_
  rintro e w4 ⟨rfl, hm4, hw4⟩
  have HM4_4 := hide hm4
  have HWR4 := hide hw4
  have hbx4 : w4.heap[w.heap.size]? = w3.heap[w.heap.size]? := hw4.blk _ HA3.out.lt (fun hm => Nat.lt_irrefl _ (HZ.out.2.2 _ hm))
  have HA4 : Hid (Blk w4 w.heap.size 27 #[.int .i64 x0, .int .i64 x1, .slice a2 (x2.length) c2, .slice a3 (x3.length) c3, .slice a4 (x4.length) c4]) := hbx4.trans HA3.out
  have HM2_4 := hide (HM2_3.out.keep (fun g hg => hw4.blk g (HM2_3.out.lt g hg) (fun h => D2_4.out g h hg)))
  have HM3_4 := hide (HM3_3.out.keep (fun g hg => hw4.blk g (HM3_3.out.lt g hg) (fun h => D3_4.out g h hg)))
  clear hm4 hw4 hbx4
  obtain ⟨k4, hk4⟩ : ∃ k4, k3 + (TgSn x4 x4.length) = k4 := ⟨_, rfl⟩
  rw [hk4]
  have HK4 := hide hk4
  have hkb4 : k4 ≤ 109000000000000 := by omega
  clear hk4
  go_wp2
  go_ret
  have HT : Hid (Wrs (bl2 ++ (bl3 ++ (bl4))) w w4) := by
    exact ((((Wrs.of_below HB0.out).trans (HWR2.out.mono (fun g hg => List.mem_append_left _ hg))).trans (HWR3.out.mono (fun g hg => List.mem_append_right _ (List.mem_append_left _ hg)))).trans (HWR4.out.mono (fun g hg => List.mem_append_right _ (List.mem_append_right _ (hg)))))
  refine ⟨?_, ⟨bl2, bl3, bl4, HBL.out, ?_, ?_, ?_⟩, by rw [HBL.out]; exact HT.out⟩
  · have e2 := HK2.out; have e3 := HK3.out; have e4 := HK4.out
    have ek : k + LyNv ⟨x0, x1, x2, x3, x4⟩ = k4 := by rw [HNV.out]; omega
    rw [ek]
    rfl
  · exact HM2_4.out
  · have e2 := HK2.out
    have ek : k + x2.length = k2 := by omega
    simp only
    rw [ek]
    exact HM3_4.out
  · have e2 := HK2.out; have e3 := HK3.out
    have ek : k + x2.length + x3.length = k3 := by omega
    simp only
    rw [ek]
    exact HM4_4.out
end Go.Proofs.YtijdlbanfdhfnaaGreatDoor
