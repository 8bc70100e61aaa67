/-
  The walk of markDeclS.
-/
import Derived.Test.YtaapababeecmeaaDoorJLayoutDeclsDcSF
import Derived.Test.YtaapababeecmeaaDoorJLayoutDeclsMKI
namespace Go.Proofs.YtaapababeecmeaaDoor
open Go.RowKit

set_option maxHeartbeats 4000000 in
set_option maxRecDepth 1000000 in
theorem markDcS_f {w : World} {v : Value} {L : List Dc} {bl : List Nat} {k : Nat} (hs : DcSB L) (hk : k ≤ 1000000000000000) (hF : DcSF w v L bl) (hN : bl.Nodup) :
    Calls Tryd.prog 15 #[v, .int .i64 (k : Nat)] w fun e w' => e = .returned (.int .i64 (k + DcSn L L.length : Nat)) ∧ DcSM w' v L k bl ∧ Wrs bl w w' := by
  obtain ⟨a, b, o, c, V, NB, rfl, ha, hbl, hfz, hc⟩ := hF
  have HBL := hide hbl
  have hsl := hs.len
  have HLE := hide (fun i hi => DcSn_le hs i hi)
  have HSZ : Hid (∀ j, j < L.length → (L.getD j .zero).name.size ≤ 1048576) := fun j hj => (hs.each j hj).name
  have HND : Hid (0 < L.length → (∀ j, j < L.length → b ∉ NB j) ∧ ∀ i j, i < L.length → j < L.length → i ≠ j → ∀ g, g ∈ NB i → g ∉ NB j) := fun hz => by
    rw [hbl, if_pos hz, List.nodup_append] at hN
    obtain ⟨_, h2, h3⟩ := hN
    exact ⟨fun j hj hm => h3 b (List.mem_singleton.2 rfl) b (mem_flat hj hm) rfl, (flat_split h2).2⟩
  have HC := hide hc
  have HFZ := hide hfz
  clear hc hfz hN hs hbl
  go_enter Tryd.func15, Tryd.ntmps15
  go_wp2
  go_loopw [1, 5] (fun kk i wr => ∃ m : Nat, m ≤ L.length ∧ i = .int .i64 m ∧ kk = .int .i64 (k + DcSn L m : Nat) ∧ Wrs bl w wr ∧ (∀ j, j < L.length * 9 → wr.frozen? ⟨b, o + j, none⟩ = false) ∧ (∀ j, m ≤ j → j < L.length → DcC wr b (o + j * 9) (L.getD j .zero) (V j) ∧ DcF wr (L.getD j .zero) (V j) (NB j)) ∧ ∀ j, j < m → (wr.cell? ⟨b, o + j * 9, none⟩ = some (mkI (k + DcSn L j + (0))) ∧ wr.cell? ⟨b, o + j * 9 + 1, none⟩ = some (mkI (k + DcSn L j + (1))) ∧ wr.cell? ⟨b, o + j * 9 + 2, none⟩ = some (mkI (k + DcSn L j + (2))) ∧ wr.cell? ⟨b, o + j * 9 + 3, none⟩ = some (mkI (k + DcSn L j + (3))) ∧ wr.cell? ⟨b, o + j * 9 + 4, none⟩ = some (mkI (k + DcSn L j + (4))) ∧ wr.cell? ⟨b, o + j * 9 + 5, none⟩ = some (mkI (k + DcSn L j + (5))) ∧ wr.cell? ⟨b, o + j * 9 + 6, none⟩ = some (mkI (k + DcSn L j + (6))) ∧ wr.cell? ⟨b, o + j * 9 + 8, none⟩ = some (mkI (k + DcSn L j + (7 + (L.getD j .zero).name.size)))) ∧ wr.cell? ⟨b, o + j * 9 + 7, none⟩ = some (V j) ∧ BM wr (V j) ((L.getD j .zero).name.size) (k + DcSn L j + 7) (NB j)) (fun _ i _ => L.length - (intOf i).toNat)
  case atStart => exact ⟨0, Nat.zero_le _, rfl, rfl, Wrs.refl _ _, HFZ.out, fun j _ hj => HC.out j hj, fun j hj => absurd hj (Nat.not_lt_zero _)⟩
  case round =>
    obtain ⟨m, hm, rfl, rfl, hw, hfr, hun, hmk⟩ := hrel
    have HW := hide hw
    have HFR := hide hfr
    have HUN := hide hun
    have HMK := hide hmk
    clear hw hfr hun hmk
    by_cases hlt : m < L.length
    · obtain rfl := ha (by omega)
      obtain ⟨hbn, hij⟩ := HND.out (by omega)
      have HBN := hide hbn
      have HIJ := hide hij
      have hlti : (m : Int) < (L.length : Int) := by omega
      obtain ⟨hcm, hfm⟩ := HUN.out m (Nat.le_refl _) hlt
      have hle := HLE.out m (by omega)
      have hsz := HSZ.out m hlt
      obtain ⟨d, hd⟩ : ∃ d, L.getD m .zero = d := ⟨_, rfl⟩
      rw [hd] at hcm hfm hsz
      have HD := hide hd
      obtain ⟨y, hy⟩ : ∃ y, k + DcSn L m = y := ⟨_, rfl⟩
      have HY := hide hy
      have hyb : y ≤ 2000000000000000 := by omega
      rw [hy]
      obtain ⟨n, hn⟩ : ∃ n, d.name.size = n := ⟨_, rfl⟩
      have HNN := hide hn
      have hnb : n ≤ 1048576 := by omega
      have HSN : Hid (k + DcSn L (m + 1) = y + 8 + n) := by
        show k + (DcSn L m + DcN (L.getD m .zero)) = _
        rw [HD.out]
        unfold DcN
        omega
      obtain ⟨g0, g1, g2, g3, g4, g5, g6, g7, g8⟩ := hcm
      obtain ⟨av, cv, hv⟩ := hfm.slice
      rw [hv] at g7
      have HV := hide hv
      rw [hn] at hv g7
      have HG : Hid ((∃ u, wr.cell? ⟨b, o + m * 9, none⟩ = some u) ∧ (∃ u, wr.cell? ⟨b, o + m * 9 + 1, none⟩ = some u) ∧ (∃ u, wr.cell? ⟨b, o + m * 9 + 2, none⟩ = some u) ∧ (∃ u, wr.cell? ⟨b, o + m * 9 + 3, none⟩ = some u) ∧ (∃ u, wr.cell? ⟨b, o + m * 9 + 4, none⟩ = some u) ∧ (∃ u, wr.cell? ⟨b, o + m * 9 + 5, none⟩ = some u) ∧ (∃ u, wr.cell? ⟨b, o + m * 9 + 6, none⟩ = some u) ∧ (∃ u, wr.cell? ⟨b, o + m * 9 + 8, none⟩ = some u)) := ⟨⟨_, g0⟩, ⟨_, g1⟩, ⟨_, g2⟩, ⟨_, g3⟩, ⟨_, g4⟩, ⟨_, g5⟩, ⟨_, g6⟩, ⟨_, g8⟩⟩
      have HVM : Hid (wr.cell? ⟨b, o + m * 9 + 7, none⟩ = some (V m)) := by show _ = _; rw [hv]; exact g7
      have s0 := HFR.out (m * 9) (by omega)
      have s1 := HFR.out (m * 9 + 1) (by omega)
      have s2 := HFR.out (m * 9 + 2) (by omega)
      have s3 := HFR.out (m * 9 + 3) (by omega)
      have s4 := HFR.out (m * 9 + 4) (by omega)
      have s5 := HFR.out (m * 9 + 5) (by omega)
      have s6 := HFR.out (m * 9 + 6) (by omega)
      have s8 := HFR.out (m * 9 + 8) (by omega)
      simp only [← Nat.add_assoc] at s0 s1 s2 s3 s4 s5 s6 s8
      have HE1 : Hid (∀ j, j < ([mkI y, mkI (y + 1), mkI (y + 2), mkI (y + 3), mkI (y + 4), mkI (y + 5), mkI (y + 6)]).length → ∃ u, wr.cell? ⟨b, o + m * 9 + j, none⟩ = some u) := fun j hj => by
        obtain ⟨e0, e1, e2, e3, e4, e5, e6, e8⟩ := HG.out
        match j, hj with
        | 0, _ => exact e0
        | 1, _ => exact e1
        | 2, _ => exact e2
        | 3, _ => exact e3
        | 4, _ => exact e4
        | 5, _ => exact e5
        | 6, _ => exact e6
      have HF1 : Hid (BF (setRun wr b (o + m * 9) [mkI y, mkI (y + 1), mkI (y + 2), mkI (y + 3), mkI (y + 4), mkI (y + 5), mkI (y + 6)]) (.slice av n cv) d.name (NB m)) := by
        show BF _ _ _ _
        rw [← hv]
        exact hfm.keep (fun g hg => setRun_blk (fun e => HBN.out m hlt (by rw [← e]; exact hg)) _ _ _)
      have HM := hide (markB_f (w := (setRun wr b (o + m * 9) [mkI y, mkI (y + 1), mkI (y + 2), mkI (y + 3), mkI (y + 4), mkI (y + 5), mkI (y + 6)])) (k := y + 7) (by omega) (by omega) HF1.out)
      rw [hn] at HM
      clear hfm hn hy hd hbn hij
      go_wp2_with fail
      change Calls Tryd.prog 20 #[.slice av n cv, .int .i64 ((y + 7 : Nat) : Int)] (setRun wr b (o + m * 9) [mkI y, mkI (y + 1), mkI (y + 2), mkI (y + 3), mkI (y + 4), mkI (y + 5), mkI (y + 6)]) _
      refine HM.out.mono ?_
      rintro e w2 ⟨rfl, hm2, hw2⟩
      have hb2 : w2.heap[b]? = (setRun wr b (o + m * 9) [mkI y, mkI (y + 1), mkI (y + 2), mkI (y + 3), mkI (y + 4), mkI (y + 5), mkI (y + 6)]).heap[b]? := hw2.blk b (by rw [setRun_size]; exact World.block_lt_of_cell? _ _ g0) (HBN.out m hlt)
      have c2 : ∀ j, w2.cell? ⟨b, j, none⟩ = (setRun wr b (o + m * 9) [mkI y, mkI (y + 1), mkI (y + 2), mkI (y + 3), mkI (y + 4), mkI (y + 5), mkI (y + 6)]).cell? ⟨b, j, none⟩ := fun j => World.cell?_of_block (w := (setRun wr b (o + m * 9) [mkI y, mkI (y + 1), mkI (y + 2), mkI (y + 3), mkI (y + 4), mkI (y + 5), mkI (y + 6)])) (a := ⟨b, j, none⟩) hb2
      have f2 : ∀ j, w2.frozen? ⟨b, j, none⟩ = (setRun wr b (o + m * 9) [mkI y, mkI (y + 1), mkI (y + 2), mkI (y + 3), mkI (y + 4), mkI (y + 5), mkI (y + 6)]).frozen? ⟨b, j, none⟩ := fun j => World.frozen?_of_block (w := (setRun wr b (o + m * 9) [mkI y, mkI (y + 1), mkI (y + 2), mkI (y + 3), mkI (y + 4), mkI (y + 5), mkI (y + 6)])) (a := ⟨b, j, none⟩) hb2
      obtain ⟨k2, hk2⟩ : ∃ k2, y + 7 + n = k2 := ⟨_, rfl⟩
      rw [hk2]
      have HK2 := hide hk2
      have hk2b : k2 ≤ 3000000000000000 := by omega
      have r8 : w2.cell? ⟨b, o + m * 9 + 8, none⟩ = some (.int .i64 d.node) := (c2 _).trans ((setRun_off HE1.out (by simp only [List.length_cons, List.length_nil]; omega)).trans g8)
      have t8 : w2.frozen? ⟨b, o + m * 9 + 8, none⟩ = false := (f2 _).trans ((setRun_fz _ _ _ _ _).trans s8)
      have HE3 : Hid (∀ j, j < ([mkI k2]).length → ∃ u, w2.cell? ⟨b, o + m * 9 + 8 + j, none⟩ = some u) := fun j hj => by
        match j, hj with
        | 0, _ => exact ⟨_, r8⟩
      have HO : Hid (∀ j, (j < o + m * 9 ∨ o + m * 9 + 9 ≤ j) → (setRun w2 b (o + m * 9 + 8) [mkI k2]).cell? ⟨b, j, none⟩ = wr.cell? ⟨b, j, none⟩) := fun j hj => (setRun_off HE3.out (by simp only [List.length_cons, List.length_nil]; omega)).trans ((c2 _).trans (setRun_off HE1.out (by simp only [List.length_cons, List.length_nil]; omega)))
      have HB : Hid (∀ g, g < wr.heap.size → g ≠ b → g ∉ NB m → (setRun w2 b (o + m * 9 + 8) [mkI k2]).heap[g]? = wr.heap[g]?) := fun g hg h1 h2 => (setRun_blk h1 _ _ _).trans ((hw2.blk g (by rw [setRun_size]; exact hg) h2).trans (setRun_blk h1 _ _ _))
      have HM3 : Hid (BM (setRun w2 b (o + m * 9 + 8) [mkI k2]) (V m) n (y + 7) (NB m)) := by
        show BM _ _ _ _ _
        rw [hv]
        exact hm2.keep (fun g hg => setRun_blk (fun e => HBN.out m hlt (by rw [← e]; exact hg)) _ _ _)
      have HQ3 : Hid ((setRun w2 b (o + m * 9 + 8) [mkI k2]).cell? ⟨b, o + m * 9 + 7, none⟩ = some (V m)) := ((setRun_off HE3.out (by simp only [List.length_cons, List.length_nil]; omega)).trans ((c2 _).trans (setRun_off HE1.out (by simp only [List.length_cons, List.length_nil]; omega)))).trans HVM.out
      have HI3 : Hid ((setRun w2 b (o + m * 9 + 8) [mkI k2]).cell? ⟨b, o + m * 9, none⟩ = some (mkI (y)) ∧ (setRun w2 b (o + m * 9 + 8) [mkI k2]).cell? ⟨b, o + m * 9 + 1, none⟩ = some (mkI (y + 1)) ∧ (setRun w2 b (o + m * 9 + 8) [mkI k2]).cell? ⟨b, o + m * 9 + 2, none⟩ = some (mkI (y + 2)) ∧ (setRun w2 b (o + m * 9 + 8) [mkI k2]).cell? ⟨b, o + m * 9 + 3, none⟩ = some (mkI (y + 3)) ∧ (setRun w2 b (o + m * 9 + 8) [mkI k2]).cell? ⟨b, o + m * 9 + 4, none⟩ = some (mkI (y + 4)) ∧ (setRun w2 b (o + m * 9 + 8) [mkI k2]).cell? ⟨b, o + m * 9 + 5, none⟩ = some (mkI (y + 5)) ∧ (setRun w2 b (o + m * 9 + 8) [mkI k2]).cell? ⟨b, o + m * 9 + 6, none⟩ = some (mkI (y + 6)) ∧ (setRun w2 b (o + m * 9 + 8) [mkI k2]).cell? ⟨b, o + m * 9 + 8, none⟩ = some (mkI (y + (7 + n)))) := by
        have hk2' := HK2.out
        refine ⟨?_, ?_, ?_, ?_, ?_, ?_, ?_, ?_⟩
        · exact ((setRun_off HE3.out (by simp only [List.length_cons, List.length_nil]; omega)).trans (c2 _)).trans (by have := setRun_at HE1.out (i := 0) (u := mkI y) (by simp) rfl; rwa [Nat.add_zero] at this)
        · exact ((setRun_off HE3.out (by simp only [List.length_cons, List.length_nil]; omega)).trans (c2 _)).trans (setRun_at HE1.out (i := 1) (by simp) rfl)
        · exact ((setRun_off HE3.out (by simp only [List.length_cons, List.length_nil]; omega)).trans (c2 _)).trans (setRun_at HE1.out (i := 2) (by simp) rfl)
        · exact ((setRun_off HE3.out (by simp only [List.length_cons, List.length_nil]; omega)).trans (c2 _)).trans (setRun_at HE1.out (i := 3) (by simp) rfl)
        · exact ((setRun_off HE3.out (by simp only [List.length_cons, List.length_nil]; omega)).trans (c2 _)).trans (setRun_at HE1.out (i := 4) (by simp) rfl)
        · exact ((setRun_off HE3.out (by simp only [List.length_cons, List.length_nil]; omega)).trans (c2 _)).trans (setRun_at HE1.out (i := 5) (by simp) rfl)
        · exact ((setRun_off HE3.out (by simp only [List.length_cons, List.length_nil]; omega)).trans (c2 _)).trans (setRun_at HE1.out (i := 6) (by simp) rfl)
        · rw [show y + (7 + n) = k2 + 0 by omega]
          have := setRun_at HE3.out (i := 0) (u := mkI (k2 + 0)) (by simp) rfl
          exact this
      have HW3 : Hid (Wrs bl w (setRun w2 b (o + m * 9 + 8) [mkI k2])) := by
        have hbm : b ∈ bl := by rw [HBL.out]; exact List.mem_append_left _ (by rw [if_pos (by omega)]; exact List.mem_singleton.2 rfl)
        exact setRun_wrs ((setRun_wrs HW.out hbm).trans (hw2.mono (fun g hg => by rw [HBL.out]; exact List.mem_append_right _ (mem_flat hlt hg)))) hbm
      have HF3 : Hid (∀ j, j < L.length * 9 → (setRun w2 b (o + m * 9 + 8) [mkI k2]).frozen? ⟨b, o + j, none⟩ = false) := fun j hj => (setRun_fz _ _ _ _ _).trans ((f2 _).trans ((setRun_fz _ _ _ _ _).trans (HFR.out j hj)))
      clear hm2 hw2 hb2 c2 f2 hk2 HM HF1
      go_wp2
      go_roundw
      case rel =>
        refine ⟨m + 1, by omega, by go_num, ?_, HW3.out, HF3.out, fun j hj1 hj2 => ?_, fun j hj => ?_⟩
        · have h1 := HSN.out
          have h2 := HK2.out
          rw [h1]
          congr 1
          omega
        · obtain ⟨hcj, hfj⟩ := HUN.out j (by omega) hj2
          obtain ⟨q0, q1, q2, q3, q4, q5, q6, q7, q8⟩ := hcj
          refine ⟨⟨(HO.out _ (by omega)).trans q0, (HO.out _ (by omega)).trans q1, (HO.out _ (by omega)).trans q2, (HO.out _ (by omega)).trans q3, (HO.out _ (by omega)).trans q4, (HO.out _ (by omega)).trans q5, (HO.out _ (by omega)).trans q6, (HO.out _ (by omega)).trans q7, (HO.out _ (by omega)).trans q8⟩, hfj.keep (fun g hg => HB.out g (hfj.lt g hg) (fun e => HBN.out j hj2 (by rw [← e]; exact hg)) (HIJ.out j m hj2 hlt (by omega) g hg))⟩
        · by_cases e : j = m
          · subst e
            obtain ⟨q0, q1, q2, q3, q4, q5, q6, q8⟩ := HI3.out
            rw [HD.out, HNN.out, HY.out]
            exact ⟨⟨q0, q1, q2, q3, q4, q5, q6, q8⟩, HQ3.out, HM3.out⟩
          · obtain ⟨⟨q0, q1, q2, q3, q4, q5, q6, q8⟩, qq, hmj⟩ := HMK.out j (by omega)
            exact ⟨⟨(HO.out _ (by omega)).trans q0, (HO.out _ (by omega)).trans q1, (HO.out _ (by omega)).trans q2, (HO.out _ (by omega)).trans q3, (HO.out _ (by omega)).trans q4, (HO.out _ (by omega)).trans q5, (HO.out _ (by omega)).trans q6, (HO.out _ (by omega)).trans q8⟩, (HO.out _ (by omega)).trans qq, hmj.keep (fun g hg => HB.out g (hmj.lt g hg) (fun e' => HBN.out j (by omega) (by rw [← e']; exact hg)) (HIJ.out j m (by omega) hlt e g hg))⟩
      case measure => simp [intOf]; omega
    · have hge : ¬ (m : Int) < (L.length : Int) := by omega
      have e : m = L.length := by omega
      subst e
      go_wp2
      go_ret
      exact ⟨rfl, ⟨a, b, o, c, V, NB, rfl, ha, HBL.out, HMK.out⟩, HW.out⟩
end Go.Proofs.YtaapababeecmeaaDoor
