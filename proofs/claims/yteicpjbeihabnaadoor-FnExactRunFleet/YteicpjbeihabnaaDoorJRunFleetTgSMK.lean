/-
  The walk of markTargetS.
-/
import Derived.Test.YteicpjbeihabnaaDoorJRunFleetTgSF
import Derived.Test.YteicpjbeihabnaaDoorJRunFleetMKI
namespace Go.Proofs.YteicpjbeihabnaaDoor
open Go.RowKit

set_option maxHeartbeats 4000000 in
set_option maxRecDepth 1000000 in
theorem markTgS_f {w : World} {v : Value} {L : List Tg} {bl : List Nat} {k : Nat} (hs : TgSB L) (hk : k ≤ 1000000000000000) (hF : TgSF w v L bl) (hN : bl.Nodup) :
    Calls Tryd.prog 53 #[v, .int .i64 (k : Nat)] w fun e w' => e = .returned (.int .i64 (k + TgSn L L.length : Nat)) ∧ TgSM w' v L k bl ∧ Wrs bl w w' := by
  obtain ⟨a, b, o, c, V, NB, rfl, ha, hbl, hfz, hc⟩ := hF
  have HBL := hide hbl
  have hsl := hs.len
  have HLE := hide (fun i hi => TgSn_le hs i hi)
  have HSZ : Hid (∀ j, j < L.length → (L.getD j .zero).name.size ≤ 1048576) := fun j hj => (hs.each j hj).name
  have HND : Hid (0 < L.length → (∀ j, j < L.length → b ∉ NB j) ∧ ∀ i j, i < L.length → j < L.length → i ≠ j → ∀ g, g ∈ NB i → g ∉ NB j) := fun hz => by
    rw [hbl, if_pos hz, List.nodup_append] at hN
    obtain ⟨_, h2, h3⟩ := hN
    exact ⟨fun j hj hm => h3 b (List.mem_singleton.2 rfl) b (mem_flat hj hm) rfl, (flat_split h2).2⟩
  have HC := hide hc
  have HFZ := hide hfz
  clear hc hfz hN hs hbl
  go_enter Tryd.func53, Tryd.ntmps53
  go_wp2
  go_loopw [1, 5] (fun kk i wr => ∃ m : Nat, m ≤ L.length ∧ i = .int .i64 m ∧ kk = .int .i64 (k + TgSn L m : Nat) ∧ Wrs bl w wr ∧ (∀ j, j < L.length * 3 → wr.frozen? ⟨b, o + j, none⟩ = false) ∧ (∀ j, m ≤ j → j < L.length → TgC wr b (o + j * 3) (L.getD j .zero) (V j) ∧ TgF wr (L.getD j .zero) (V j) (NB j)) ∧ ∀ j, j < m → (wr.cell? ⟨b, o + j * 3 + 1, none⟩ = some (mkI (k + TgSn L j + (0 + (L.getD j .zero).name.size))) ∧ wr.cell? ⟨b, o + j * 3 + 2, none⟩ = some (mkI (k + TgSn L j + (1 + (L.getD j .zero).name.size)))) ∧ wr.cell? ⟨b, o + j * 3, none⟩ = some (V j) ∧ BM wr (V j) ((L.getD j .zero).name.size) (k + TgSn L j + 0) (NB j)) (fun _ i _ => L.length - (intOf i).toNat)
  case atStart => exact ⟨0, Nat.zero_le _, rfl, rfl, Wrs.refl _ _, HFZ.out, fun j _ hj => HC.out j hj, fun j hj => absurd hj (Nat.not_lt_zero _)⟩
  case round =>
    obtain ⟨m, hm, rfl, rfl, hw, hfr, hun, hmk⟩ := hrel
    have HW := hide hw
    have HFR := hide hfr
    have HUN := hide hun
    have HMK := hide hmk
    clear hw hfr hun hmk
    by_cases hlt : m < L.length
    · obtain rfl := ha (by omega)
      obtain ⟨hbn, hij⟩ := HND.out (by omega)
      have HBN := hide hbn
      have HIJ := hide hij
      have hlti : (m : Int) < (L.length : Int) := by omega
      obtain ⟨hcm, hfm⟩ := HUN.out m (Nat.le_refl _) hlt
      have hle := HLE.out m (by omega)
      have hsz := HSZ.out m hlt
      obtain ⟨d, hd⟩ : ∃ d, L.getD m .zero = d := ⟨_, rfl⟩
      rw [hd] at hcm hfm hsz
      have HD := hide hd
      obtain ⟨y, hy⟩ : ∃ y, k + TgSn L m = y := ⟨_, rfl⟩
      have HY := hide hy
      have hyb : y ≤ 2000000000000000 := by omega
      rw [hy]
      obtain ⟨n, hn⟩ : ∃ n, d.name.size = n := ⟨_, rfl⟩
      have HNN := hide hn
      have hnb : n ≤ 1048576 := by omega
      have HSN : Hid (k + TgSn L (m + 1) = y + 2 + n) := by
        show k + (TgSn L m + TgN (L.getD m .zero)) = _
        rw [HD.out]
        unfold TgN
        omega
      obtain ⟨g0, g1, g2⟩ := hcm
      obtain ⟨av, cv, hv⟩ := hfm.slice
      rw [hv] at g0
      have HV := hide hv
      rw [hn] at hv g0
      have HG : Hid ((∃ u, wr.cell? ⟨b, o + m * 3 + 1, none⟩ = some u) ∧ (∃ u, wr.cell? ⟨b, o + m * 3 + 2, none⟩ = some u)) := ⟨⟨_, g1⟩, ⟨_, g2⟩⟩
      have HVM : Hid (wr.cell? ⟨b, o + m * 3, none⟩ = some (V m)) := by show _ = _; rw [hv]; exact g0
      have s1 := HFR.out (m * 3 + 1) (by omega)
      have s2 := HFR.out (m * 3 + 2) (by omega)
      simp only [← Nat.add_assoc] at s1 s2
      have HF1 : Hid (BF wr (.slice av n cv) d.name (NB m)) := by
        show BF _ _ _ _
        rw [← hv]
        exact hfm
      have HM := hide (markB_f (w := wr) (k := y + 0) (by omega) (by omega) HF1.out)
      rw [hn] at HM
      clear hfm hn hy hd hbn hij
      go_wp2_with fail
      change Calls Tryd.prog 75 #[.slice av n cv, .int .i64 ((y + 0 : Nat) : Int)] wr _
      refine HM.out.mono ?_
      rintro e w2 ⟨rfl, hm2, hw2⟩
      have hb2 : w2.heap[b]? = wr.heap[b]? := hw2.blk b (by exact World.block_lt_of_cell? _ _ g1) (HBN.out m hlt)
      have c2 : ∀ j, w2.cell? ⟨b, j, none⟩ = wr.cell? ⟨b, j, none⟩ := fun j => World.cell?_of_block (w := wr) (a := ⟨b, j, none⟩) hb2
      have f2 : ∀ j, w2.frozen? ⟨b, j, none⟩ = wr.frozen? ⟨b, j, none⟩ := fun j => World.frozen?_of_block (w := wr) (a := ⟨b, j, none⟩) hb2
      obtain ⟨k2, hk2⟩ : ∃ k2, y + 0 + n = k2 := ⟨_, rfl⟩
      rw [hk2]
      have HK2 := hide hk2
      have hk2b : k2 ≤ 3000000000000000 := by omega
      have r1 : w2.cell? ⟨b, o + m * 3 + 1, none⟩ = some (.int .i64 d.kind) := (c2 _).trans g1
      have t1 : w2.frozen? ⟨b, o + m * 3 + 1, none⟩ = false := (f2 _).trans s1
      have r2 : w2.cell? ⟨b, o + m * 3 + 2, none⟩ = some (.int .i64 d.cell) := (c2 _).trans g2
      have t2 : w2.frozen? ⟨b, o + m * 3 + 2, none⟩ = false := (f2 _).trans s2
      have HE3 : Hid (∀ j, j < ([mkI k2, mkI (k2 + 1)]).length → ∃ u, w2.cell? ⟨b, o + m * 3 + 1 + j, none⟩ = some u) := fun j hj => by
        match j, hj with
        | 0, _ => exact ⟨_, r1⟩
        | 1, _ => exact ⟨_, r2⟩
      have HO : Hid (∀ j, (j < o + m * 3 ∨ o + m * 3 + 3 ≤ j) → (setRun w2 b (o + m * 3 + 1) [mkI k2, mkI (k2 + 1)]).cell? ⟨b, j, none⟩ = wr.cell? ⟨b, j, none⟩) := fun j hj => (setRun_off HE3.out (by simp only [List.length_cons, List.length_nil]; omega)).trans ((c2 _))
      have HB : Hid (∀ g, g < wr.heap.size → g ≠ b → g ∉ NB m → (setRun w2 b (o + m * 3 + 1) [mkI k2, mkI (k2 + 1)]).heap[g]? = wr.heap[g]?) := fun g hg h1 h2 => (setRun_blk h1 _ _ _).trans ((hw2.blk g (by exact hg) h2))
      have HM3 : Hid (BM (setRun w2 b (o + m * 3 + 1) [mkI k2, mkI (k2 + 1)]) (V m) n (y + 0) (NB m)) := by
        show BM _ _ _ _ _
        rw [hv]
        exact hm2.keep (fun g hg => setRun_blk (fun e => HBN.out m hlt (by rw [← e]; exact hg)) _ _ _)
      have HQ3 : Hid ((setRun w2 b (o + m * 3 + 1) [mkI k2, mkI (k2 + 1)]).cell? ⟨b, o + m * 3, none⟩ = some (V m)) := ((setRun_off HE3.out (by simp only [List.length_cons, List.length_nil]; omega)).trans ((c2 _))).trans HVM.out
      have HI3 : Hid ((setRun w2 b (o + m * 3 + 1) [mkI k2, mkI (k2 + 1)]).cell? ⟨b, o + m * 3 + 1, none⟩ = some (mkI (y + (0 + n))) ∧ (setRun w2 b (o + m * 3 + 1) [mkI k2, mkI (k2 + 1)]).cell? ⟨b, o + m * 3 + 2, none⟩ = some (mkI (y + (1 + n)))) := by
        have hk2' := HK2.out
        refine ⟨?_, ?_⟩
        · rw [show y + (0 + n) = k2 + 0 by omega]
          have := setRun_at HE3.out (i := 0) (u := mkI (k2 + 0)) (by simp) rfl
          exact this
        · rw [show y + (1 + n) = k2 + 1 by omega]
          have := setRun_at HE3.out (i := 1) (u := mkI (k2 + 1)) (by simp) rfl
          exact this
      have HW3 : Hid (Wrs bl w (setRun w2 b (o + m * 3 + 1) [mkI k2, mkI (k2 + 1)])) := by
        have hbm : b ∈ bl := by rw [HBL.out]; exact List.mem_append_left _ (by rw [if_pos (by omega)]; exact List.mem_singleton.2 rfl)
        exact setRun_wrs ((HW.out).trans (hw2.mono (fun g hg => by rw [HBL.out]; exact List.mem_append_right _ (mem_flat hlt hg)))) hbm
      have HF3 : Hid (∀ j, j < L.length * 3 → (setRun w2 b (o + m * 3 + 1) [mkI k2, mkI (k2 + 1)]).frozen? ⟨b, o + j, none⟩ = false) := fun j hj => (setRun_fz _ _ _ _ _).trans ((f2 _).trans ((HFR.out j hj)))
      clear hm2 hw2 hb2 c2 f2 hk2 HM HF1
      go_wp2
      go_roundw
      case rel =>
        refine ⟨m + 1, by omega, by go_num, ?_, HW3.out, HF3.out, fun j hj1 hj2 => ?_, fun j hj => ?_⟩
        · have h1 := HSN.out
          have h2 := HK2.out
          rw [h1]
          congr 1
          omega
        · obtain ⟨hcj, hfj⟩ := HUN.out j (by omega) hj2
          obtain ⟨q0, q1, q2⟩ := hcj
          refine ⟨⟨(HO.out _ (by omega)).trans q0, (HO.out _ (by omega)).trans q1, (HO.out _ (by omega)).trans q2⟩, hfj.keep (fun g hg => HB.out g (hfj.lt g hg) (fun e => HBN.out j hj2 (by rw [← e]; exact hg)) (HIJ.out j m hj2 hlt (by omega) g hg))⟩
        · by_cases e : j = m
          · subst e
            obtain ⟨q1, q2⟩ := HI3.out
            rw [HD.out, HNN.out, HY.out]
            exact ⟨⟨q1, q2⟩, HQ3.out, HM3.out⟩
          · obtain ⟨⟨q1, q2⟩, qq, hmj⟩ := HMK.out j (by omega)
            exact ⟨⟨(HO.out _ (by omega)).trans q1, (HO.out _ (by omega)).trans q2⟩, (HO.out _ (by omega)).trans qq, hmj.keep (fun g hg => HB.out g (hmj.lt g hg) (fun e' => HBN.out j (by omega) (by rw [← e']; exact hg)) (HIJ.out j m (by omega) hlt e g hg))⟩
      case measure => simp [intOf]; omega
    · have hge : ¬ (m : Int) < (L.length : Int) := by omega
      have e : m = L.length := by omega
      subst e
      go_wp2
      go_ret
      exact ⟨rfl, ⟨a, b, o, c, V, NB, rfl, ha, HBL.out, HMK.out⟩, HW.out⟩
end Go.Proofs.YteicpjbeihabnaaDoor
