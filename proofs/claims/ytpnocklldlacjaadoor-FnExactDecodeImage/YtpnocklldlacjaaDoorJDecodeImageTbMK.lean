/-
  The walk of markTables.
  heldIntS at any slice.
  The walk of heldIntSS.
  The walk of heldTargetS.
  The walk of heldTables.
-/
import Derived.Test.YtpnocklldlacjaaDoorJDecodeImageTbF
import Derived.Test.YtpnocklldlacjaaDoorJDecodeImageMK
import Derived.Test.YtpnocklldlacjaaDoorJDecodeImageTgS3
import Derived.Test.YtpnocklldlacjaaDoorJDecodeImageMKB
namespace Go.Proofs.YtpnocklldlacjaaDoor
open Go.RowKit

set_option maxHeartbeats 4000000 in
set_option maxRecDepth 1000000 in
theorem markTb_f {w : World} {d : Tb} {v2 v3 v4 : Value} {bl : List Nat} {k : Nat} (hb : TbB d) (hk : k ≤ 100000000000000) (h : TbF w d v2 v3 v4 bl) (hN : bl.Nodup) :
    Calls Tryd.prog 17 #[tbagg d v2 v3 v4, .int .i64 (k : Nat)] w fun e w' => e = .returned (.int .i64 (k + TbNv d : Nat)) ∧ TbM w' d v2 v3 v4 k bl ∧ Wrs bl w w' := by
  obtain ⟨x0, x1, x2, x3, x4⟩ := d
  have hb2 := hb.targets
  have hb3 := hb.dist
  have hb4 := hb.hop
  simp only at hb2 hb3 hb4
  have HNV : Hid (TbNv ⟨x0, x1, x2, x3, x4⟩ = (TgSn x2 x2.length) + (IISn x3 x3.length) + (IISn x4 x4.length)) := rfl
  have hc2 : (TgSn x2 x2.length) ≤ 2000000000000 := by have := TgSn_le hb2 _ (Nat.le_refl _); have := hb2.len; omega
  have hc3 : (IISn x3 x3.length) ≤ 2000000000000 := by have := IISn_le hb3 _ (Nat.le_refl _); have := hb3.len; omega
  have hc4 : (IISn x4 x4.length) ≤ 2000000000000 := by have := IISn_le hb4 _ (Nat.le_refl _); have := hb4.len; omega
  obtain ⟨bl2, bl3, bl4, hbl, h2, h3, h4⟩ := h
  simp only at h2 h3 h4
  obtain ⟨a2, c2, e2⟩ := h2.slice
  obtain ⟨a3, c3, e3⟩ := h3.slice
  obtain ⟨a4, c4, e4⟩ := h4.slice
  subst e2 e3 e4
  rw [hbl] at hN
  simp only [List.nodup_append, List.mem_append] at hN
  obtain ⟨nd2, ⟨nd3, nd4, dj3⟩, dj2⟩ := hN
  have D2_3 : Hid (∀ g, g ∈ bl3 → g ∉ bl2) := fun g hg hg2 => dj2 g hg2 g (.inl hg) rfl
  have D2_4 : Hid (∀ g, g ∈ bl4 → g ∉ bl2) := fun g hg hg2 => dj2 g hg2 g (.inr (hg)) rfl
  have D3_4 : Hid (∀ g, g ∈ bl4 → g ∉ bl3) := fun g hg hg2 => dj3 g hg2 g (hg) rfl
  have HBL := hide hbl
  clear hbl hb dj2 dj3
  unfold tbagg
  simp only
  obtain ⟨W0, hW0⟩ : ∃ W, w.alloc (.cells #[.int .i64 x0, .int .i64 x1, .slice a2 (x2.length) c2, .slice a3 (x3.length) c3, .slice a4 (x4.length) c4] 30) = W := ⟨_, rfl⟩
  have HB0 : Hid (Below w.heap.size w W0) := by rw [← hW0]; exact (Below.refl _ _).alloc (Nat.le_refl _) _
  have HA0 : Hid (Blk W0 w.heap.size 30 #[.int .i64 x0, .int .i64 x1, .slice a2 (x2.length) c2, .slice a3 (x3.length) c3, .slice a4 (x4.length) c4]) := by rw [← hW0]; exact Blk.new _ _ _
  have HZ : Hid ((∀ g ∈ bl2, g < w.heap.size) ∧ (∀ g ∈ bl3, g < w.heap.size) ∧ (∀ g ∈ bl4, g < w.heap.size)) := ⟨h2.lt, h3.lt, h4.lt⟩
  have H2_0 := hide (h2.below HB0.out)
  have H3_0 := hide (h3.below HB0.out)
  have H4_0 := hide (h4.below HB0.out)
  have HW := hide hW0
  clear hW0 h2 h3 h4
  go_enter Tryd.func17, Tryd.ntmps17
  go_wp2_with fail
  rw [HW.out]
  clear HW
  refine (markTgS_f (w := W0) (k := k) hb2 (by omega) H2_0.out nd2).mono ?_
  rintro e w2 ⟨rfl, hm2, hw2⟩
  have HM2_2 := hide hm2
  have HWR2 := hide hw2
  have hbx2 : w2.heap[w.heap.size]? = W0.heap[w.heap.size]? := hw2.blk _ HA0.out.lt (fun hm => Nat.lt_irrefl _ (HZ.out.1 _ hm))
  have HA2 : Hid (Blk w2 w.heap.size 30 #[.int .i64 x0, .int .i64 x1, .slice a2 (x2.length) c2, .slice a3 (x3.length) c3, .slice a4 (x4.length) c4]) := hbx2.trans HA0.out
  have H3_2 := hide (H3_0.out.keep (fun g hg => hw2.blk g (H3_0.out.lt g hg) (D2_3.out g hg)))
  have H4_2 := hide (H4_0.out.keep (fun g hg => hw2.blk g (H4_0.out.lt g hg) (D2_4.out g hg)))
  have HT2 : Hid (Wrs (bl2) W0 w2) := hw2
  clear hm2 hw2 hbx2
  obtain ⟨k2, hk2⟩ : ∃ k2, k + (TgSn x2 x2.length) = k2 := ⟨_, rfl⟩
  rw [hk2]
  have HK2 := hide hk2
  have hkb2 : k2 ≤ 103000000000000 := by omega
  clear hk2
  have z3 := HA2.out.cell 3
  simp only [List.getElem?_toArray, List.getElem?_cons_succ, List.getElem?_cons_zero] at z3
  go_wp2_with fail
  clear z3
  refine (markIIS_f (w := w2) (k := k2) hb3 (by omega) H3_2.out nd3).mono ?_
  rintro e w3 ⟨rfl, hm3, hw3⟩
  have HM3_3 := hide hm3
  have HWR3 := hide hw3
  have hbx3 : w3.heap[w.heap.size]? = w2.heap[w.heap.size]? := hw3.blk _ HA2.out.lt (fun hm => Nat.lt_irrefl _ (HZ.out.2.1 _ hm))
  have HA3 : Hid (Blk w3 w.heap.size 30 #[.int .i64 x0, .int .i64 x1, .slice a2 (x2.length) c2, .slice a3 (x3.length) c3, .slice a4 (x4.length) c4]) := hbx3.trans HA2.out
  have H4_3 := hide (H4_2.out.keep (fun g hg => hw3.blk g (H4_2.out.lt g hg) (D3_4.out g hg)))
  have HM2_3 := hide (HM2_2.out.keep (fun g hg => hw3.blk g (HM2_2.out.lt g hg) (fun h => D2_3.out g h hg)))
  clear hm3 hw3 hbx3
  obtain ⟨k3, hk3⟩ : ∃ k3, k2 + (IISn x3 x3.length) = k3 := ⟨_, rfl⟩
  rw [hk3]
  have HK3 := hide hk3
  have hkb3 : k3 ≤ 106000000000000 := by omega
  clear hk3
  have z4 := HA3.out.cell 4
  simp only [List.getElem?_toArray, List.getElem?_cons_succ, List.getElem?_cons_zero] at z4
  go_wp2_with fail
  clear z4
  refine (markIIS_f (w := w3) (k := k3) hb4 (by omega) H4_3.out nd4).mono ?_
  rintro e w4 ⟨rfl, hm4, hw4⟩
  have HM4_4 := hide hm4
  have HWR4 := hide hw4
  have hbx4 : w4.heap[w.heap.size]? = w3.heap[w.heap.size]? := hw4.blk _ HA3.out.lt (fun hm => Nat.lt_irrefl _ (HZ.out.2.2 _ hm))
  have HA4 : Hid (Blk w4 w.heap.size 30 #[.int .i64 x0, .int .i64 x1, .slice a2 (x2.length) c2, .slice a3 (x3.length) c3, .slice a4 (x4.length) c4]) := hbx4.trans HA3.out
  have HM2_4 := hide (HM2_3.out.keep (fun g hg => hw4.blk g (HM2_3.out.lt g hg) (fun h => D2_4.out g h hg)))
  have HM3_4 := hide (HM3_3.out.keep (fun g hg => hw4.blk g (HM3_3.out.lt g hg) (fun h => D3_4.out g h hg)))
  clear hm4 hw4 hbx4
  obtain ⟨k4, hk4⟩ : ∃ k4, k3 + (IISn x4 x4.length) = k4 := ⟨_, rfl⟩
  rw [hk4]
  have HK4 := hide hk4
  have hkb4 : k4 ≤ 109000000000000 := by omega
  clear hk4
  go_wp2
  go_ret
  have HT : Hid (Wrs (bl2 ++ (bl3 ++ (bl4))) w w4) := by
    exact ((((Wrs.of_below HB0.out).trans (HWR2.out.mono (fun g hg => List.mem_append_left _ hg))).trans (HWR3.out.mono (fun g hg => List.mem_append_right _ (List.mem_append_left _ hg)))).trans (HWR4.out.mono (fun g hg => List.mem_append_right _ (List.mem_append_right _ (hg)))))
  refine ⟨?_, ⟨bl2, bl3, bl4, HBL.out, ?_, ?_, ?_⟩, by rw [HBL.out]; exact HT.out⟩
  · have e2 := HK2.out; have e3 := HK3.out; have e4 := HK4.out
    have ek : k + TbNv ⟨x0, x1, x2, x3, x4⟩ = k4 := by rw [HNV.out]; omega
    rw [ek]
    rfl
  · exact HM2_4.out
  · have e2 := HK2.out
    have ek : k + (TgSn x2 x2.length) = k2 := by omega
    simp only
    rw [ek]
    exact HM3_4.out
  · have e2 := HK2.out; have e3 := HK3.out
    have ek : k + (TgSn x2 x2.length) + (IISn x3 x3.length) = k3 := by omega
    simp only
    rw [ek]
    exact HM4_4.out
end Go.Proofs.YtpnocklldlacjaaDoor

namespace Go.Proofs.YtpnocklldlacjaaDoor
open Go.RowKit

set_option maxHeartbeats 400000 in
set_option maxRecDepth 1000000 in
theorem heldI_w (a0 : Option Addr) (b o n cap k0 : Nat) (w : World) (hn : n ≤ 100000000) (hk0 : k0 ≤ 1000000000000000000) (ha : 0 < n → a0 = some ⟨b, o, none⟩) (hc : ∀ j, j < n → w.cell? ⟨b, o + j, none⟩ = some (mkI (k0 + j))) :
    Calls Tryd.prog 75 #[.slice a0 n cap, .int .i64 k0] w fun e w' => e = .returned (.int .i64 (k0 + n : Nat)) ∧ w' = w := by
  have HC := hide hc
  clear hc
  go_enter Tryd.func75, Tryd.ntmps75
  go_wp2
  go_loop [1, 5] (fun kk i => ∃ m : Nat, m ≤ n ∧ i = .int .i64 m ∧ kk = .int .i64 (k0 + m : Nat)) (fun _ i => n - (intOf i).toNat)
  case atStart => exact ⟨0, Nat.zero_le _, rfl, rfl⟩
  case round =>
    obtain ⟨m, hm, rfl, rfl⟩ := hrel
    by_cases hlt : m < n
    · obtain rfl := ha (by omega)
      have g1 : w.cell? ⟨b, o + m, none⟩ = some (.int .i64 ((k0 : Int) + (m : Int))) := by
        rw [HC.out m hlt]; unfold mkI; congr 2
      have hne : (((k0 : Int) + (m : Int)) != ((k0 : Int) + (m : Int))) = false := by simp
      go_wp2
      go_round
      case rel => exact ⟨m + 1, by omega, by go_num, by go_num⟩
      case measure => simp [intOf]; omega
    · have e : m = n := by omega
      subst e
      go_wp2
      go_ret
      exact ⟨rfl, rfl⟩

theorem heldI_f {w : World} {v : Value} {n k : Nat} {bl : List Nat} (hs : n ≤ 100000000) (hk : k ≤ 1000000000000000000) (h : IM w v n k bl) :
    Calls Tryd.prog 75 #[v, .int .i64 (k : Nat)] w fun e w' => e = .returned (.int .i64 (k + n : Nat)) ∧ w' = w := by
  obtain ⟨a, b, o, c, rfl, h2, rfl, h3⟩ := h
  exact heldI_w a b o n c k w hs hk h2 h3
end Go.Proofs.YtpnocklldlacjaaDoor

namespace Go.Proofs.YtpnocklldlacjaaDoor
open Go.RowKit

set_option maxHeartbeats 4000000 in
set_option maxRecDepth 1000000 in
theorem heldIIS_f {w : World} {v : Value} {L : List (List Int)} {bl : List Nat} {k : Nat} (hs : IISB L) (hk : k ≤ 1000000000000000) (h : IISM w v L k bl) :
    Calls Tryd.prog 49 #[v, .int .i64 (k : Nat)] w fun e w' => e = .returned (.int .i64 (k + IISn L L.length : Nat)) ∧ w' = w := by
  obtain ⟨a, b, o, c, V, NB, rfl, ha, _, hc⟩ := h
  have hsl := hs.len
  have HLE := hide (fun i hi => IISn_le hs i hi)
  have HSZ := hide hs.each
  have HC := hide hc
  clear hc hs
  go_enter Tryd.func49, Tryd.ntmps49
  go_wp2
  go_loop [1, 5] (fun kk i => ∃ m : Nat, m ≤ L.length ∧ i = .int .i64 m ∧ kk = .int .i64 (k + IISn L m : Nat)) (fun _ i => L.length - (intOf i).toNat)
  case atStart => exact ⟨0, Nat.zero_le _, rfl, rfl⟩
  case round =>
    obtain ⟨m, hm, rfl, rfl⟩ := hrel
    by_cases hlt : m < L.length
    · obtain rfl := ha (by omega)
      have hlti : (m : Int) < (L.length : Int) := by omega
      have hle := HLE.out m (by omega)
      have hsz := HSZ.out m hlt
      obtain ⟨g0, hmm⟩ := HC.out m hlt
      obtain ⟨d, hd⟩ : ∃ d, L.getD m [] = d := ⟨_, rfl⟩
      rw [hd] at hmm hsz
      have HD := hide hd
      obtain ⟨y, hy⟩ : ∃ y, k + IISn L m = y := ⟨_, rfl⟩
      have HY := hide hy
      have hyb : y ≤ 2000000000000000 := by omega
      rw [hy] at hmm ⊢
      obtain ⟨n, hn⟩ : ∃ n, d.length = n := ⟨_, rfl⟩
      have hnb : n ≤ 1048576 := by omega
      have HSN : Hid (k + IISn L (m + 1) = y + n) := by
        show k + (IISn L m + (L.getD m []).length) = _
        rw [HD.out]
        omega
      rw [hn] at hmm
      obtain ⟨k2, hk2⟩ : ∃ k2, y + n = k2 := ⟨_, rfl⟩
      have HK2 := hide hk2
      have hk2b : k2 ≤ 3000000000000000 := by omega
      have hk20 : decide ((k2 : Int) < 0) = false := decide_eq_false (by omega)
      obtain ⟨av, cv, hv⟩ := hmm.slice
      rw [hv] at g0 hmm
      have HH := hide (heldI_f (w := w) (k := y) (by omega) (by omega) hmm)
      rw [hk2] at HH
      clear hmm hn hy hd hk2 hv
      go_wp2_with fail
      refine HH.out.mono ?_
      rintro e w2 ⟨rfl, hw2⟩
      subst hw2
      go_wp2
      go_round
      case rel =>
        refine ⟨m + 1, by omega, by go_num, ?_⟩
        rw [HSN.out, HK2.out]
      case measure => simp [intOf]; omega
    · have hge : ¬ (m : Int) < (L.length : Int) := by omega
      have e : m = L.length := by omega
      subst e
      go_wp2
      go_ret
      exact ⟨rfl, rfl⟩
end Go.Proofs.YtpnocklldlacjaaDoor

namespace Go.Proofs.YtpnocklldlacjaaDoor
open Go.RowKit

set_option maxHeartbeats 4000000 in
set_option maxRecDepth 1000000 in
theorem heldTgS_f {w : World} {v : Value} {L : List Tg} {bl : List Nat} {k : Nat} (hs : TgSB L) (hk : k ≤ 1000000000000000) (h : TgSM w v L k bl) :
    Calls Tryd.prog 48 #[v, .int .i64 (k : Nat)] w fun e w' => e = .returned (.int .i64 (k + TgSn L L.length : Nat)) ∧ w' = w := by
  obtain ⟨a, b, o, c, V, NB, rfl, ha, _, hc⟩ := h
  have hsl := hs.len
  have HLE := hide (fun i hi => TgSn_le hs i hi)
  have HSZ : Hid (∀ j, j < L.length → (L.getD j .zero).name.size ≤ 1048576) := fun j hj => (hs.each j hj).name
  have HC := hide hc
  clear hc hs
  go_enter Tryd.func48, Tryd.ntmps48
  go_wp2
  go_loop [1, 5] (fun kk i => ∃ m : Nat, m ≤ L.length ∧ i = .int .i64 m ∧ kk = .int .i64 (k + TgSn L m : Nat)) (fun _ i => L.length - (intOf i).toNat)
  case atStart => exact ⟨0, Nat.zero_le _, rfl, rfl⟩
  case round =>
    obtain ⟨m, hm, rfl, rfl⟩ := hrel
    by_cases hlt : m < L.length
    · obtain rfl := ha (by omega)
      have hlti : (m : Int) < (L.length : Int) := by omega
      have hle := HLE.out m (by omega)
      have hsz := HSZ.out m hlt
      obtain ⟨⟨q1, q2⟩, g0, hmm⟩ := HC.out m hlt
      obtain ⟨d, hd⟩ : ∃ d, L.getD m .zero = d := ⟨_, rfl⟩
      rw [hd] at q1 q2 hmm hsz
      have HD := hide hd
      obtain ⟨y, hy⟩ : ∃ y, k + TgSn L m = y := ⟨_, rfl⟩
      have HY := hide hy
      have hyb : y ≤ 2000000000000000 := by omega
      rw [hy] at q1 q2 hmm ⊢
      obtain ⟨n, hn⟩ : ∃ n, d.name.size = n := ⟨_, rfl⟩
      have hnb : n ≤ 1048576 := by omega
      have HSN : Hid (k + TgSn L (m + 1) = y + 2 + n) := by
        show k + (TgSn L m + TgN (L.getD m .zero)) = _
        rw [HD.out]
        unfold TgN
        omega
      rw [hn] at q1 q2 hmm
      obtain ⟨k2, hk2⟩ : ∃ k2, y + 0 + n = k2 := ⟨_, rfl⟩
      have HK2 := hide hk2
      have hk2b : k2 ≤ 3000000000000000 := by omega
      have hk20 : decide ((k2 : Int) < 0) = false := decide_eq_false (by omega)
      have g1 : w.cell? ⟨b, o + m * 3 + 1, none⟩ = some (.int .i64 ((k2 : Int))) := by
        rw [q1]
        unfold mkI
        congr 2
        omega
      have n1 : (((k2 : Int)) != ((k2 : Int))) = false := by simp
      have g2 : w.cell? ⟨b, o + m * 3 + 2, none⟩ = some (.int .i64 ((k2 : Int) + 1)) := by
        rw [q2]
        unfold mkI
        congr 2
        omega
      have n2 : (((k2 : Int) + 1) != ((k2 : Int) + 1)) = false := by simp
      obtain ⟨av, cv, hv⟩ := hmm.slice
      rw [hv] at g0 hmm
      have HH := hide (heldB_f (w := w) (k := y + 0) (by omega) (by omega) hmm)
      rw [hk2] at HH
      clear hmm hn hy hd hk2 q1 q2 hv
      go_wp2_with fail
      change Calls Tryd.prog 19 #[.slice av n cv, .int .i64 ((y + 0 : Nat) : Int)] w _
      refine HH.out.mono ?_
      rintro e w2 ⟨rfl, hw2⟩
      subst hw2
      go_wp2
      go_round
      case rel =>
        refine ⟨m + 1, by omega, by go_num, ?_⟩
        have h1 := HSN.out
        have h2 := HK2.out
        rw [h1]
        congr 1
        omega
      case measure => simp [intOf]; omega
    · have hge : ¬ (m : Int) < (L.length : Int) := by omega
      have e : m = L.length := by omega
      subst e
      go_wp2
      go_ret
      exact ⟨rfl, rfl⟩
end Go.Proofs.YtpnocklldlacjaaDoor

namespace Go.Proofs.YtpnocklldlacjaaDoor
open Go.RowKit

set_option maxHeartbeats 4000000 in
set_option maxRecDepth 1000000 in
theorem heldTb_f {w : World} {d : Tb} {v2 v3 v4 : Value} {bl : List Nat} {k : Nat} (hb : TbB d) (hk : k ≤ 100000000000000) (h : TbM w d v2 v3 v4 k bl) :
    Calls Tryd.prog 23 #[tbagg d v2 v3 v4, .int .i64 (k : Nat)] w fun e w' => e = .returned (.int .i64 (k + TbNv d : Nat)) ∧ Below w.heap.size w w' := by
  obtain ⟨x0, x1, x2, x3, x4⟩ := d
  have hb2 := hb.targets
  have hb3 := hb.dist
  have hb4 := hb.hop
  simp only at hb2 hb3 hb4
  have HNV : Hid (TbNv ⟨x0, x1, x2, x3, x4⟩ = (TgSn x2 x2.length) + (IISn x3 x3.length) + (IISn x4 x4.length)) := rfl
  have hc2 : (TgSn x2 x2.length) ≤ 2000000000000 := by have := TgSn_le hb2 _ (Nat.le_refl _); have := hb2.len; omega
  have hc3 : (IISn x3 x3.length) ≤ 2000000000000 := by have := IISn_le hb3 _ (Nat.le_refl _); have := hb3.len; omega
  have hc4 : (IISn x4 x4.length) ≤ 2000000000000 := by have := IISn_le hb4 _ (Nat.le_refl _); have := hb4.len; omega
  obtain ⟨bl2, bl3, bl4, hbl, h2, h3, h4⟩ := h
  simp only at h2 h3 h4
  obtain ⟨a2, c2, e2⟩ := h2.slice
  obtain ⟨a3, c3, e3⟩ := h3.slice
  obtain ⟨a4, c4, e4⟩ := h4.slice
  subst e2 e3 e4
  have HBL := hide hbl
  clear hbl hb
  unfold tbagg
  simp only
  obtain ⟨W0, hW0⟩ : ∃ W, w.alloc (.cells #[.int .i64 x0, .int .i64 x1, .slice a2 (x2.length) c2, .slice a3 (x3.length) c3, .slice a4 (x4.length) c4] 30) = W := ⟨_, rfl⟩
  have HB0 : Hid (Below w.heap.size w W0) := by rw [← hW0]; exact (Below.refl _ _).alloc (Nat.le_refl _) _
  have HA0 : Hid (Blk W0 w.heap.size 30 #[.int .i64 x0, .int .i64 x1, .slice a2 (x2.length) c2, .slice a3 (x3.length) c3, .slice a4 (x4.length) c4]) := by rw [← hW0]; exact Blk.new _ _ _
  have HZ : Hid ((∀ g ∈ bl2, g < w.heap.size) ∧ (∀ g ∈ bl3, g < w.heap.size) ∧ (∀ g ∈ bl4, g < w.heap.size)) := ⟨h2.lt, h3.lt, h4.lt⟩
  have H2_0 := hide (h2.below HB0.out)
  have H3_0 := hide (h3.below HB0.out)
  have H4_0 := hide (h4.below HB0.out)
  have HW := hide hW0
  clear hW0 h2 h3 h4
  go_enter Tryd.func23, Tryd.ntmps23
  go_wp2_with fail
  rw [HW.out]
  clear HW
  refine (heldTgS_f (k := k) hb2 (by omega) H2_0.out).mono ?_
  rintro e w2 ⟨rfl, hw2⟩
  subst hw2
  obtain ⟨k2, hk2⟩ : ∃ k2, k + (TgSn x2 x2.length) = k2 := ⟨_, rfl⟩
  rw [hk2]
  have HK2 := hide hk2
  have hkb2 : k2 ≤ 103000000000000 := by omega
  clear hk2
  have hk02 : decide ((k2 : Int) < 0) = false := decide_eq_false (by omega)
  have z3 := HA0.out.cell 3
  simp only [List.getElem?_toArray, List.getElem?_cons_succ, List.getElem?_cons_zero] at z3
  go_wp2_with fail
  clear z3
  refine (heldIIS_f (k := k2) hb3 (by omega) (by rw [← HK2.out]; exact H3_0.out)).mono ?_
  rintro e w3 ⟨rfl, hw3⟩
  subst hw3
  obtain ⟨k3, hk3⟩ : ∃ k3, k2 + (IISn x3 x3.length) = k3 := ⟨_, rfl⟩
  rw [hk3]
  have HK3 := hide hk3
  have hkb3 : k3 ≤ 106000000000000 := by omega
  clear hk3
  have hk03 : decide ((k3 : Int) < 0) = false := decide_eq_false (by omega)
  have z4 := HA0.out.cell 4
  simp only [List.getElem?_toArray, List.getElem?_cons_succ, List.getElem?_cons_zero] at z4
  go_wp2_with fail
  clear z4
  refine (heldIIS_f (k := k3) hb4 (by omega) (by rw [← HK3.out, ← HK2.out]; exact H4_0.out)).mono ?_
  rintro e w4 ⟨rfl, hw4⟩
  subst hw4
  obtain ⟨k4, hk4⟩ : ∃ k4, k3 + (IISn x4 x4.length) = k4 := ⟨_, rfl⟩
  rw [hk4]
  have HK4 := hide hk4
  have hkb4 : k4 ≤ 109000000000000 := by omega
  clear hk4
  have hk04 : decide ((k4 : Int) < 0) = false := decide_eq_false (by omega)
  go_wp2
  go_ret
  refine ⟨?_, HB0.out⟩
  have e2 := HK2.out; have e3 := HK3.out; have e4 := HK4.out
  have ek : k + TbNv ⟨x0, x1, x2, x3, x4⟩ = k4 := by rw [HNV.out]; omega
  rw [ek]
  rfl
end Go.Proofs.YtpnocklldlacjaaDoor
