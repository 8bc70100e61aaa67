/-
  The walk of impl.EncodeImage.
-/
import Derived.Test.YtpnocklldlacjaaDoorJDecodeImageIWT
import Derived.Test.YtpnocklldlacjaaDoorJDecodeImageSD
import Derived.Test.YtpnocklldlacjaaDoorJDecodeImageIPH
import Derived.Test.YtpnocklldlacjaaDoorJDecodeImageSD
namespace Go.Proofs.YtpnocklldlacjaaDoor
open Go.RowKit

set_option maxHeartbeats 4000000 in
set_option maxRecDepth 1000000 in
theorem implEncode_any (d : Tb) (v2 v3 v4 : Value) (w : World) (hb : TbB d) (hd : TbL d) (hmv : MvOk w) (hT : Lib.Utf8Tabs 3 4 w) (h : TbV w d v2 v3 v4) :
    Calls Tryd.prog 15 #[tbagg d v2 v3 v4] w fun e w' => ∃ v bl, e = .returned v ∧ BF w' v (eiF d) bl ∧ Fr w w' bl ∧ Below w.heap.size w w' := by
  have HVT := hide (fun V (hV : Below w.heap.size w V) => implTables_any d v2 v3 v4 V hb hd (hmv.below hV) (Utf8Tabs_below hT hV) (h.below hV))
  have HTV := hide h
  obtain ⟨a2, c2, rfl⟩ := h.targets.slice
  obtain ⟨a3, c3, rfl⟩ := h.dist.slice
  obtain ⟨a4, c4, rfl⟩ := h.hop.slice
  clear h hb hd hmv hT
  unfold tbagg at HVT ⊢
  obtain ⟨W0, hW0⟩ : ∃ W, w.alloc (.cells #[.int .i64 d.w, .int .i64 d.h, .slice a2 d.targets.length c2, .slice a3 d.dist.length c3, .slice a4 d.hop.length c4] 30) = W := ⟨_, rfl⟩
  have hB0 : Below w.heap.size w W0 := by rw [← hW0]; exact (Below.refl _ _).alloc (Nat.le_refl _) _
  have hA0 : Blk W0 w.heap.size 30 #[.int .i64 d.w, .int .i64 d.h, .slice a2 d.targets.length c2, .slice a3 d.dist.length c3, .slice a4 d.hop.length c4] := by rw [← hW0]; exact Blk.new _ _ _
  have hS0 : w.heap.size < W0.heap.size := by rw [← hW0, World.size_alloc]; omega
  have z0 := hA0.cell 0
  have z1 := hA0.cell 1
  have z2 := hA0.cell 2
  have z3 := hA0.cell 3
  have z4 := hA0.cell 4
  simp only [List.getElem?_toArray, List.getElem?_cons_succ, List.getElem?_cons_zero] at z0 z1 z2 z3 z4
  have HB := hide hB0
  have HTC := hide (HVT.out W0 hB0)
  have HA := hide hA0
  have hW := hW0
  clear hW0 hB0 hA0 HVT
  go_enter Tryd.func15, Tryd.ntmps15
  go_wp2_with fail
  refine HTC.out.mono ?_
  rintro e w1 ⟨⟨tb, rfl, hti⟩, hb1⟩
  have HTI := hide hti
  have HB1 : Hid (Below w.heap.size w w1) := HB.out.trans (hb1.mono HB.out.size)
  have HA1 := hide (HA.out.below hb1)
  have hS1 : w.heap.size < w1.heap.size := by have := hb1.size; omega
  clear hti hb1 z0 z1 z2 z3 z4 hW HTC HB HA hS0
  cases tb with
  | false =>
    have HR : Hid (¬ TbOk d) := fun h => by have := HTI.out.2 h; cases this
    go_wp2
    go_ret
    rw [eiF_no HR.out]
    exact ⟨_, [], rfl, bf_nil _ 0, Fr.nil _ _, HB1.out⟩
  | true =>
    have hok : TbOk d := HTI.out.1 rfl
    have HOK := hide hok
    have hx0 := hok.w0
    have hx1 := hok.w1
    have hy0 := hok.h0
    have hy1 := hok.h1
    have hl2 := hok.tg.len
    have HL3 := hide hok.dl
    have HL4 := hide hok.hl
    clear HTI hok
    have y0 := HA1.out.cell 0
    have y1 := HA1.out.cell 1
    have y2 := HA1.out.cell 2
    have y3 := HA1.out.cell 3
    have y4 := HA1.out.cell 4
    simp only [List.getElem?_toArray, List.getElem?_cons_succ, List.getElem?_cons_zero] at y0 y1 y2 y3 y4
    obtain ⟨G, hG⟩ : ∃ G, w1.heap.size = G := ⟨_, rfl⟩
    have HG := hide hG
    obtain ⟨w2, hw2⟩ : ∃ W, w1.alloc (.cells #[.int .u8 87, .int .u8 72, .int .u8 76, .int .u8 49] 5 (4, 4 + 1)) = W := ⟨_, rfl⟩
    have hb2 : Below w1.heap.size w1 w2 := by rw [← hw2]; exact (Below.refl _ _).alloc (Nat.le_refl _) _
    have hs2 : G + 1 = w2.heap.size := by rw [← hw2, World.size_alloc, hG]
    have HO2 : Hid (∀ j, j < 4 → w2.cell? ⟨G, j, none⟩ = some (.int .u8 (([87, 72, 76, 49] : List Nat).getD j 0 : Nat))) := fun j hj => by
      rw [← hw2, ← hG]
      refine (cell_of_row _ _ j _ _ _ (heap_alloc_new w1 _)).trans ?_
      match j, hj with
      | 0, _ => rfl
      | 1, _ => rfl
      | 2, _ => rfl
      | 3, _ => rfl
    have kc : (convert 37 37 (.slice (some ⟨G, 0, none⟩) 4 4)).run Tryd.prog (w1.alloc (.cells #[.int .u8 87, .int .u8 72, .int .u8 76, .int .u8 49] 5)) = .ok (.slice (some ⟨G, 0, none⟩) 4 4) w2 := by
      rw [← hG, ← hw2]
      exact Lib.run_convert_bytes_const (P := Tryd.prog) w1 37 5 _ 4 4 Tryd.underlying37 Tryd.underlying5
    have HB2 : Hid (Below w.heap.size w w2) := HB1.out.trans (hb2.mono HB1.out.size)
    have HA2 := hide (HA1.out.below hb2)
    have hS2 : w.heap.size < w2.heap.size := by have := hb2.size; omega
    obtain ⟨w3, hw3⟩ : ∃ W, w2.alloc (.cells #[.slice (some ⟨G, 0, none⟩) 4 4] 59) = W := ⟨_, rfl⟩
    obtain ⟨P, hP⟩ : ∃ P, w2.heap.size = P := ⟨_, rfl⟩
    have HP3 : Hid (Blk w3 P 59 #[.slice (some ⟨G, 0, none⟩) 4 4]) := by rw [← hw3, ← hP]; exact Blk.new _ _ _
    have hb3 : Below w2.heap.size w2 w3 := by rw [← hw3]; exact (Below.refl _ _).alloc (Nat.le_refl _) _
    have hs3 : P + 1 = w3.heap.size := by rw [← hw3, World.size_alloc, hP]
    have HB3 : Hid (Below w.heap.size w w3) := HB2.out.trans (hb3.mono HB2.out.size)
    have HA3 := hide (HA2.out.below hb3)
    have HIM3 : Hid (Im w3 P (P + 1) [87, 72, 76, 49]) := ⟨_, HP3.out, .inr ⟨G, rfl, fun j hj => cell_kept (HO2.out j hj) hb3⟩⟩
    have hwP : w.heap.size < P := by omega
    have HW3 := hide hw3
    have HPP := hide hP
    have HS3 := hide hs3
    clear hb2 hb3 hw2 hw3 hP y0 y1 y2 y3 y4 hs3 hs2 hS2
    have y0 := HA3.out.cell 0
    have y1 := HA3.out.cell 1
    have y2 := HA3.out.cell 2
    have y3 := HA3.out.cell 3
    have y4 := HA3.out.cell 4
    simp only [List.getElem?_toArray, List.getElem?_cons_succ, List.getElem?_cons_zero] at y0 y1 y2 y3 y4
    have hw3 := HW3.out
    have hP := HPP.out
    go_wp2_with fail
    refine (numbers_any P (P + 1) 2 (.slice (some ⟨w3.heap.size, 0, none⟩) 3 3) [d.w, d.h, (d.targets.length : Int)] [87, 72, 76, 49] (w3.alloc (.cells #[.int .i64 d.w, .int .i64 d.h, .int .i64 (d.targets.length : Int)] 3)) (.inr (.inl rfl)) (by decide) (by decide) (by show 0 < 3; decide) (by show 3 ≤ 2000; decide) (by omega) (by rw [World.size_alloc]; have := HS3.out; omega) (HIM3.out.below ((Below.refl _ _).alloc (Nat.le_refl _) _)) (fun V hV => lit_is [d.w, d.h, (d.targets.length : Int)] 3 hV)).mono ?_
    rintro e w4 ⟨rfl, him4, hk4⟩
    have HK4 : Hid (Kp P w3 w4) := ((Kp.refl P w3).alloc (by have := HS3.out; omega) _).trans hk4
    have HZ4 : Hid ([87, 72, 76, 49] ++ nLs 2 [d.w, d.h, (d.targets.length : Int)] 3 = imH d ++ imTs d.targets 0) := by
      show [87, 72, 76, 49] ++ (([] ++ le 2 (md 2 d.w)) ++ le 2 (md 2 d.h) ++ le 2 (md 2 (d.targets.length : Int))) = imH d ++ []
      unfold imH
      rw [List.append_nil, md2_nat (by omega), show md 2 d.w = d.w.toNat by unfold md; omega, show md 2 d.h = d.h.toNat by unfold md; omega, List.nil_append]
      simp only [List.append_assoc]
    have HIM4 : Hid (ImO w4 P (P + 1) (imH d ++ imTs d.targets 0)) := by rw [← HZ4.out]; exact him4
    clear him4 hk4 y0 y1 y2 y3 y4 hw3 hP kc HZ4 HIM3
    have hKA : ∀ V, Kp P w3 V → Blk V w.heap.size 30 #[.int .i64 d.w, .int .i64 d.h, .slice a2 d.targets.length c2, .slice a3 d.dist.length c3, .slice a4 d.hop.length c4] := fun V hV => hV.row _ _ _ (by decide) (by decide) HA3.out
    have HKA := hide hKA
    have HKB : Hid (∀ V, Kp P w3 V → Below w.heap.size w V) := fun V hV => HB3.out.trans (hV.bel.mono (by omega))
    have y0 := (hKA w4 HK4.out).cell 0
    have y1 := (hKA w4 HK4.out).cell 1
    have y2 := (hKA w4 HK4.out).cell 2
    have y3 := (hKA w4 HK4.out).cell 3
    have y4 := (hKA w4 HK4.out).cell 4
    simp only [List.getElem?_toArray, List.getElem?_cons_succ, List.getElem?_cons_zero] at y0 y1 y2 y3 y4
    clear hKA
    go_wp2
    clear y0 y1 y2 y3 y4
    have HHL : Hid ((imH d).length = 10) := imH_len d
    have HTL : Hid (∀ k, k ≤ d.targets.length → (imTs d.targets k).length ≤ 64 * k) := fun k hk => imTs_len HOK.out.tg k hk
    have HWH : Hid (d.w * d.h ≤ 1600 ∧ 0 < d.w * d.h) := by
      have h3 : d.w * d.h ≤ 40 * 40 := Int.mul_le_mul HOK.out.w1 HOK.out.h1 (by have := HOK.out.h0; omega) (by omega)
      exact ⟨by omega, Int.mul_pos (by have := HOK.out.w0; omega) (by have := HOK.out.h0; omega)⟩
    have HIB : Hid (imB d = imH d ++ imTs d.targets d.targets.length ++ imRs d d.targets.length) := rfl
    go_loopw [27] (fun ix wr => ∃ i : Nat, i ≤ d.targets.length ∧ ix = .int .i64 i ∧ ImO wr P (P + 1) (imH d ++ imTs d.targets i) ∧ Kp P w3 wr) (fun ix _ => d.targets.length - (intOf ix).toNat)
    case atStart => exact ⟨0, Nat.zero_le _, rfl, HIM4.out, HK4.out⟩
    case round =>
      clear HIM4 HK4
      obtain ⟨i, hi, rfl, him, hkp⟩ := hrel
      rename World => w5
      have HIM := hide him
      have HK := hide hkp
      have hP5 : P < w5.heap.size := by have := hkp.bel.size; have := HS3.out; omega
      by_cases hlt : i < d.targets.length
      · have hlti : (i : Int) < (d.targets.length : Int) := by omega
        have hXl : (imH d ++ imTs d.targets i).length ≤ 2000 := by
          have h1 := HTL.out i hi
          have h2 := HHL.out
          rw [List.length_append]
          omega
        have hX0 : 0 < (imH d ++ imTs d.targets i).length := by
          have h2 := HHL.out
          rw [List.length_append]
          omega
        obtain ⟨b2, o2, rfl⟩ : ∃ b o, a2 = some ⟨b, o, none⟩ := by
          obtain ⟨a', b', o', c', h1, h2, _⟩ := HTV.out.targets
          injection h1 with h3 _ _
          exact ⟨b', o', h3.trans (h2 (by omega))⟩
        obtain ⟨a', b', o', c', h1, h2, h3⟩ := HTV.out.targets
        injection h1 with h4 h5 h6
        have h7 := h2 (by omega)
        rw [← h4] at h7
        injection h7 with h7
        injection h7 with h8 h9
        subst h8 h9
        obtain ⟨vn, hcx, hnv⟩ := h3 i hlt
        have htk := HOK.out.tg.each i hlt
        obtain ⟨X, hX⟩ : ∃ X, imH d ++ imTs d.targets i = X := ⟨_, rfl⟩
        have HIT : Hid (imH d ++ imTs d.targets (i + 1) = X ++ imT (d.targets.getD i .zero)) := by
          show imH d ++ (imTs d.targets i ++ _) = _
          rw [← hX, List.append_assoc]
        rw [hX] at HIM hXl hX0
        obtain ⟨t, ht⟩ : ∃ t, d.targets.getD i .zero = t := ⟨_, rfl⟩
        rw [ht] at hcx hnv htk HIT
        obtain ⟨f0, f1, f2⟩ := hcx.below (HKB.out w5 hkp)
        have HNV := hide hnv.name
        have HTK := hide htk
        obtain ⟨an, cn, hvn⟩ := hnv.name.slice
        have HVN := hide hvn
        subst hvn
        have HTC : Hid (∀ l V, 0 < l.length → l.length ≤ 900000 → P + 1 ≤ V.heap.size → Im V P (P + 1) l → Kp P w3 V → Calls Tryd.prog 37 #[.pointer (some ⟨P, 0, none⟩), .agg #[.slice an t.name.size cn, .int .i64 t.kind, .int .i64 t.cell]] V fun e w' => e = .returned (.tuple #[]) ∧ ImO w' P (P + 1) (l ++ imT t) ∧ Kp P V w') := fun l V h1 h2 h3 h4 h5 =>
          target_any P (P + 1) t _ l V h1 h2 (by omega) h3 h4 (fun X hX => HNV.out.below (HKB.out X (h5.trans hX))) (by have := HTK.out.s0; omega) (by have := HTK.out.s1; omega) HTK.out.k0 (by have := HTK.out.k1; omega) HTK.out.c0 (by have := HTK.out.c1; have := HWH.out.1; omega)
        clear him hkp h2 h3 hnv htk hX ht h4 h5 h6 HVN hcx
        go_wp2_with fail
        refine (HTC.out X _ hX0 (by omega) (by rw [World.size_alloc]; omega) (HIM.out.im.below ((Below.refl _ _).alloc (Nat.le_refl _) _)) (HK.out.alloc (by omega) _)).mono ?_
        rintro e w6 ⟨rfl, him6, hk6⟩
        have HK6 : Hid (Kp P w3 w6) := (HK.out.alloc (by omega) _).trans hk6
        have HIM6 := hide him6
        rw [← HIT.out] at HIM6
        clear him6 hk6 f0 f1 f2
        go_wp2
        go_roundw
        case rel => exact ⟨i + 1, by omega, by go_num, HIM6.out, HK6.out⟩
        case measure => simp [intOf]; omega
      · have hge : ¬ (i : Int) < (d.targets.length : Int) := by omega
        obtain rfl : i = d.targets.length := by omega
        have y0 := (HKA.out w5 hkp).cell 0
        have y1 := (HKA.out w5 hkp).cell 1
        have y2 := (HKA.out w5 hkp).cell 2
        have y3 := (HKA.out w5 hkp).cell 3
        have y4 := (HKA.out w5 hkp).cell 4
        simp only [List.getElem?_toArray, List.getElem?_cons_succ, List.getElem?_cons_zero] at y0 y1 y2 y3 y4
        clear him hkp
        go_wp2
        clear y0 y1 y2 y3 y4
        have HRL : Hid (∀ k, k ≤ d.targets.length → (imRs d k).length ≤ 3900 * k) := fun k hk => imRs_len HOK.out k hk
        have HHT : Hid ((imH d ++ imTs d.targets d.targets.length).length ≤ 2000 ∧ 0 < (imH d ++ imTs d.targets d.targets.length).length) := by
          have h1 := HTL.out _ (Nat.le_refl _)
          have h2 := HHL.out
          rw [List.length_append]
          exact ⟨by omega, by omega⟩
        obtain ⟨PF, hPF⟩ : ∃ l, imH d ++ imTs d.targets d.targets.length = l := ⟨_, rfl⟩
        rw [hPF] at HIM HIB HHT
        have HIM5 : Hid (ImO w5 P (P + 1) (PF ++ imRs d 0)) := by show ImO _ _ _ (PF ++ []); rw [List.append_nil]; exact HIM.out
        have HK5 := HK
        clear hPF HIM HK hP5
        go_loopw [37] (fun ix wr => ∃ i : Nat, i ≤ d.targets.length ∧ ix = .int .i64 i ∧ ImO wr P (P + 1) (PF ++ imRs d i) ∧ Kp P w3 wr) (fun ix _ => d.targets.length - (intOf ix).toNat)
        case atStart => exact ⟨0, Nat.zero_le _, rfl, HIM5.out, HK5.out⟩
        case round =>
          clear HIM5 HK5
          obtain ⟨i, hi, rfl, him, hkp⟩ := hrel
          have HIM := hide him
          have HK := hide hkp
          have hP7 : P < wr.heap.size := by have := hkp.bel.size; have := HS3.out; omega
          have y0 := (HKA.out wr hkp).cell 0
          have y1 := (HKA.out wr hkp).cell 1
          have y2 := (HKA.out wr hkp).cell 2
          have y3 := (HKA.out wr hkp).cell 3
          have y4 := (HKA.out wr hkp).cell 4
          simp only [List.getElem?_toArray, List.getElem?_cons_succ, List.getElem?_cons_zero] at y0 y1 y2 y3 y4
          have hXl : (PF ++ imRs d i).length ≤ 130000 := by
            have h1 := HRL.out i hi
            have h2 := HHT.out.1
            rw [List.length_append]
            omega
          have hX0 : 0 < (PF ++ imRs d i).length := by
            have h2 := HHT.out.2
            rw [List.length_append]
            omega
          by_cases hlt : i < d.targets.length
          · have hlti : (i : Int) < (d.targets.length : Int) := by omega
            have hih : i < d.hop.length := by rw [HL4.out]; exact hlt
            have hid : i < d.dist.length := by rw [HL3.out]; exact hlt
            have hihi : (i : Int) < (d.hop.length : Int) := by omega
            have hidi : (i : Int) < (d.dist.length : Int) := by omega
            obtain ⟨b4, o4, rfl⟩ : ∃ b o, a4 = some ⟨b, o, none⟩ := by
              obtain ⟨a', b', o', c', h1, h2, _⟩ := HTV.out.hop
              injection h1 with h3 _ _
              exact ⟨b', o', h3.trans (h2 (by omega))⟩
            obtain ⟨b3, o3, rfl⟩ : ∃ b o, a3 = some ⟨b, o, none⟩ := by
              obtain ⟨a', b', o', c', h1, h2, _⟩ := HTV.out.dist
              injection h1 with h3 _ _
              exact ⟨b', o', h3.trans (h2 (by omega))⟩
            obtain ⟨u4, g4, hI4⟩ : ∃ u, w.cell? ⟨b4, o4 + i, none⟩ = some u ∧ IS w u (d.hop.getD i []) := by
              obtain ⟨a', b', o', c', h1, h2, h3⟩ := HTV.out.hop
              injection h1 with h4 h5 h6
              have h7 := h2 (by omega)
              rw [← h4] at h7
              injection h7 with h7
              injection h7 with h8 h9
              subst h8 h9
              exact h3 i hih
            obtain ⟨u3, g3, hI3⟩ : ∃ u, w.cell? ⟨b3, o3 + i, none⟩ = some u ∧ IS w u (d.dist.getD i []) := by
              obtain ⟨a', b', o', c', h1, h2, h3⟩ := HTV.out.dist
              injection h1 with h4 h5 h6
              have h7 := h2 (by omega)
              rw [← h4] at h7
              injection h7 with h7
              injection h7 with h8 h9
              subst h8 h9
              exact h3 i hid
            have hrw := HOK.out.rows i hlt
            have HIR : Hid (imRs d (i + 1) = imRs d i ++ (pkL (d.hop.getD i []) (3 * (d.hop.getD i []).length) ++ imD (d.dist.getD i []) (d.dist.getD i []).length)) := rfl
            obtain ⟨Hp, hHp⟩ : ∃ D, d.hop.getD i [] = D := ⟨_, rfl⟩
            obtain ⟨Ds, hDs⟩ : ∃ D, d.dist.getD i [] = D := ⟨_, rfl⟩
            rw [hHp] at hI4 hrw HIR
            rw [hDs] at hI3 hrw HIR
            have hwh := HWH.out
            have hdl := hrw.dl
            have hpl := hrw.pl
            have hDl : Ds.length ≤ 1600 := by omega
            have hD0 : 0 < Ds.length := by omega
            have hPl : Hp.length ≤ 1600 := by omega
            have hP0 : 0 < Hp.length := by omega
            have HGP : Hid (hGood Hp = true) := (hGood_iff Hp).2 (fun c hc => by
              have h1 := hrw.each c (by omega)
              unfold StepOk at h1
              split at h1
              · rw [h1.2]; decide
              · split at h1
                · rw [h1]; decide
                · exact ⟨by omega, h1.2.2.2.1⟩)
            have HDB : Hid (∀ c, c < Ds.length → -1 ≤ Ds.getD c 0 ∧ Ds.getD c 0 < 65536) := fun c hc => by
              have h1 := hrw.each c (by omega)
              unfold StepOk at h1
              split at h1
              · rw [h1.1]; decide
              · split at h1
                · omega
                · omega
            obtain ⟨X, hX⟩ : ∃ X, PF ++ imRs d i = X := ⟨_, rfl⟩
            rw [hX] at HIM hXl hX0
            have HXX := hide hX
            have hB7 := HKB.out wr hkp
            have q4 := cell_kept g4 hB7
            have q3 := cell_kept g3 hB7
            have HG3 := hide g3
            have HI3 := hide hI3
            have HPK := hide (implPack_bs Hp u4 wr (by omega) (hI4.below hB7))
            obtain ⟨ax4, cx4, rfl⟩ := hI4.slice
            obtain ⟨ax3, cx3, rfl⟩ := hI3.slice
            clear him hkp hX hHp hDs hrw hwh hdl hpl hI4 hI3 g4 g3 hB7
            go_wp2_with fail
            refine HPK.out.mono ?_
            rintro e w8 ⟨vp, rfl, hbs, hb8⟩
            rw [pkF_yes HGP.out] at hbs
            rw [pkC_yes HGP.out]
            have HK8 : Hid (Kp P w3 w8) := HK.out.all (by omega) hb8
            have hnl : (pkL Hp (3 * Hp.length)).length = pkN Hp := pkL_len _ _
            have hlo := pkL_lo Hp (3 * Hp.length)
            obtain ⟨N, hN⟩ : ∃ N, pkL Hp (3 * Hp.length) = N := ⟨_, rfl⟩
            rw [hN] at hbs hnl hlo HIR
            have hn0 : 0 < N.length := by rw [hnl]; unfold pkN; omega
            have hn1 : N.length ≤ 700 := by rw [hnl]; unfold pkN; omega
            obtain ⟨ap, bp, op, cp, rfl, hap, hcp⟩ := hbs
            obtain rfl := hap (by rw [byt_size]; exact hn0)
            have HCP : Hid (∀ j, j < N.length → w8.cell? ⟨bp, op + j, none⟩ = some (.int .u8 (N.getD j 0 : Nat))) := fun j hj => by
              have := hcp j (by rw [byt_size]; exact hj)
              rw [byt_bts hlo hj] at this
              exact this
            rw [byt_size]
            obtain ⟨v8, hk8, ho8⟩ := HIM.out
            have HBK8 := hide (hk8.below hb8)
            have HO8 := hide (kept_below ho8 hb8)
            obtain ⟨g8, c8, rfl, _⟩ := own_slice ho8 hX0
            have hP8 : P < w8.heap.size := by have := hb8.size; omega
            have p0 := HBK8.out.cell 0
            have p1 := HBK8.out.frozen 0
            simp only [List.getElem?_toArray, List.getElem?_cons_zero] at p0
            clear hb8 hap hcp hN hnl hlo hk8 ho8 y0 y1 y2 y3 y4 q4 q3 HPK HIM
            go_wp2_with (at_builtin; refine wp_app_im rfl _ _ rfl (P + 1) _ X rfl (.inl HO8.out) bp op cp N rfl HCP.out hn0 (by omega) (by omega) ?_)
            intro v9 w9 l9 hl9 ho9 hbs9 hbl9
            have hl90 : 0 < l9.length := by rw [hl9.out, List.length_append]; omega
            have hl91 : l9.length ≤ 131000 := by rw [hl9.out, List.length_append]; omega
            obtain ⟨g9, c9, rfl, _⟩ := own_slice ho9 hl90
            have HP9 := hide (hbs9 P _ _ (by decide) HBK8.out)
            have HK9 : Hid (Kp P w3 (w9.setCell ⟨P, 0, none⟩ (.slice (some ⟨g9, 0, none⟩) l9.length c9))) := (Kp.app HK8.out (by omega) hbs9 hbl9).set HP9.out (Nat.le_refl _) 0 _
            have HIM9 : Hid (ImO (w9.setCell ⟨P, 0, none⟩ (.slice (some ⟨g9, 0, none⟩) l9.length c9)) P (P + 1) l9) := im_set ho9 (by omega) HP9.out
            have hP9 : P < (w9.setCell ⟨P, 0, none⟩ (.slice (some ⟨g9, 0, none⟩) l9.length c9)).heap.size := by have := HK9.out.bel.size; have := HS3.out; omega
            have p2 := HP9.out.cell 0
            have p3 := HP9.out.frozen 0
            simp only [List.getElem?_toArray, List.getElem?_cons_zero] at p2
            obtain ⟨w10, hw10⟩ : ∃ W, w9.setCell ⟨P, 0, none⟩ (.slice (some ⟨g9, 0, none⟩) l9.length c9) = W := ⟨_, rfl⟩
            rw [hw10] at HK9 HIM9 hP9
            have y0 := (HKA.out w10 HK9.out).cell 0
            have y1 := (HKA.out w10 HK9.out).cell 1
            have y2 := (HKA.out w10 HK9.out).cell 2
            have y3 := (HKA.out w10 HK9.out).cell 3
            have y4 := (HKA.out w10 HK9.out).cell 4
            simp only [List.getElem?_toArray, List.getElem?_cons_succ, List.getElem?_cons_zero] at y0 y1 y2 y3 y4
            have q3 := cell_kept HG3.out (HKB.out w10 HK9.out)
            have HNM := hide (numbers_any P (P + 1) 2 (.slice ax3 Ds.length cx3) Ds l9 w10 (.inr (.inl rfl)) hl90 (by omega) hD0 (by omega) (by omega) (by omega) HIM9.out.im (fun V hV => HI3.out.below (HKB.out V (HK9.out.trans hV))))
            clear ho9 hbs9 hbl9 p0 p1
            go_wp2_with fail
            refine HNM.out.mono ?_
            rintro e w11 ⟨rfl, him11, hk11⟩
            have HK11 : Hid (Kp P w3 w11) := HK9.out.trans hk11
            have HIM11 : Hid (ImO w11 P (P + 1) (PF ++ imRs d (i + 1))) := by
              show ImO _ _ _ _
              rw [HIR.out, ← nLs_imD Ds HDB.out Ds.length (Nat.le_refl _), ← List.append_assoc, ← List.append_assoc, HXX.out, ← hl9.out]
              exact him11
            clear him11 hk11 y0 y1 y2 y3 y4 q3 p2 p3 hw10
            go_wp2
            go_roundw
            case rel => exact ⟨i + 1, by omega, by go_num, HIM11.out, HK11.out⟩
            case measure => simp [intOf]; omega
          · have hge : ¬ (i : Int) < (d.targets.length : Int) := by omega
            obtain rfl : i = d.targets.length := by omega
            have hBL := imB_len HOK.out
            have hlo := imB_lo HOK.out
            rw [← HIB.out] at HIM hX0
            have HIL := hide (im_lo HOK.out)
            have HIMD : Hid (im d = imB d ++ le 4 (crc (byt (imB d)))) := rfl
            obtain ⟨v8, hk8, ho8⟩ := HIM.out
            have HBS := hide (own_bs ho8 hlo)
            obtain ⟨g8, c8, rfl, _⟩ := own_slice ho8 hX0
            have p0 := hk8.cell 0
            have p1 := hk8.frozen 0
            simp only [List.getElem?_toArray, List.getElem?_cons_zero] at p0
            have HCR := hide (implCrc_any _ (byt (imB d)) wr (by rw [byt_size]; omega) HBS.out)
            have hcr := crc_lt (byt (imB d))
            obtain ⟨q, hq⟩ : ∃ q, crc (byt (imB d)) = q := ⟨_, rfl⟩
            rw [hq] at HCR hcr HIMD
            clear hlo him hkp hk8 ho8 hq y0 y1 y2 y3 y4
            obtain ⟨B, hB⟩ : ∃ B, imB d = B := ⟨_, rfl⟩
            rw [hB] at p0 hX0 hBL HIM HIMD HCR
            clear hB
            go_wp2_with fail
            refine HCR.out.mono ?_
            rintro e w12 ⟨rfl, hb12⟩
            have HK12 : Hid (Kp P w3 w12) := HK.out.all (by omega) hb12
            have hP12 : P < w12.heap.size := by have := hb12.size; omega
            have HN4 := hide (num1_any P (P + 1) 4 (q : Int) B w12 (.inr (.inr rfl)) hX0 (by omega) (by omega) (by omega) (HIM.out.im.below hb12))
            clear hb12 p0 p1
            go_wp2_with fail
            refine HN4.out.mono ?_
            rintro e w13 ⟨rfl, him13, hk13⟩
            have HB13 : Hid (Below w.heap.size w w13) := HKB.out w13 (HK12.out.trans hk13)
            rw [md4_nat (by omega), ← HIMD.out] at him13
            obtain ⟨v13, hk13b, ho13⟩ := him13
            obtain ⟨bl, hbf, hfr⟩ := own_bf (w0 := w) ho13 HIL.out (by omega)
            obtain ⟨ax, cx, rfl⟩ := hbf.slice
            have p0 := hk13b.cell 0
            have p1 := hk13b.frozen 0
            simp only [List.getElem?_toArray, List.getElem?_cons_zero] at p0
            have HBF := hide hbf
            have HFR := hide hfr
            clear hk13 hk13b ho13 hbf hfr
            go_wp2
            go_ret
            rw [eiF_yes HOK.out]
            exact ⟨_, bl, rfl, HBF.out, HFR.out, HB13.out⟩
end Go.Proofs.YtpnocklldlacjaaDoor
