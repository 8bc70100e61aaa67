/-
  markIntS at any slice.
  The walk of markIntSS.
  markByteS at any slice.
-/
import Derived.Test.YteicpjbeihabnaaDoorJRunFleetMK
import Derived.Test.YteicpjbeihabnaaDoorJRunFleetFL
namespace Go.Proofs.YteicpjbeihabnaaDoor
open Go.RowKit

set_option maxHeartbeats 400000 in
set_option maxRecDepth 1000000 in
theorem markI_w (a0 : Option Addr) (b o n cap k0 : Nat) (w : World) (hn : n ≤ 100000000) (hk0 : k0 ≤ 1000000000000000000) (ha : 0 < n → a0 = some ⟨b, o, none⟩) (hc : ∀ j, j < n → ∃ v, w.cell? ⟨b, o + j, none⟩ = some v) (hf : ∀ j, j < n → w.frozen? ⟨b, o + j, none⟩ = false) :
    Calls Tryd.prog 22 #[.slice a0 n cap, .int .i64 k0] w fun e w' => e = .returned (.int .i64 (k0 + n : Nat)) ∧ Wrt b w w' ∧ (∀ j, j < n → w'.cell? ⟨b, o + j, none⟩ = some (mkI (k0 + j))) ∧ (∀ j, j < o ∨ o + n ≤ j → w'.cell? ⟨b, j, none⟩ = w.cell? ⟨b, j, none⟩) ∧ (n = 0 → w' = w) := by
  have HC := hide hc
  have HF := hide hf
  clear hc hf
  go_enter Tryd.func22, Tryd.ntmps22
  go_wp2
  go_loopw [1, 5] (fun kk i wr => ∃ m : Nat, m ≤ n ∧ i = .int .i64 m ∧ kk = .int .i64 (k0 + m : Nat) ∧ Wrt b w wr ∧ (∀ j, j < m → wr.cell? ⟨b, o + j, none⟩ = some (mkI (k0 + j))) ∧ (∀ j, j < o ∨ o + n ≤ j → wr.cell? ⟨b, j, none⟩ = w.cell? ⟨b, j, none⟩) ∧ (m = 0 → wr = w)) (fun _ i _ => n - (intOf i).toNat)
  case atStart => exact ⟨0, Nat.zero_le _, rfl, rfl, Wrt.refl _ _, fun j hj => absurd hj (Nat.not_lt_zero _), fun _ _ => rfl, fun _ => rfl⟩
  case round =>
    obtain ⟨m, hm, rfl, rfl, hon, hmk, hot, hz0⟩ := hrel
    have HZ := hide hz0
    have HM := hide hmk
    have HO := hide hot
    have HW := hide hon
    clear hmk hot hon hz0
    by_cases hlt : m < n
    · obtain rfl := ha (by omega)
      obtain ⟨v, g1⟩ := HW.out.has _ (HC.out m hlt)
      have g2 := (HW.out.fz ⟨b, o + m, none⟩).trans (HF.out m hlt)
      have EV : Hid (Value.int .i64 ((k0 : Int) + (m : Int)) = mkI (k0 + m)) := by show _ = _; unfold mkI; congr 1
      go_wp2
      rw [EV.out]
      have hcell := fun j => set_hit (u := mkI (k0 + m)) g1 j
      go_roundw
      case rel => exact ⟨m + 1, by omega, by go_num, by go_num, HW.out.setCell g1 _, fun j hj => by
          rw [hcell]
          by_cases e : j = m
          · rw [if_pos (by omega), e]
          · rw [if_neg (by omega)]; exact HM.out j (by omega), fun j hj => by
          rw [hcell, if_neg (by omega)]; exact HO.out j hj, fun h => absurd h (by omega)⟩
      case measure => simp [intOf]; omega
    · have e : m = n := by omega
      subst e
      go_wp2
      go_ret
      exact ⟨rfl, HW.out, HM.out, HO.out, HZ.out⟩

theorem markI_f {w : World} {v : Value} {s : List Int} {bl : List Nat} {k : Nat} (hs : s.length ≤ 100000000) (hk : k ≤ 1000000000000000000) (h : IF w v s bl) :
    Calls Tryd.prog 22 #[v, .int .i64 (k : Nat)] w fun e w' => e = .returned (.int .i64 (k + s.length : Nat)) ∧ IM w' v s.length k bl ∧ Wrs bl w w' := by
  obtain ⟨a, b, o, c, rfl, h2, rfl, h3⟩ := h
  refine (markI_w a b o s.length c k w hs hk h2 (fun j hj => ⟨_, (h3 j hj).1⟩) (fun j hj => (h3 j hj).2)).mono ?_
  rintro e w' ⟨he, hw, hm, _, hz0⟩
  refine ⟨he, ⟨a, b, o, c, rfl, h2, rfl, hm⟩, ⟨hw.os, hw.tape, hw.output, by rw [hw.size]; exact Nat.le_refl _, fun g hg ho => ?_⟩⟩
  by_cases hz : 0 < s.length
  · rw [if_pos hz] at ho
    exact hw.blk g (fun e => ho (List.mem_singleton.2 e))
  · by_cases e : g = b
    · subst e
      rw [hz0 (by omega)]
    · exact hw.blk g e
end Go.Proofs.YteicpjbeihabnaaDoor

namespace Go.Proofs.YteicpjbeihabnaaDoor
open Go.RowKit

set_option maxHeartbeats 4000000 in
set_option maxRecDepth 1000000 in
theorem markIIS_f {w : World} {v : Value} {L : List (List Int)} {bl : List Nat} {k : Nat} (hs : IISB L) (hk : k ≤ 1000000000000000) (hF : IISF w v L bl) (hN : bl.Nodup) :
    Calls Tryd.prog 54 #[v, .int .i64 (k : Nat)] w fun e w' => e = .returned (.int .i64 (k + IISn L L.length : Nat)) ∧ IISM w' v L k bl ∧ Wrs bl w w' := by
  obtain ⟨a, b, o, c, V, NB, rfl, ha, hbl, hc⟩ := hF
  have HBL := hide hbl
  have hsl := hs.len
  have HLE := hide (fun i hi => IISn_le hs i hi)
  have HSZ := hide hs.each
  have HND : Hid (0 < L.length → (∀ j, j < L.length → b ∉ NB j) ∧ ∀ i j, i < L.length → j < L.length → i ≠ j → ∀ g, g ∈ NB i → g ∉ NB j) := fun hz => by
    rw [hbl, if_pos hz, List.nodup_append] at hN
    obtain ⟨_, h2, h3⟩ := hN
    exact ⟨fun j hj hm => h3 b (List.mem_singleton.2 rfl) b (mem_flat hj hm) rfl, (flat_split h2).2⟩
  have HC := hide hc
  clear hc hN hs hbl
  go_enter Tryd.func54, Tryd.ntmps54
  go_wp2
  go_loopw [1, 5] (fun kk i wr => ∃ m : Nat, m ≤ L.length ∧ i = .int .i64 m ∧ kk = .int .i64 (k + IISn L m : Nat) ∧ Wrs bl w wr ∧ (∀ j, m ≤ j → j < L.length → wr.cell? ⟨b, o + j, none⟩ = some (V j) ∧ IF wr (V j) (L.getD j []) (NB j)) ∧ ∀ j, j < m → wr.cell? ⟨b, o + j, none⟩ = some (V j) ∧ IM wr (V j) (L.getD j []).length (k + IISn L j) (NB j)) (fun _ i _ => L.length - (intOf i).toNat)
  case atStart => exact ⟨0, Nat.zero_le _, rfl, rfl, Wrs.refl _ _, fun j _ hj => HC.out j hj, fun j hj => absurd hj (Nat.not_lt_zero _)⟩
  case round =>
    obtain ⟨m, hm, rfl, rfl, hw, hun, hmk⟩ := hrel
    have HW := hide hw
    have HUN := hide hun
    have HMK := hide hmk
    clear hw hun hmk
    by_cases hlt : m < L.length
    · obtain rfl := ha (by omega)
      obtain ⟨hbn, hij⟩ := HND.out (by omega)
      have HBN := hide hbn
      have HIJ := hide hij
      have hlti : (m : Int) < (L.length : Int) := by omega
      obtain ⟨g0, hfm⟩ := HUN.out m (Nat.le_refl _) hlt
      have hle := HLE.out m (by omega)
      have hsz := HSZ.out m hlt
      obtain ⟨d, hd⟩ : ∃ d, L.getD m [] = d := ⟨_, rfl⟩
      rw [hd] at hfm hsz
      have HD := hide hd
      obtain ⟨y, hy⟩ : ∃ y, k + IISn L m = y := ⟨_, rfl⟩
      have HY := hide hy
      have hyb : y ≤ 2000000000000000 := by omega
      rw [hy]
      have HSN : Hid (k + IISn L (m + 1) = y + d.length) := by
        show k + (IISn L m + (L.getD m []).length) = _
        rw [HD.out]
        omega
      obtain ⟨av, cv, hv⟩ := hfm.slice
      have HG0 := hide g0
      rw [hv] at g0 hfm
      have HV := hide hv
      have HM := hide (markI_f (w := wr) (k := y) (by omega) (by omega) hfm)
      clear hfm hy hd hbn hij hv
      go_wp2_with fail
      refine HM.out.mono ?_
      rintro e w2 ⟨rfl, hm2, hw2⟩
      have HB2 : Hid (∀ g, g < wr.heap.size → g ∉ NB m → w2.heap[g]? = wr.heap[g]?) := fun g hg hn => hw2.blk g hg hn
      have HC2 : Hid (∀ j, w2.cell? ⟨b, j, none⟩ = wr.cell? ⟨b, j, none⟩) := fun j => World.cell?_of_block (w := wr) (a := ⟨b, j, none⟩) (hw2.blk b (by exact World.block_lt_of_cell? _ _ g0) (HBN.out m hlt))
      have HW2 : Hid (Wrs bl w w2) := HW.out.trans (hw2.mono (fun g hg => by rw [HBL.out]; exact List.mem_append_right _ (mem_flat hlt hg)))
      have HM2 := hide hm2
      clear hm2 hw2 HM
      go_wp2
      go_roundw
      case rel =>
        refine ⟨m + 1, by omega, by go_num, by rw [HSN.out]; rfl, HW2.out, fun j hj1 hj2 => ?_, fun j hj => ?_⟩
        · obtain ⟨hcj, hfj⟩ := HUN.out j (by omega) hj2
          exact ⟨(HC2.out _).trans hcj, hfj.keep (fun g hg => HB2.out g (hfj.lt g hg) (HIJ.out j m hj2 hlt (by omega) g hg))⟩
        · by_cases e : j = m
          · subst e
            rw [HD.out, HY.out, HV.out]
            exact ⟨by rw [HC2.out, ← HV.out]; exact HG0.out, HM2.out⟩
          · obtain ⟨qq, hmj⟩ := HMK.out j (by omega)
            exact ⟨(HC2.out _).trans qq, hmj.keep (fun g hg => HB2.out g (hmj.lt g hg) (HIJ.out j m (by omega) hlt e g hg))⟩
      case measure => simp [intOf]; omega
    · have hge : ¬ (m : Int) < (L.length : Int) := by omega
      have e : m = L.length := by omega
      subst e
      go_wp2
      go_ret
      exact ⟨rfl, ⟨a, b, o, c, V, NB, rfl, ha, HBL.out, HMK.out⟩, HW.out⟩
end Go.Proofs.YteicpjbeihabnaaDoor

namespace Go.Proofs.YteicpjbeihabnaaDoor
open Go.RowKit

set_option maxHeartbeats 400000 in
set_option maxRecDepth 1000000 in
theorem markB_w (a0 : Option Addr) (b o n cap k0 : Nat) (w : World) (hn : n ≤ 100000000) (hk0 : k0 ≤ 1000000000000000000) (ha : 0 < n → a0 = some ⟨b, o, none⟩) (hc : ∀ j, j < n → ∃ v, w.cell? ⟨b, o + j, none⟩ = some v) (hf : ∀ j, j < n → w.frozen? ⟨b, o + j, none⟩ = false) :
    Calls Tryd.prog 75 #[.slice a0 n cap, .int .i64 k0] w fun e w' => e = .returned (.int .i64 (k0 + n : Nat)) ∧ Wrt b w w' ∧ (∀ j, j < n → w'.cell? ⟨b, o + j, none⟩ = some (mkB (k0 + j))) ∧ (∀ j, j < o ∨ o + n ≤ j → w'.cell? ⟨b, j, none⟩ = w.cell? ⟨b, j, none⟩) ∧ (n = 0 → w' = w) := by
  have HC := hide hc
  have HF := hide hf
  clear hc hf
  go_enter Tryd.func75, Tryd.ntmps75
  go_wp2
  go_loopw [1, 5] (fun kk i wr => ∃ m : Nat, m ≤ n ∧ i = .int .i64 m ∧ kk = .int .i64 (k0 + m : Nat) ∧ Wrt b w wr ∧ (∀ j, j < m → wr.cell? ⟨b, o + j, none⟩ = some (mkB (k0 + j))) ∧ (∀ j, j < o ∨ o + n ≤ j → wr.cell? ⟨b, j, none⟩ = w.cell? ⟨b, j, none⟩) ∧ (m = 0 → wr = w)) (fun _ i _ => n - (intOf i).toNat)
  case atStart => exact ⟨0, Nat.zero_le _, rfl, rfl, Wrt.refl _ _, fun j hj => absurd hj (Nat.not_lt_zero _), fun _ _ => rfl, fun _ => rfl⟩
  case round =>
    obtain ⟨m, hm, rfl, rfl, hon, hmk, hot, hz0⟩ := hrel
    have HZ := hide hz0
    have HM := hide hmk
    have HO := hide hot
    have HW := hide hon
    clear hmk hot hon hz0
    by_cases hlt : m < n
    · obtain rfl := ha (by omega)
      obtain ⟨v, g1⟩ := HW.out.has _ (HC.out m hlt)
      have g2 := (HW.out.fz ⟨b, o + m, none⟩).trans (HF.out m hlt)
      have EV : Hid (Value.int .u8 (((k0 : Int) + (m : Int)) % 256) = mkB (k0 + m)) := by show _ = _; unfold mkB; congr 1
      go_wp2
      rw [EV.out]
      have hcell := fun j => set_hit (u := mkB (k0 + m)) g1 j
      go_roundw
      case rel => exact ⟨m + 1, by omega, by go_num, by go_num, HW.out.setCell g1 _, fun j hj => by
          rw [hcell]
          by_cases e : j = m
          · rw [if_pos (by omega), e]
          · rw [if_neg (by omega)]; exact HM.out j (by omega), fun j hj => by
          rw [hcell, if_neg (by omega)]; exact HO.out j hj, fun h => absurd h (by omega)⟩
      case measure => simp [intOf]; omega
    · have e : m = n := by omega
      subst e
      go_wp2
      go_ret
      exact ⟨rfl, HW.out, HM.out, HO.out, HZ.out⟩

theorem markB_f {w : World} {v : Value} {s : ByteArray} {bl : List Nat} {k : Nat} (hs : s.size ≤ 100000000) (hk : k ≤ 1000000000000000000) (h : BF w v s bl) :
    Calls Tryd.prog 75 #[v, .int .i64 (k : Nat)] w fun e w' => e = .returned (.int .i64 (k + s.size : Nat)) ∧ BM w' v s.size k bl ∧ Wrs bl w w' := by
  obtain ⟨a, b, o, c, rfl, h2, rfl, h3⟩ := h
  refine (markB_w a b o s.size c k w hs hk h2 (fun j hj => ⟨_, (h3 j hj).1⟩) (fun j hj => (h3 j hj).2)).mono ?_
  rintro e w' ⟨he, hw, hm, _, hz0⟩
  refine ⟨he, ⟨a, b, o, c, rfl, h2, rfl, hm⟩, ⟨hw.os, hw.tape, hw.output, by rw [hw.size]; exact Nat.le_refl _, fun g hg ho => ?_⟩⟩
  by_cases hz : 0 < s.size
  · rw [if_pos hz] at ho
    exact hw.blk g (fun e => ho (List.mem_singleton.2 e))
  · by_cases e : g = b
    · subst e
      rw [hz0 (by omega)]
    · exact hw.blk g e
end Go.Proofs.YteicpjbeihabnaaDoor
