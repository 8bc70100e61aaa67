/-
  markIntS at any slice.
-/
import Derived.Test.YteicpjbeihabnaaDoorJWalkMK
namespace Go.Proofs.YteicpjbeihabnaaDoor
open Go.RowKit

set_option maxHeartbeats 400000 in
set_option maxRecDepth 1000000 in
theorem markI_w (a0 : Option Addr) (b o n cap k0 : Nat) (w : World) (hn : n ≤ 100000000) (hk0 : k0 ≤ 1000000000000000000) (ha : 0 < n → a0 = some ⟨b, o, none⟩) (hc : ∀ j, j < n → ∃ v, w.cell? ⟨b, o + j, none⟩ = some v) (hf : ∀ j, j < n → w.frozen? ⟨b, o + j, none⟩ = false) :
    Calls Tryd.prog 22 #[.slice a0 n cap, .int .i64 k0] w fun e w' => e = .returned (.int .i64 (k0 + n : Nat)) ∧ Wrt b w w' ∧ (∀ j, j < n → w'.cell? ⟨b, o + j, none⟩ = some (mkI (k0 + j))) ∧ (∀ j, j < o ∨ o + n ≤ j → w'.cell? ⟨b, j, none⟩ = w.cell? ⟨b, j, none⟩) ∧ (n = 0 → w' = w) := by
  have HC := hide hc
  have HF := hide hf
  clear hc hf
  go_enter Tryd.func22, Tryd.ntmps22
  go_wp2
  go_loopw [1, 5] (fun kk i wr => ∃ m : Nat, m ≤ n ∧ i = .int .i64 m ∧ kk = .int .i64 (k0 + m : Nat) ∧ Wrt b w wr ∧ (∀ j, j < m → wr.cell? ⟨b, o + j, none⟩ = some (mkI (k0 + j))) ∧ (∀ j, j < o ∨ o + n ≤ j → wr.cell? ⟨b, j, none⟩ = w.cell? ⟨b, j, none⟩) ∧ (m = 0 → wr = w)) (fun _ i _ => n - (intOf i).toNat)
  case atStart => exact ⟨0, Nat.zero_le _, rfl, rfl, Wrt.refl _ _, fun j hj => absurd hj (Nat.not_lt_zero _), fun _ _ => rfl, fun _ => rfl⟩
  case round =>
    obtain ⟨m, hm, rfl, rfl, hon, hmk, hot, hz0⟩ := hrel
    have HZ := hide hz0
    have HM := hide hmk
    have HO := hide hot
    have HW := hide hon
    clear hmk hot hon hz0
    by_cases hlt : m < n
    · obtain rfl := ha (by omega)
      obtain ⟨v, g1⟩ := HW.out.has _ (HC.out m hlt)
      have g2 := (HW.out.fz ⟨b, o + m, none⟩).trans (HF.out m hlt)
      have EV : Hid (Value.int .i64 ((k0 : Int) + (m : Int)) = mkI (k0 + m)) := by show _ = _; unfold mkI; congr 1
      go_wp2
      rw [EV.out]
      have hcell := fun j => set_hit (u := mkI (k0 + m)) g1 j
      go_roundw
      case rel => exact ⟨m + 1, by omega, by go_num, by go_num, HW.out.setCell g1 _, fun j hj => by
          rw [hcell]
          by_cases e : j = m
          · rw [if_pos (by omega), e]
          · rw [if_neg (by omega)]; exact HM.out j (by omega), fun j hj => by
          rw [hcell, if_neg (by omega)]; exact HO.out j hj, fun h => absurd h (by omega)⟩
      case measure => simp [intOf]; omega
    · have e : m = n := by omega
      subst e
      go_wp2
      go_ret
      exact ⟨rfl, HW.out, HM.out, HO.out, HZ.out⟩

theorem markI_f {w : World} {v : Value} {s : List Int} {bl : List Nat} {k : Nat} (hs : s.length ≤ 100000000) (hk : k ≤ 1000000000000000000) (h : IF w v s bl) :
    Calls Tryd.prog 22 #[v, .int .i64 (k : Nat)] w fun e w' => e = .returned (.int .i64 (k + s.length : Nat)) ∧ IM w' v s.length k bl ∧ Wrs bl w w' := by
  obtain ⟨a, b, o, c, rfl, h2, rfl, h3⟩ := h
  refine (markI_w a b o s.length c k w hs hk h2 (fun j hj => ⟨_, (h3 j hj).1⟩) (fun j hj => (h3 j hj).2)).mono ?_
  rintro e w' ⟨he, hw, hm, _, hz0⟩
  refine ⟨he, ⟨a, b, o, c, rfl, h2, rfl, hm⟩, ⟨hw.os, hw.tape, hw.output, by rw [hw.size]; exact Nat.le_refl _, fun g hg ho => ?_⟩⟩
  by_cases hz : 0 < s.length
  · rw [if_pos hz] at ho
    exact hw.blk g (fun e => ho (List.mem_singleton.2 e))
  · by_cases e : g = b
    · subst e
      rw [hz0 (by omega)]
    · exact hw.blk g e
end Go.Proofs.YteicpjbeihabnaaDoor
