/-
  The walk of markByteS.
-/
import Derived.Test.YtfldjcmobpcpoaaDoorJLexB0
namespace Go.Proofs.YtfldjcmobpcpoaaDoor
open Go.RowKit

/-- Only block b has turned, and no block has come. -/
structure Only (b : Nat) (w w' : World) : Prop where
  os : w'.os = w.os
  tape : w'.tape = w.tape
  output : w'.output = w.output
  size : w'.heap.size = w.heap.size
  block : ∀ g, g ≠ b → w'.heap[g]? = w.heap[g]?

theorem Only.refl (b : Nat) (w : World) : Only b w w := ⟨rfl, rfl, rfl, rfl, fun _ _ => rfl⟩
theorem Only.setCell {b : Nat} {w w' : World} (h : Only b w w') (o : Nat) (v : Value) : Only b w (w'.setCell ⟨b, o, none⟩ v) :=
  ⟨h.os, h.tape, h.output, by rw [World.size_setCell]; exact h.size, fun g hg => by rw [Below.heap_setCell _ _ _ _ hg]; exact h.block g hg⟩
theorem Only.below {b B : Nat} {w w' : World} (h : Only b w w') (hb : B ≤ b) : Below B w w' :=
  ⟨h.os, h.tape, h.output, by rw [h.size]; exact Nat.le_refl _, fun g hg => h.block g (by omega)⟩
theorem Only.cell {b : Nat} {w w' : World} (h : Only b w w') {p : Addr} (hp : p.block ≠ b) : w'.cell? p = w.cell? p := World.cell?_of_block (w := w) (h.block _ hp)
theorem Only.frozen {b : Nat} {w w' : World} (h : Only b w w') {p : Addr} (hp : p.block ≠ b) : w'.frozen? p = w.frozen? p := World.frozen?_of_block (w := w) (h.block _ hp)

/-- The mark of a number. -/
def mrk (k : Nat) : Value := .int .u8 ((k % 256 : Nat) : Int)

set_option maxHeartbeats 400000 in
set_option maxRecDepth 1000000 in
theorem mark_any (a0 : Option Addr) (b n cap k0 : Nat) (w : World) (hn : n ≤ 100000000) (hk0 : k0 ≤ 100000000) (ha : 0 < n → a0 = some ⟨b, 0, none⟩) (hc : ∀ j, j < n → ∃ v, w.cell? ⟨b, j, none⟩ = some v) (hf : ∀ j, j < n → w.frozen? ⟨b, j, none⟩ = false) :
    Calls Tryd.prog 13 #[.slice a0 n cap, .int .i64 k0] w fun e w' => e = .returned (.int .i64 (k0 + n : Nat)) ∧ Only b w w' ∧ ∀ j, j < n → w'.cell? ⟨b, j, none⟩ = some (mrk (k0 + j)) := by
  have HC := hide hc
  have HF := hide hf
  clear hc hf
  go_enter Tryd.func13, Tryd.ntmps13
  go_wp2
  go_loopw [1, 5] (fun kk i wr => ∃ m : Nat, m ≤ n ∧ i = .int .i64 m ∧ kk = .int .i64 (k0 + m : Nat) ∧ Only b w wr ∧ (∀ j, j < m → wr.cell? ⟨b, j, none⟩ = some (mrk (k0 + j))) ∧ (∀ j, j < n → ∃ v, wr.cell? ⟨b, j, none⟩ = some v) ∧ ∀ j, j < n → wr.frozen? ⟨b, j, none⟩ = false) (fun _ i _ => n - (intOf i).toNat)
  case atStart => exact ⟨0, Nat.zero_le _, rfl, rfl, Only.refl _ _, fun j hj => absurd hj (Nat.not_lt_zero _), HC.out, HF.out⟩
  case round =>
    obtain ⟨m, hm, rfl, rfl, hon, hmk, hex, hfr⟩ := hrel
    have HM := hide hmk
    have HE := hide hex
    have HR := hide hfr
    by_cases hlt : m < n
    · obtain rfl := ha (by omega)
      obtain ⟨v, g1⟩ := hex m hlt
      have g2 := hfr m hlt
      clear hmk hex hfr
      have ev : Value.int .u8 (((k0 : Int) + (m : Int)) % 256) = mrk (k0 + m) := by unfold mrk; congr 1
      have EV := hide ev
      clear ev
      go_wp2
      rw [EV.out]
      have hcell : ∀ j, (wr.setCell ⟨b, m, none⟩ (mrk (k0 + m))).cell? ⟨b, j, none⟩ = if j = m then some (mrk (k0 + m)) else wr.cell? ⟨b, j, none⟩ := fun j => by
        by_cases e : j = m
        · subst e; rw [if_pos rfl]; exact World.cell?_setCell_same _ _ _ g1
        · rw [if_neg e]; exact World.cell?_setCell_other _ _ _ _ (fun h => e (by have := congrArg Addr.off h; exact this.symm))
      go_roundw
      case rel => exact ⟨m + 1, by omega, by go_num, by go_num, hon.setCell m _, fun j hj => by
          rw [hcell]
          by_cases e : j = m
          · rw [if_pos e, e]
          · rw [if_neg e]; exact HM.out j (by omega), fun j hj => by
          rw [hcell]
          by_cases e : j = m
          · rw [if_pos e]; exact ⟨_, rfl⟩
          · rw [if_neg e]; exact HE.out j hj, fun j hj => by rw [World.frozen?_setCell]; exact HR.out j hj⟩
      case measure => simp [intOf]; omega
    · have e : m = n := by omega
      subst e
      clear hmk hex hfr
      go_wp2
      go_ret
      exact ⟨rfl, hon, HM.out⟩
end Go.Proofs.YtfldjcmobpcpoaaDoor
