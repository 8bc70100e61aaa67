/-
  The walks of spec.l1digit and spec.l1escape.
-/
import Derived.Test.YtfldjcmobpcpoaaDoorJLexC
import Derived.Test.YtfldjcmobpcpoaaDoorJLexY
namespace Go.Proofs.YtfldjcmobpcpoaaDoor
open Go.RowKit

set_option maxHeartbeats 400000 in
set_option maxRecDepth 1000000 in
theorem digit_any (c : Nat) (w : World) (hc : c < 256) :
    Calls Tryd.prog 52 #[.int .u8 c] w fun e w' => e = .returned (.int .i64 (hd c)) ∧ w' = w := by
  have hci : (c : Int) < 256 := by omega
  go_enter Tryd.func52, Tryd.ntmps52
  go_wp2
  all_goals go_ret
  all_goals exact ⟨ret_int (by unfold hd; repeat' split <;> omega), rfl⟩

/-- A slice of bytes and a number, as an answer. -/
def Gives (w w' : World) (e : Ending) (l : List Nat) (n : Nat) : Prop :=
  ∃ a g c, e = .returned (.tuple #[.slice a l.length c, .int .i64 (n : Int)]) ∧ (0 < l.length → a = some ⟨g, 0, none⟩) ∧ (∀ j, j < l.length → w'.cell? ⟨g, j, none⟩ = some (.int .u8 (l.getD j 0 : Nat))) ∧ Below w.heap.size w w'

theorem gives_nil {w w' : World} {l : List Nat × Nat} (h : l = ([], 0)) (hb : Below w.heap.size w w') : Gives w w' (.returned (.tuple #[.slice none 0 0, .int .i64 0])) l.1 l.2 := by
  rw [h]; exact ⟨none, 0, 0, rfl, fun h => absurd h (by decide), fun j hj => absurd hj (Nat.not_lt_zero _), hb⟩

set_option maxHeartbeats 1000000 in
set_option maxRecDepth 1000000 in
theorem esc_short (b off cap i : Nat) (s : ByteArray) (w : World) (hs : s.size ≤ 1048576) (hi : i ≤ s.size) (hc : ∀ j, j < s.size → w.cell? ⟨b, off + j, none⟩ = some (bts s j))
    (hno : ¬ (i + 1 < s.size ∧ (s.get! i).toNat = 117 ∧ (s.get! (i + 1)).toNat = 123)) :
    Calls Tryd.prog 38 #[.slice (some ⟨b, off, none⟩) s.size cap, .int .i64 i] w fun e w' => Gives w w' e (esc s i).1 (esc s i).2 := by
  by_cases h0 : s.size ≤ i
  · have HE : Hid (esc s i = ([], 0)) := by show _ = _; unfold esc; rw [if_pos h0]
    have t0 : decide ((s.size : Int) ≤ (i : Int)) = true := decide_eq_true (by omega)
    clear hc hno
    go_enter Tryd.func38, Tryd.ntmps38
    go_wp2
    go_ret2
    exact gives_nil HE.out (Below.refl _ _)
  have hlt : i < s.size := by omega
  have g0 : w.cell? ⟨b, off + i, none⟩ = some (.int .u8 ((s.get! i).toNat : Int)) := hc i hlt
  have b0 : (s.get! i).toNat < 256 := (s.get! i).toNat_lt
  obtain ⟨y, hy⟩ : ∃ y : Nat, (s.get! i).toNat = y := ⟨_, rfl⟩
  by_cases hq : y = 34 ∨ y = 92
  · have HE : Hid (esc s i = ([y], 1)) := by show _ = _; unfold esc; rw [if_neg h0, hy, if_pos hq]
    rw [hy] at g0 b0
    clear hc hno hy
    by_cases h34 : y = 34
    · have t1 : ((y : Int) == 34) = true := by rw [beq_iff_eq]; omega
      clear hq h34
      go_enter Tryd.func38, Tryd.ntmps38
      go_wp2
      go_ret2
      rw [HE.out]
      exact ⟨some ⟨w.heap.size, 0, none⟩, w.heap.size, 1, rfl, fun _ => rfl, fun j hj => by match j, hj with | 0, _ => simp, (Below.refl _ _).alloc (Nat.le_refl _) _⟩
    · have t1 : ((y : Int) == 34) = false := by rw [beq_eq_false_iff_ne]; omega
      have t2 : ((y : Int) == 92) = true := by rw [beq_iff_eq]; omega
      clear hq h34
      go_enter Tryd.func38, Tryd.ntmps38
      go_wp2
      go_ret2
      rw [HE.out]
      exact ⟨some ⟨w.heap.size, 0, none⟩, w.heap.size, 1, rfl, fun _ => rfl, fun j hj => by match j, hj with | 0, _ => simp, (Below.refl _ _).alloc (Nat.le_refl _) _⟩
  have t1 : ((y : Int) == 34) = false := by rw [beq_eq_false_iff_ne]; omega
  have t2 : ((y : Int) == 92) = false := by rw [beq_eq_false_iff_ne]; omega
  by_cases h117 : y = 117
  · have t3 : ((y : Int) != 117) = false := by rw [bne_eq_false_iff_eq]; omega
    by_cases h1 : i + 1 < s.size
    · have g1 : w.cell? ⟨b, off + (i + 1), none⟩ = some (.int .u8 ((s.get! (i + 1)).toNat : Int)) := hc (i + 1) h1
      have b1 : (s.get! (i + 1)).toNat < 256 := (s.get! (i + 1)).toNat_lt
      obtain ⟨z, hz⟩ : ∃ z : Nat, (s.get! (i + 1)).toNat = z := ⟨_, rfl⟩
      have hz123 : z ≠ 123 := fun e => hno ⟨h1, by rw [hy]; exact h117, by rw [hz]; exact e⟩
      have t4 : ((z : Int) != 123) = true := by rw [bne_iff_ne]; omega
      have t5 : decide ((s.size : Int) ≤ (i : Int) + 1) = false := decide_eq_false (by omega)
      have HE : Hid (esc s i = ([], 0)) := by show _ = _; unfold esc; rw [if_neg h0, hy, if_neg hq, if_pos (.inr (.inr (by rw [hz]; exact hz123)))]
      rw [hy] at g0 b0
      rw [hz] at g1 b1
      clear hc hno hy hz hq h117 hz123
      go_enter Tryd.func38, Tryd.ntmps38
      go_wp2
      go_ret2
      exact gives_nil HE.out (Below.refl _ _)
    · have t5 : decide ((s.size : Int) ≤ (i : Int) + 1) = true := decide_eq_true (by omega)
      have HE : Hid (esc s i = ([], 0)) := by show _ = _; unfold esc; rw [if_neg h0, hy, if_neg hq, if_pos (.inr (.inl (by omega)))]
      rw [hy] at g0 b0
      clear hc hno hy hq h117
      go_enter Tryd.func38, Tryd.ntmps38
      go_wp2
      go_ret2
      exact gives_nil HE.out (Below.refl _ _)
  · have t3 : ((y : Int) != 117) = true := by rw [bne_iff_ne]; omega
    have HE : Hid (esc s i = ([], 0)) := by show _ = _; unfold esc; rw [if_neg h0, hy, if_neg hq, if_pos (.inl h117)]
    rw [hy] at g0 b0
    clear hc hno hy hq h117
    go_enter Tryd.func38, Tryd.ntmps38
    go_wp2
    go_ret2
    exact gives_nil HE.out (Below.refl _ _)
end Go.Proofs.YtfldjcmobpcpoaaDoor
