/-
  Plain facts on literals: what a byte is written as. No run of the program stands in this text.
-/
import Derived.Test.YteicpjbeihabnaaDoorJValidFleetT
import Derived.Lib.RuneBytes
namespace Go.Proofs.YteicpjbeihabnaaDoor
open Go.RowKit

def dg (k : Nat) : Nat := if k < 10 then 48 + k else 87 + k
def hexL (c : Nat) : List Nat := if c < 16 then [dg c] else [dg (c / 16), dg (c % 16)]
/-- What a byte is written as in a literal. -/
def qb (c : Nat) : List Nat := if c = 34 ∨ c = 92 then [92, c] else if c < 32 ∨ c = 127 then [92, 117, 123] ++ hexL c ++ [125] else [c]
/-- Numbers as cells. -/
def cv (l : List Nat) : List Value := l.map fun n : Nat => Value.int .u8 (n : Int)
def qTo (s : ByteArray) : Nat → List Nat
  | 0 => [34]
  | k + 1 => qTo s k ++ qb (s.get! k).toNat

theorem cv_length (l : List Nat) : (cv l).length = l.length := by simp [cv]
theorem cv_append (a b : List Nat) : cv (a ++ b) = cv a ++ cv b := by simp [cv]
theorem hexL_le (c : Nat) : (hexL c).length ≤ 2 := by unfold hexL; split <;> simp
theorem qb_le (c : Nat) : (qb c).length ≤ 6 := by
  have := hexL_le c
  unfold qb
  split
  · simp
  · split
    · simp; omega
    · simp
theorem qTo_le (s : ByteArray) (k : Nat) : (qTo s k).length ≤ 6 * k + 1 := by
  induction k with
  | zero => simp [qTo]
  | succ k ih => have := qb_le (s.get! k).toNat; rw [qTo, List.length_append]; omega
theorem cv_one (l : List Nat) : ∀ u ∈ cv l, u.oneCell' = true := by
  intro u hu
  simp only [cv, List.mem_map] at hu
  obtain ⟨n, _, rfl⟩ := hu
  rfl

theorem qb_high {c : Nat} (h : 128 ≤ c) : qb c = [c] := by unfold qb; rw [if_neg (by omega), if_neg (by omega)]
theorem qTo_two (s : ByteArray) (p : Nat) (h0 : 128 ≤ bk s p 0) (h1 : 128 ≤ bk s p 1) : qTo s (p + 2) = qTo s p ++ [bk s p 0, bk s p 1] := by
  show qTo s p ++ qb (bk s p 0) ++ qb (bk s p 1) = _
  rw [qb_high h0, qb_high h1]; simp
theorem qTo_three (s : ByteArray) (p : Nat) (h0 : 128 ≤ bk s p 0) (h1 : 128 ≤ bk s p 1) (h2 : 128 ≤ bk s p 2) : qTo s (p + 3) = qTo s p ++ [bk s p 0, bk s p 1, bk s p 2] := by
  show qTo s p ++ qb (bk s p 0) ++ qb (bk s p 1) ++ qb (bk s p 2) = _
  rw [qb_high h0, qb_high h1, qb_high h2]; simp
theorem qTo_four (s : ByteArray) (p : Nat) (h0 : 128 ≤ bk s p 0) (h1 : 128 ≤ bk s p 1) (h2 : 128 ≤ bk s p 2) (h3 : 128 ≤ bk s p 3) : qTo s (p + 4) = qTo s p ++ [bk s p 0, bk s p 1, bk s p 2, bk s p 3] := by
  show qTo s p ++ qb (bk s p 0) ++ qb (bk s p 1) ++ qb (bk s p 2) ++ qb (bk s p 3) = _
  rw [qb_high h0, qb_high h1, qb_high h2, qb_high h3]; simp

/-- A character beyond ASCII: its bytes are its shortest form, and stand as they are in a literal. -/
theorem qTo_rune (s : ByteArray) (p : Nat) (hp : p < s.size) (h : (chr s p).1 ≠ 0) (h0 : 128 ≤ bk s p 0) :
    ∃ ys, qTo s (p + (chr s p).1) = qTo s p ++ ys ∧ cv ys = Lib.runeCells ((chr s p).2 : Int) ∧ 128 ≤ (chr s p).2 ∧ (chr s p).2 ≤ 1114111 ∧ p + (chr s p).1 ≤ s.size := by
  have b0 := bk_lt s p 0
  have b1 := bk_lt s p 1
  have b2 := bk_lt s p 2
  have b3 := bk_lt s p 3
  have hn : ¬ (bk s p 0 < 192 ∨ 248 ≤ bk s p 0) := fun g => h (by rw [chr_none s p h0 g])
  by_cases h2 : bk s p 0 < 224
  · have g := chr_two s p hp (by omega) h2
    by_cases ok : okc s p 2 (bk s p 0 - 192)
    · rw [g.1 ok]
      have hc := (conts_two _).1 ok.2.1
      have hu := (ulen_two _).1 ok.2.2.2
      simp only [vacc, Nat.zero_add, Nat.add_one_sub_one] at hu ⊢
      obtain ⟨V, hV⟩ : ∃ V, (bk s p 0 - 192) * 64 + bk s p 1 % 64 = V := ⟨_, rfl⟩
      rw [hV] at hu ⊢
      refine ⟨_, qTo_two s p h0 hc.1, ?_, hu.1, by omega, ok.1⟩
      have e0 : ((bk s p 0 : Nat) : Int) = 192 + (V : Int) / 64 := by omega
      have e1 : ((bk s p 1 : Nat) : Int) = 128 + (V : Int) % 64 := by omega
      simp only [Lib.runeCells]
      rw [Lib.encodeRuneZ_two (by omega) (by omega), ← e0, ← e1]
      rfl
    · exact absurd (by rw [g.2 ok]) h
  by_cases h3 : bk s p 0 < 240
  · have g := chr_three s p hp (by omega) h3
    by_cases ok : okc s p 3 (bk s p 0 - 224)
    · rw [g.1 ok]
      have hc := (conts_three _).1 ok.2.1
      have hu := (ulen_three _).1 ok.2.2.2
      have hpt := (pointB_nat _).1 ok.2.2.1
      simp only [vacc, Nat.zero_add, Nat.add_one_sub_one, Nat.reduceAdd] at hu hpt ⊢
      obtain ⟨V, hV⟩ : ∃ V, ((bk s p 0 - 224) * 64 + bk s p 1 % 64) * 64 + bk s p 2 % 64 = V := ⟨_, rfl⟩
      rw [hV] at hu hpt ⊢
      refine ⟨_, qTo_three s p h0 hc.1.1 hc.2.1, ?_, by omega, by omega, ok.1⟩
      have e0 : ((bk s p 0 : Nat) : Int) = 224 + (V : Int) / 4096 := by omega
      have e1 : ((bk s p 1 : Nat) : Int) = 128 + (V : Int) / 64 % 64 := by omega
      have e2 : ((bk s p 2 : Nat) : Int) = 128 + (V : Int) % 64 := by omega
      simp only [Lib.runeCells]
      rw [Lib.encodeRuneZ_three (by omega), ← e0, ← e1, ← e2]
      rfl
    · exact absurd (by rw [g.2 ok]) h
  · have g := chr_four s p hp (by omega) (by omega)
    by_cases ok : okc s p 4 (bk s p 0 - 240)
    · rw [g.1 ok]
      have hc := (conts_four _).1 ok.2.1
      have hu := (ulen_four _).1 ok.2.2.2
      have hpt := (pointB_nat _).1 ok.2.2.1
      simp only [vacc, Nat.zero_add, Nat.add_one_sub_one, Nat.reduceAdd] at hu hpt ⊢
      obtain ⟨V, hV⟩ : ∃ V, (((bk s p 0 - 240) * 64 + bk s p 1 % 64) * 64 + bk s p 2 % 64) * 64 + bk s p 3 % 64 = V := ⟨_, rfl⟩
      rw [hV] at hu hpt ⊢
      refine ⟨_, qTo_four s p h0 hc.1.1 hc.2.1.1 hc.2.2.1, ?_, by omega, by omega, ok.1⟩
      have e0 : ((bk s p 0 : Nat) : Int) = 240 + (V : Int) / 262144 := by omega
      have e1 : ((bk s p 1 : Nat) : Int) = 128 + (V : Int) / 4096 % 64 := by omega
      have e2 : ((bk s p 2 : Nat) : Int) = 128 + (V : Int) / 64 % 64 := by omega
      have e3 : ((bk s p 3 : Nat) : Int) = 128 + (V : Int) % 64 := by omega
      simp only [Lib.runeCells]
      rw [Lib.encodeRuneZ_four (by omega) (by omega), ← e0, ← e1, ← e2, ← e3]
      rfl
    · exact absurd (by rw [g.2 ok]) h
/-- What QuoteText answers. -/
def quoted (s : ByteArray) : List Nat := if (chk s).1 = 0 then qTo s s.size ++ [34] else []
end Go.Proofs.YteicpjbeihabnaaDoor
