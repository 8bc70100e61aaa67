/-
  Plain facts on places: the steps from character to character, lines, columns. No run of the program stands in this text.
-/
import Derived.Test.YteojiblglbmmdaaGreatDoorJFTextsT
import Derived.Test.YteojiblglbmmdaaGreatDoorJFTextsM
namespace Go.Proofs.YteojiblglbmmdaaGreatDoor
open Go.RowKit

/-- The width of what begins at a place: a character's, or 1. -/
def wd (s : ByteArray) (i : Nat) : Nat := (Utf8.decode s i).2

theorem wd_eq (s : ByteArray) (i : Nat) : wd s i = (Lib.decodeN (s.size - i) (bk s i 0) (bk s i 1) (bk s i 2) (bk s i 3)).2 := by
  unfold wd; rw [Lib.decode_at]; rfl

theorem wd_pos (s : ByteArray) (i : Nat) : 1 ≤ wd s i := by
  rw [wd_eq]; unfold Lib.decodeN
  repeat' split
  all_goals simp
theorem wd_le (s : ByteArray) (i : Nat) : wd s i ≤ 4 := by
  rw [wd_eq]; unfold Lib.decodeN
  repeat' split
  all_goals simp

theorem wd_chr (s : ByteArray) (i : Nat) : wd s i = if (chr s i).1 = 0 then 1 else (chr s i).1 := by
  have hp := wd_pos s i
  unfold chr
  by_cases h : (Utf8.decode s i).1 = 65533 ∧ (Utf8.decode s i).2 = 1
  · rw [if_pos h, if_pos rfl]; exact h.2
  · rw [if_neg h]
    show wd s i = if wd s i = 0 then 1 else wd s i
    rw [if_neg (by omega)]

/-- What stands behind the first byte of a character, within it, is no byte below 128; and it lies within the text. -/
theorem wd_in (s : ByteArray) (i : Nat) (hi : i < s.size) : i + wd s i ≤ s.size ∧ ∀ k, 1 ≤ k → k < wd s i → 128 ≤ bk s i k := by
  rw [wd_eq]
  unfold Lib.decodeN
  repeat' split
  all_goals refine ⟨by simp only; omega, fun k h1 h2 => ?_⟩
  all_goals simp only at h2
  all_goals first
    | omega
    | (have e : k = 1 := by omega
       subst e; omega)
    | (have e : k = 1 ∨ k = 2 := by omega
       rcases e with rfl | rfl <;> omega)
    | (have e : k = 1 ∨ k = 2 ∨ k = 3 := by omega
       rcases e with rfl | rfl | rfl <;> omega)

theorem wd_low (s : ByteArray) (i : Nat) (h : bk s i 0 < 128) : wd s i = 1 := by
  rw [wd_eq]; unfold Lib.decodeN; rw [if_pos h]

/-- The place behind k characters from st on. -/
def stp (s : ByteArray) (st : Nat) : Nat → Nat
  | 0 => st
  | k + 1 => stp s st k + wd s (stp s st k)

theorem stp_lt (s : ByteArray) (st k : Nat) : stp s st k < stp s st (k + 1) := by have := wd_pos s (stp s st k); rw [stp]; omega
theorem stp_mono (s : ByteArray) (st : Nat) {j k : Nat} (h : j ≤ k) : stp s st j ≤ stp s st k := by
  induction k with
  | zero => have : j = 0 := by omega
            subst this; exact Nat.le_refl _
  | succ k ih =>
    by_cases e : j = k + 1
    · subst e; exact Nat.le_refl _
    · exact Nat.le_trans (ih (by omega)) (Nat.le_of_lt (stp_lt s st k))

/-- How many LFs stand before i. -/
def cntLF (s : ByteArray) : Nat → Nat
  | 0 => 0
  | i + 1 => cntLF s i + if (s.get! i).toNat = 10 then 1 else 0
theorem cntLF_le (s : ByteArray) (i : Nat) : cntLF s i ≤ i := by
  induction i with
  | zero => exact Nat.le_refl _
  | succ i ih => rw [cntLF]; split <;> omega
theorem cntLF_none (s : ByteArray) (i : Nat) : ∀ k, (∀ j, i ≤ j → j < i + k → (s.get! j).toNat ≠ 10) → cntLF s (i + k) = cntLF s i
  | 0, _ => rfl
  | k + 1, h => by
    have ih := cntLF_none s i k (fun j h1 h2 => h j h1 (by omega))
    show cntLF s (i + k) + (if (s.get! (i + k)).toNat = 10 then 1 else 0) = _
    rw [ih, if_neg (h (i + k) (by omega) (by omega)), Nat.add_zero]

/-- Where the line begins, and the column: what both texts come to at 'at'. -/
structure Pos (s : ByteArray) (p st c : Nat) : Prop where
  le : st ≤ p
  lf : st = 0 ∨ (0 < st ∧ (s.get! (st - 1)).toNat = 10)
  none : ∀ j, st ≤ j → j < p → (s.get! j).toNat ≠ 10
  one : 1 ≤ c
  lo : stp s st (c - 1) ≤ p
  hi : p < stp s st c

/-- The same in the middle of the way: i is a character's place, and c - 1 characters stand between st and i. -/
structure Mid (s : ByteArray) (i st c : Nat) : Prop where
  lf : st = 0 ∨ (0 < st ∧ (s.get! (st - 1)).toNat = 10)
  none : ∀ j, st ≤ j → j < i → (s.get! j).toNat ≠ 10
  one : 1 ≤ c
  at_ : stp s st (c - 1) = i

theorem Mid.start (s : ByteArray) : Mid s 0 0 1 := ⟨.inl rfl, fun _ _ h => absurd h (Nat.not_lt_zero _), Nat.le_refl _, rfl⟩
theorem Mid.st_le {s : ByteArray} {i st c : Nat} (h : Mid s i st c) : st ≤ i := by rw [← h.at_]; exact stp_mono s st (Nat.zero_le _)

theorem noLF_in (s : ByteArray) (i : Nat) (hi : i < s.size) (h0 : (s.get! i).toNat ≠ 10) : ∀ j, i ≤ j → j < i + wd s i → (s.get! j).toNat ≠ 10 := by
  intro j h1 h2
  by_cases e : j = i
  · rw [e]; exact h0
  · have := (wd_in s i hi).2 (j - i) (by omega) (by omega)
    unfold bk at this
    rw [show i + (j - i) = j by omega] at this
    omega

/-- A step over a character that is no LF. -/
theorem Mid.step {s : ByteArray} {i st c : Nat} (h : Mid s i st c) (hi : i < s.size) (h0 : (s.get! i).toNat ≠ 10) : Mid s (i + wd s i) st (c + 1) := by
  refine ⟨h.lf, fun j h1 h2 => ?_, by omega, ?_⟩
  · by_cases hj : j < i
    · exact h.none j h1 hj
    · exact noLF_in s i hi h0 j (by omega) h2
  · have e : c + 1 - 1 = (c - 1) + 1 := by have := h.one; omega
    rw [e, stp, h.at_]
theorem cntLF_step (s : ByteArray) (i : Nat) (hi : i < s.size) (h0 : (s.get! i).toNat ≠ 10) : cntLF s (i + wd s i) = cntLF s i := cntLF_none s i _ (fun j h1 h2 => noLF_in s i hi h0 j h1 h2)
theorem wd_LF (s : ByteArray) (i : Nat) (h0 : (s.get! i).toNat = 10) : wd s i = 1 := wd_low s i (by unfold bk; rw [Nat.add_zero, h0]; decide)
/-- A step over an LF. -/
theorem Mid.line {s : ByteArray} {i : Nat} (h0 : (s.get! i).toNat = 10) : Mid s (i + wd s i) (i + wd s i) 1 := by
  rw [wd_LF s i h0]
  exact ⟨.inr ⟨by omega, by rw [Nat.add_sub_cancel]; exact h0⟩, fun j h1 h2 => by omega, Nat.le_refl _, rfl⟩
theorem cntLF_line (s : ByteArray) (i : Nat) (h0 : (s.get! i).toNat = 10) : cntLF s (i + wd s i) = cntLF s i + 1 := by rw [wd_LF s i h0, cntLF, if_pos h0]

/-- The end: nothing more fits before p. -/
theorem Mid.done {s : ByteArray} {i st c p : Nat} (h : Mid s i st c) (hp : i ≤ p) (hend : i = p ∨ (i < s.size ∧ p < i + wd s i)) : Pos s p st c ∧ cntLF s p = cntLF s i := by
  have hw := wd_pos s i
  have hst := h.st_le
  have hno : ∀ j, i ≤ j → j < p → (s.get! j).toNat ≠ 10 := by
    intro j h1 h2
    rcases hend with e | ⟨hi, e⟩
    · omega
    · refine noLF_in s i hi (fun h0 => ?_) j h1 (by omega)
      rw [wd_LF s i h0] at e
      omega
  have e : c = (c - 1) + 1 := by have := h.one; omega
  refine ⟨⟨by omega, h.lf, fun j h1 h2 => ?_, h.one, by rw [h.at_]; exact hp, by rw [e, stp, h.at_]; rcases hend with e | ⟨_, e⟩ <;> omega⟩, ?_⟩
  · by_cases hj : j < i
    · exact h.none j h1 hj
    · exact hno j (by omega) h2
  · have := cntLF_none s i (p - i) (fun j h1 h2 => hno j h1 (by omega))
    rw [show i + (p - i) = p by omega] at this
    exact this

/-! ### the rest of a text, with an LF behind it -/
/-- u is the rest of s from st on, with an LF behind it. -/
structure Rest (s u : ByteArray) (st : Nat) : Prop where
  le : st ≤ s.size
  size : u.size = s.size - st + 1
  get : ∀ k, st + k < s.size → u.get! k = s.get! (st + k)
  last : (u.get! (s.size - st)).toNat = 10

theorem Rest.bk {s u : ByteArray} {st : Nat} (h : Rest s u st) (i k : Nat) (hi : i + k < s.size - st) : bk u i k = bk s (st + i) k := by
  unfold Go.Proofs.YteojiblglbmmdaaGreatDoor.bk
  rw [h.get (i + k) (by have := h.le; omega), Nat.add_assoc]

theorem decN_four (n m y0 y1 y2 y3 : Nat) (h : 4 ≤ n) (h2 : 4 ≤ m) : Lib.decodeN n y0 y1 y2 y3 = Lib.decodeN m y0 y1 y2 y3 := by
  have a1 : 1 < n := by omega
  have a2 : 2 < n := by omega
  have a3 : 3 < n := by omega
  have c1 : 1 < m := by omega
  have c2 : 2 < m := by omega
  have c3 : 3 < m := by omega
  unfold Lib.decodeN
  simp only [a1, a2, a3, c1, c2, c3]
theorem decN_one (y0 y2 y3 z1 z2 z3 : Nat) : Lib.decodeN 2 y0 10 y2 y3 = Lib.decodeN 1 y0 z1 z2 z3 := by simp [Lib.decodeN]
theorem decN_two (y0 y1 y3 z2 z3 : Nat) : Lib.decodeN 3 y0 y1 10 y3 = Lib.decodeN 2 y0 y1 z2 z3 := by simp [Lib.decodeN]
theorem decN_three (y0 y1 y2 z3 : Nat) : Lib.decodeN 4 y0 y1 y2 10 = Lib.decodeN 3 y0 y1 y2 z3 := by simp [Lib.decodeN]

theorem Rest.wd {s u : ByteArray} {st : Nat} (h : Rest s u st) (i : Nat) (hi : i ≤ s.size - st) : wd u i = wd s (st + i) := by
  have hle := h.le
  by_cases e : i = s.size - st
  · rw [wd_low u i (by unfold Go.Proofs.YteojiblglbmmdaaGreatDoor.bk; rw [Nat.add_zero, e, h.last]; decide), wd_low s (st + i) (by unfold Go.Proofs.YteojiblglbmmdaaGreatDoor.bk; rw [get!_beyond s _ (by omega)]; decide)]
  · have hz : u.size - i = (s.size - (st + i)) + 1 := by have := h.size; omega
    have hn : 1 ≤ s.size - (st + i) := by omega
    have hlast : ∀ k, i + k = s.size - st → Go.Proofs.YteojiblglbmmdaaGreatDoor.bk u i k = 10 := fun k hk => by unfold Go.Proofs.YteojiblglbmmdaaGreatDoor.bk; rw [hk, h.last]
    rw [wd_eq, wd_eq, hz, h.bk i 0 (by omega)]
    by_cases h1 : s.size - (st + i) = 1
    · rw [h1, hlast 1 (by omega)]; rw [decN_one]
    by_cases h2 : s.size - (st + i) = 2
    · rw [h2, h.bk i 1 (by omega), hlast 2 (by omega)]; rw [decN_two]
    by_cases h3 : s.size - (st + i) = 3
    · rw [h3, h.bk i 1 (by omega), h.bk i 2 (by omega), hlast 3 (by omega)]; rw [decN_three]
    rw [h.bk i 1 (by omega), h.bk i 2 (by omega), h.bk i 3 (by omega), decN_four _ (s.size - (st + i)) _ _ _ _ (by omega) (by omega)]

/-- The steps in the rest are the steps in the text. -/
theorem Rest.stp {s u : ByteArray} {st : Nat} (h : Rest s u st) : ∀ k, (∀ j, j < k → stp s st j ≤ s.size) → st + stp u 0 k = Go.Proofs.YteojiblglbmmdaaGreatDoor.stp s st k
  | 0, _ => rfl
  | k + 1, hk => by
    have ih := Rest.stp h k (fun j hj => hk j (by omega))
    have h1 := hk k (by omega)
    have hle := h.le
    show st + (Go.Proofs.YteojiblglbmmdaaGreatDoor.stp u 0 k + Go.Proofs.YteojiblglbmmdaaGreatDoor.wd u (Go.Proofs.YteojiblglbmmdaaGreatDoor.stp u 0 k)) = Go.Proofs.YteojiblglbmmdaaGreatDoor.stp s st k + Go.Proofs.YteojiblglbmmdaaGreatDoor.wd s (Go.Proofs.YteojiblglbmmdaaGreatDoor.stp s st k)
    rw [h.wd _ (by omega), ih]
    omega
end Go.Proofs.YteojiblglbmmdaaGreatDoor
