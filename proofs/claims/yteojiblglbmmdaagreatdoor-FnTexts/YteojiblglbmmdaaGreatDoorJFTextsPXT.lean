/-
  Plain facts: every place has a line and a column, and they grow. No run of the program stands in this text.
-/
import Derived.Test.YteojiblglbmmdaaGreatDoorJFTextsX
namespace Go.Proofs.YteojiblglbmmdaaGreatDoor
open Go.RowKit

theorem Mid.goes {s : ByteArray} {p : Nat} (hp : p ≤ s.size) : ∀ d i st c, p - i ≤ d → i ≤ p → Mid s i st c → ∃ st' c', Pos s p st' c'
  | 0, i, st, c, hd, hi, h => ⟨st, c, (h.done hi (.inl (by omega))).1⟩
  | d + 1, i, st, c, hd, hi, h => by
    have hw := wd_pos s i
    by_cases e : i = p
    · exact ⟨st, c, (h.done hi (.inl e)).1⟩
    · have hlt : i < s.size := by omega
      by_cases h1 : p < i + wd s i
      · exact ⟨st, c, (h.done hi (.inr ⟨hlt, h1⟩)).1⟩
      · by_cases h0 : (s.get! i).toNat = 10
        · exact Mid.goes hp d (i + wd s i) _ _ (by omega) (by omega) (Mid.line h0)
        · exact Mid.goes hp d (i + wd s i) _ _ (by omega) (by omega) (h.step hlt h0)
theorem pos_ex (s : ByteArray) (p : Nat) (hp : p ≤ s.size) : ∃ st c, Pos s p st c := Mid.goes hp p 0 0 1 (by omega) (by omega) (Mid.start s)

theorem stp_from (s : ByteArray) (st : Nat) : ∀ k, st + k ≤ stp s st k
  | 0 => Nat.le_refl _
  | k + 1 => by have := stp_from s st k; have := stp_lt s st k; omega
theorem Pos.c_le {s : ByteArray} {p st c : Nat} (h : Pos s p st c) : c ≤ p + 1 := by
  have := stp_from s st (c - 1)
  have := h.lo
  omega
theorem cntLF_mono (s : ByteArray) (p : Nat) : ∀ d, cntLF s p ≤ cntLF s (p + d)
  | 0 => Nat.le_refl _
  | d + 1 => by have := cntLF_mono s p d; rw [← Nat.add_assoc, cntLF]; omega
theorem cntLF_mono' (s : ByteArray) {p q : Nat} (h : p ≤ q) : cntLF s p ≤ cntLF s q := by
  have := cntLF_mono s p (q - p)
  rw [show p + (q - p) = q by omega] at this; exact this
theorem noLF_of {s : ByteArray} {p q : Nat} (h : cntLF s p = cntLF s q) : ∀ j, p ≤ j → j < q → (s.get! j).toNat ≠ 10 := by
  intro j h1 h2 e
  have a := cntLF_mono' s h1
  have b := cntLF_mono' s (show j + 1 ≤ q by omega)
  rw [cntLF, if_pos e] at b
  omega
theorem Pos.grows {s : ByteArray} {p q st st' c c' : Nat} (h : Pos s p st c) (k : Pos s q st' c') (hpq : p ≤ q) (he : cntLF s p = cntLF s q) : c ≤ c' := by
  have hno := noLF_of he
  have hst : st = st' := by
    rcases Nat.lt_trichotomy st st' with g | g | g
    · rcases k.lf with e | ⟨_, e⟩
      · omega
      · by_cases hj : st' - 1 < p
        · exact absurd e (h.none _ (by omega) hj)
        · exact absurd e (hno _ (by omega) (by have := k.le; omega))
    · exact g
    · rcases h.lf with e | ⟨_, e⟩
      · omega
      · exact absurd e (k.none _ (by omega) (by have := h.le; omega))
  subst hst
  rcases Nat.lt_or_ge c' c with g | g
  · have h1 := h.lo
    have h2 := k.hi
    have h3 := stp_mono s st (show c' ≤ c - 1 by omega)
    omega
  · exact g
end Go.Proofs.YteojiblglbmmdaaGreatDoor
