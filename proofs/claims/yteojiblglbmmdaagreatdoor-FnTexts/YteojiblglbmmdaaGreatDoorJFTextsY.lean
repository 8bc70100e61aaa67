/-
  Plain facts on what stands behind a backslash, and on literals. No run of the program stands in this text.
-/
import Derived.Test.YteojiblglbmmdaaGreatDoorJFTextsE
namespace Go.Proofs.YteojiblglbmmdaaGreatDoor
open Go.RowKit

/-- The value of a hexadecimal digit, or -1. -/
def hd (c : Nat) : Int := if 48 ≤ c ∧ c ≤ 57 then (c : Int) - 48 else if 97 ≤ c ∧ c ≤ 102 then (c : Int) - 87 else if 65 ≤ c ∧ c ≤ 70 then (c : Int) - 55 else -1
theorem hd_lt (c : Nat) : -1 ≤ hd c ∧ hd c ≤ 15 := by unfold hd; repeat' split <;> omega

/-- How many of at most f bytes from p on are hexadecimal digits. -/
def kc (s : ByteArray) (p : Nat) : Nat → Nat
  | 0 => 0
  | f + 1 => if p < s.size ∧ 0 ≤ hd (s.get! p).toNat then 1 + kc s (p + 1) f else 0
/-- The number that k digits from p on write. -/
def hv (s : ByteArray) (p : Nat) : Nat → Nat
  | 0 => 0
  | k + 1 => hv s p k * 16 + (hd (s.get! (p + k)).toNat).toNat

theorem hv_lt (s : ByteArray) (p : Nat) : ∀ k, hv s p k < 16 ^ k
  | 0 => by simp [hv]
  | k + 1 => by
    have h := hv_lt s p k
    have h2 := hd_lt (s.get! (p + k)).toNat
    have e : 16 ^ (k + 1) = 16 ^ k * 16 := Nat.pow_succ ..
    rw [hv, e]
    omega
theorem kc_le (s : ByteArray) : ∀ f p, kc s p f ≤ f
  | 0, _ => Nat.le_refl _
  | f + 1, p => by
    have := kc_le s f (p + 1)
    rw [kc]; split <;> omega

/-- What stands behind a backslash at i: the bytes that it stands for, and how many it takes; 0 if it is nothing. -/
def esc (s : ByteArray) (i : Nat) : List Nat × Nat :=
  if s.size ≤ i then ([], 0)
  else if (s.get! i).toNat = 34 ∨ (s.get! i).toNat = 92 then ([(s.get! i).toNat], 1)
  else if (s.get! i).toNat ≠ 117 ∨ s.size ≤ i + 1 ∨ (s.get! (i + 1)).toNat ≠ 123 then ([], 0)
  else if kc s (i + 2) 7 < 1 ∨ 6 < kc s (i + 2) 7 ∨ s.size ≤ i + 2 + kc s (i + 2) 7 ∨ (s.get! (i + 2 + kc s (i + 2) 7)).toNat ≠ 125 ∨ pointB (hv s (i + 2) (kc s (i + 2) 7)) = false then ([], 0)
  else (ubytes (hv s (i + 2) (kc s (i + 2) 7)), kc s (i + 2) 7 + 3)

theorem kc_more {s : ByteArray} {p k : Nat} (hk : k < 7) (h : p + k < s.size) (hh : 0 ≤ hd (s.get! (p + k)).toNat) (e : k + kc s (p + k) (7 - k) = kc s p 7) : k + 1 + kc s (p + (k + 1)) (7 - (k + 1)) = kc s p 7 := by
  obtain ⟨f, hf⟩ : ∃ f, 7 - k = f + 1 := ⟨6 - k, by omega⟩
  rw [hf, kc, if_pos ⟨h, hh⟩] at e
  rw [show 7 - (k + 1) = f by omega, ← Nat.add_assoc p k 1]
  omega
theorem kc_stop {s : ByteArray} {p k : Nat} (hk : k ≤ 7) (h : ¬ (k < 7 ∧ p + k < s.size ∧ 0 ≤ hd (s.get! (p + k)).toNat)) (e : k + kc s (p + k) (7 - k) = kc s p 7) : kc s p 7 = k := by
  by_cases h7 : k = 7
  · subst h7; rw [← e]; rfl
  · obtain ⟨f, hf⟩ : ∃ f, 7 - k = f + 1 := ⟨6 - k, by omega⟩
    rw [hf, kc, if_neg (fun g => h ⟨by omega, g⟩)] at e
    omega

theorem ulen_pos (v : Nat) : 0 < ulen v := by unfold ulen; (repeat' split) <;> omega
theorem esc_le (s : ByteArray) (i : Nat) : (esc s i).2 ≤ 9 ∧ (esc s i).1.length ≤ 4 ∧ ((esc s i).2 ≠ 0 → i + (esc s i).2 ≤ s.size ∧ 0 < (esc s i).1.length) := by
  have hk := kc_le s 7 (i + 2)
  unfold esc
  by_cases h1 : s.size ≤ i
  · rw [if_pos h1]; exact ⟨by simp, by simp, fun h => absurd rfl h⟩
  rw [if_neg h1]
  by_cases h2 : (s.get! i).toNat = 34 ∨ (s.get! i).toNat = 92
  · rw [if_pos h2]; exact ⟨by simp, by simp, fun _ => ⟨by simp only; omega, by simp⟩⟩
  rw [if_neg h2]
  by_cases h3 : (s.get! i).toNat ≠ 117 ∨ s.size ≤ i + 1 ∨ (s.get! (i + 1)).toNat ≠ 123
  · rw [if_pos h3]; exact ⟨by simp, by simp, fun h => absurd rfl h⟩
  rw [if_neg h3]
  generalize kc s (i + 2) 7 = k at *
  by_cases h4 : k < 1 ∨ 6 < k ∨ s.size ≤ i + 2 + k ∨ (s.get! (i + 2 + k)).toNat ≠ 125 ∨ pointB (hv s (i + 2) k) = false
  · rw [if_pos h4]; exact ⟨by simp, by simp, fun h => absurd rfl h⟩
  · rw [if_neg h4]
    refine ⟨by simp only; omega, ?_, fun _ => ⟨by simp only; omega, by simp only; rw [ubytes_len]; exact ulen_pos _⟩⟩
    simp only
    rw [ubytes_len]
    unfold ulen
    (repeat' split) <;> omega

/-- A literal's rest from i on, with what has been read: its text and the place behind its closing quote; none if there is none. -/
def lit (s : ByteArray) : Nat → Nat → List Nat → Option (List Nat × Nat)
  | 0, _, _ => none
  | f + 1, i, acc =>
    if s.size ≤ i then none
    else if (s.get! i).toNat = 34 then some (acc, i + 1)
    else if (s.get! i).toNat = 10 then none
    else if (s.get! i).toNat = 92 then (if (esc s (i + 1)).2 = 0 then none else lit s f (i + 1 + (esc s (i + 1)).2) (acc ++ (esc s (i + 1)).1))
    else lit s f (i + 1) (acc ++ [(s.get! i).toNat])
/-- A literal at p. -/
def litAt (s : ByteArray) (p : Nat) : Option (List Nat × Nat) := if s.size ≤ p ∨ (s.get! p).toNat ≠ 34 then none else lit s (s.size + 1) (p + 1) []
def litRes (s : ByteArray) (p : Nat) : List Nat × Nat := match litAt s p with | none => ([], 0) | some (l, q) => (l, q - p)

theorem lit_end {s : ByteArray} {f i : Nat} {acc : List Nat} (h : s.size ≤ i) : lit s f i acc = none := by cases f <;> simp [lit, h]
theorem lit_quote {s : ByteArray} {f i : Nat} {acc : List Nat} (hf : s.size < i + f) (h : i < s.size) (hq : (s.get! i).toNat = 34) : lit s f i acc = some (acc, i + 1) := by
  cases f with
  | zero => omega
  | succ f => rw [lit, if_neg (by omega), if_pos hq]
theorem lit_lf {s : ByteArray} {f i : Nat} {acc : List Nat} (h : i < s.size) (hq : (s.get! i).toNat = 10) : lit s f i acc = none := by
  cases f with
  | zero => rfl
  | succ f => rw [lit, if_neg (by omega), if_neg (by omega), if_pos hq]
theorem lit_esc {s : ByteArray} {f i : Nat} {acc : List Nat} (hf : s.size < i + f) (h : i < s.size) (hq : (s.get! i).toNat = 92) :
    ((esc s (i + 1)).2 = 0 → lit s f i acc = none) ∧ ((esc s (i + 1)).2 ≠ 0 → ∃ g, f = g + 1 ∧ lit s f i acc = lit s g (i + 1 + (esc s (i + 1)).2) (acc ++ (esc s (i + 1)).1)) := by
  cases f with
  | zero => omega
  | succ f =>
    rw [lit, if_neg (by omega), if_neg (by omega), if_neg (by omega), if_pos hq]
    exact ⟨fun e => by rw [if_pos e], fun e => ⟨f, rfl, by rw [if_neg e]⟩⟩
theorem lit_byte {s : ByteArray} {f i : Nat} {acc : List Nat} (hf : s.size < i + f) (h : i < s.size) (h1 : (s.get! i).toNat ≠ 34) (h2 : (s.get! i).toNat ≠ 10) (h3 : (s.get! i).toNat ≠ 92) :
    ∃ g, f = g + 1 ∧ lit s f i acc = lit s g (i + 1) (acc ++ [(s.get! i).toNat]) := by
  cases f with
  | zero => omega
  | succ f => exact ⟨f, rfl, by rw [lit, if_neg (by omega), if_neg h1, if_neg h2, if_neg h3]⟩
/-- What UnquoteText answers. -/
def unq (s : ByteArray) : List Nat × Nat := if (chk s).1 = 0 ∧ (litRes s 0).2 ≠ 0 ∧ (litRes s 0).2 = s.size then ((litRes s 0).1, 0) else ([], 2)
end Go.Proofs.YteojiblglbmmdaaGreatDoor
