/-
  Plain facts on texts, characters and their shortest forms. No run of the program stands in this text.
  Plain facts on literals: what a byte is written as. No run of the program stands in this text.
  Plain facts on what stands behind a backslash, and on literals. No run of the program stands in this text.
  What all walks open with.
  A slice of bytes as a text: the numbers of its bytes; its conversion to a string.
-/
import Derived.Lib.DecodeN
import Derived.Below
import Derived.Lib.RuneBytes
import Derived.Test.YtdlahabeegmjiaaDoorRows
import Derived.WalkKit
import Derived.WalkSpells
import Derived.WalkLawsBesides
import Derived.Deep.OwnRows
import Derived.Deep.LoopGhost
import Derived.Outline
import Derived.Laws.BytesArg
import Derived.Shelf.Unicode.DecodeSlow
namespace Go.Proofs.YtdlahabeegmjiaaDoor
open Go.RowKit

def pointB (v : Int) : Bool := decide (0 ≤ v ∧ v ≤ 1114111 ∧ (v < 55296 ∨ 57343 < v))

/-- The bytes of a text as cells. -/
def bts (s : ByteArray) : Nat → Value := fun j => .int .u8 ((s.get! j).toNat : Int)

theorem ext_bytes {s t : ByteArray} (h : s.size = t.size) (g : ∀ j, j < s.size → s.get! j = t.get! j) : s = t := by
  cases s with | mk a => cases t with | mk c =>
  congr 1
  apply Array.ext h
  intro i h1 h2
  have := g i h1
  simp only [ByteArray.get!] at this
  rw [getElem!_pos a i h1, getElem!_pos c i h2] at this
  exact this

/-- How many bytes the shortest form of a code point has. -/
def ulen (v : Nat) : Nat := if v < 128 then 1 else if v < 2048 then 2 else if v < 65536 then 3 else 4
/-- .. and the bytes. -/
def ubytes (v : Nat) : List Nat :=
  if v < 128 then [v] else if v < 2048 then [192 + v / 64, 128 + v % 64] else if v < 65536 then [224 + v / 4096, 128 + v / 64 % 64, 128 + v % 64]
  else [240 + v / 262144, 128 + v / 4096 % 64, 128 + v / 64 % 64, 128 + v % 64]
theorem ubytes_len (v : Nat) : (ubytes v).length = ulen v := by
  unfold ubytes ulen; by_cases h1 : v < 128 <;> by_cases h2 : v < 2048 <;> by_cases h3 : v < 65536 <;> simp [h1, h2, h3]


/-- What spec.l1char gives: the width and the code point of the character that begins at i, or nothing. -/
def chr (s : ByteArray) (i : Nat) : Nat × Nat := if (Utf8.decode s i).1 = 65533 ∧ (Utf8.decode s i).2 = 1 then (0, 0) else ((Utf8.decode s i).2, (Utf8.decode s i).1)

/-- The k-th byte behind i. -/
def bk (s : ByteArray) (i k : Nat) : Nat := (s.get! (i + k)).toNat
theorem bk_lt (s : ByteArray) (i k : Nat) : bk s i k < 256 := (s.get! (i + k)).toNat_lt

/-- What the loop has gathered behind k rounds. -/
def vacc (g : Nat → Nat) (v0 : Nat) : Nat → Nat
  | 0 => v0
  | k + 1 => vacc g v0 k * 64 + g (k + 1) % 64

theorem vacc_lt (g : Nat → Nat) (v0 : Nat) : ∀ k, vacc g v0 k < (v0 + 1) * 64 ^ k
  | 0 => by simp [vacc]
  | k + 1 => by
    have h := vacc_lt g v0 k
    have h2 : g (k + 1) % 64 < 64 := Nat.mod_lt _ (by decide)
    have e : (v0 + 1) * 64 ^ (k + 1) = ((v0 + 1) * 64 ^ k) * 64 := by rw [Nat.pow_succ, Nat.mul_assoc]
    rw [vacc, e]
    omega

/-- All bytes behind the first, up to the n-th, go on with a character. -/
def conts (g : Nat → Nat) (n : Nat) : Prop := ∀ j, 1 ≤ j → j < n → 128 ≤ g j ∧ g j < 192

theorem conts_step {g : Nat → Nat} {k : Nat} (h : conts g (k + 1)) (h2 : 128 ≤ g (k + 1) ∧ g (k + 1) < 192) : conts g (k + 1 + 1) := by
  intro j h1 h3
  by_cases e : j = k + 1
  · rw [e]; exact h2
  · exact h j h1 (by omega)

theorem chr_ascii (s : ByteArray) (i : Nat) (h : bk s i 0 < 128) : chr s i = (1, bk s i 0) := by
  have e : Utf8.decode s i = (bk s i 0, 1) := by
    rw [Lib.decode_at]; unfold bk at *; simp only [Nat.add_zero] at *; simp [Lib.decodeN, h]
  unfold chr
  rw [e, if_neg (by simp only; omega)]

theorem chr_none (s : ByteArray) (i : Nat) (h : 128 ≤ bk s i 0) (h2 : bk s i 0 < 192 ∨ 248 ≤ bk s i 0) : chr s i = (0, 0) := by
  have hb := bk_lt s i 0
  have e : Utf8.decode s i = (65533, 1) := by
    rw [Lib.decode_at]; unfold bk at *; simp only [Nat.add_zero] at *
    unfold Lib.decodeN
    rw [if_neg (by omega), if_neg (by omega), if_neg (by omega), if_neg (by omega)]
  unfold chr
  rw [e, if_pos (by simp)]

theorem ulen_two (v : Nat) : ulen v = 2 ↔ 128 ≤ v ∧ v < 2048 := by unfold ulen; (repeat' split) <;> omega
theorem ulen_three (v : Nat) : ulen v = 3 ↔ 2048 ≤ v ∧ v < 65536 := by unfold ulen; (repeat' split) <;> omega
theorem ulen_four (v : Nat) : ulen v = 4 ↔ 65536 ≤ v := by unfold ulen; (repeat' split) <;> omega
theorem pointB_nat (v : Nat) : pointB (v : Int) = true ↔ v ≤ 1114111 ∧ (v < 55296 ∨ 57343 < v) := by unfold pointB; rw [decide_eq_true_iff]; omega

def pick (r : Nat × Nat) : Nat × Nat := if r.1 = 65533 ∧ r.2 = 1 then (0, 0) else (r.2, r.1)
theorem pick_bad : pick (65533, 1) = (0, 0) := rfl
theorem pick_good {a b : Nat} (h : 1 < b) : pick (a, b) = (b, a) := by unfold pick; rw [if_neg (by simp only; omega)]

theorem dec_two (n y0 y1 y2 y3 : Nat) (h : 192 ≤ y0) (h2 : y0 < 224) (h3 : y1 < 256) :
    pick (Lib.decodeN n y0 y1 y2 y3) = if 2 ≤ n ∧ (128 ≤ y1 ∧ y1 < 192) ∧ 128 ≤ (y0 - 192) * 64 + y1 % 64 then (2, (y0 - 192) * 64 + y1 % 64) else (0, 0) := by
  have e : y0 % 32 = y0 - 192 := by omega
  unfold Lib.decodeN
  rw [if_neg (by omega), e]
  by_cases hc : 1 < n ∧ y1 / 64 = 2
  · rw [if_pos ⟨by omega, hc⟩]
    by_cases hv : (y0 - 192) * 64 + y1 % 64 ≥ 128
    · rw [if_pos hv, pick_good (by omega), if_pos ⟨by omega, by omega, hv⟩]
    · rw [if_neg hv, if_neg (fun g => hv g.2.2)]; rfl
  · rw [if_neg (fun g => hc g.2), if_neg (by omega), if_neg (by omega), if_neg (fun g => hc ⟨by omega, by omega⟩)]; rfl

theorem dec_three (n y0 y1 y2 y3 : Nat) (h : 224 ≤ y0) (h2 : y0 < 240) (h3 : y1 < 256) (h4 : y2 < 256) :
    pick (Lib.decodeN n y0 y1 y2 y3) = if 3 ≤ n ∧ ((128 ≤ y1 ∧ y1 < 192) ∧ (128 ≤ y2 ∧ y2 < 192)) ∧ 2048 ≤ ((y0 - 224) * 64 + y1 % 64) * 64 + y2 % 64 ∧ (((y0 - 224) * 64 + y1 % 64) * 64 + y2 % 64 < 55296 ∨ 57343 < ((y0 - 224) * 64 + y1 % 64) * 64 + y2 % 64) then (3, ((y0 - 224) * 64 + y1 % 64) * 64 + y2 % 64) else (0, 0) := by
  have e : y0 % 16 * 4096 + y1 % 64 * 64 + y2 % 64 = ((y0 - 224) * 64 + y1 % 64) * 64 + y2 % 64 := by omega
  have hmax : ((y0 - 224) * 64 + y1 % 64) * 64 + y2 % 64 < 65536 := by omega
  unfold Lib.decodeN
  rw [if_neg (by omega), if_neg (by omega), e]
  generalize ((y0 - 224) * 64 + y1 % 64) * 64 + y2 % 64 = v at *
  by_cases hc : (1 < n ∧ y1 / 64 = 2) ∧ (2 < n ∧ y2 / 64 = 2)
  · rw [if_pos ⟨by omega, hc⟩]
    by_cases hv : v ≥ 2048 ∧ (v < 55296 ∨ 57344 ≤ v ∧ v ≤ 1114111)
    · rw [if_pos hv, pick_good (by omega), if_pos ⟨by omega, by omega, by omega, by omega⟩]
    · rw [if_neg hv, if_neg (fun g => hv ⟨by omega, by omega⟩)]; rfl
  · rw [if_neg (fun g => hc g.2), if_neg (by omega), if_neg (fun g => hc ⟨by omega, by omega⟩)]; rfl

theorem dec_four (n y0 y1 y2 y3 : Nat) (h : 240 ≤ y0) (h2 : y0 < 248) (h3 : y1 < 256) (h4 : y2 < 256) (h5 : y3 < 256) :
    pick (Lib.decodeN n y0 y1 y2 y3) = if 4 ≤ n ∧ ((128 ≤ y1 ∧ y1 < 192) ∧ (128 ≤ y2 ∧ y2 < 192) ∧ (128 ≤ y3 ∧ y3 < 192)) ∧ 65536 ≤ (((y0 - 240) * 64 + y1 % 64) * 64 + y2 % 64) * 64 + y3 % 64 ∧ (((y0 - 240) * 64 + y1 % 64) * 64 + y2 % 64) * 64 + y3 % 64 ≤ 1114111 then (4, (((y0 - 240) * 64 + y1 % 64) * 64 + y2 % 64) * 64 + y3 % 64) else (0, 0) := by
  have e : y0 % 8 * 262144 + y1 % 64 * 4096 + y2 % 64 * 64 + y3 % 64 = (((y0 - 240) * 64 + y1 % 64) * 64 + y2 % 64) * 64 + y3 % 64 := by omega
  unfold Lib.decodeN
  rw [if_neg (by omega), if_neg (by omega), if_neg (by omega), e]
  generalize (((y0 - 240) * 64 + y1 % 64) * 64 + y2 % 64) * 64 + y3 % 64 = v at *
  by_cases hc : (1 < n ∧ y1 / 64 = 2) ∧ (2 < n ∧ y2 / 64 = 2) ∧ (3 < n ∧ y3 / 64 = 2)
  · rw [if_pos ⟨by omega, hc⟩]
    by_cases hv : v ≥ 65536 ∧ (v < 55296 ∨ 57344 ≤ v ∧ v ≤ 1114111)
    · rw [if_pos hv, pick_good (by omega), if_pos ⟨by omega, by omega, by omega, by omega⟩]
    · rw [if_neg hv, if_neg (fun g => hv ⟨by omega, by omega⟩)]; rfl
  · rw [if_neg (fun g => hc g.2), if_neg (fun g => hc ⟨by omega, by omega⟩)]; rfl

theorem chr_pick (s : ByteArray) (i : Nat) : chr s i = pick (Lib.decodeN (s.size - i) (bk s i 0) (bk s i 1) (bk s i 2) (bk s i 3)) := by
  show pick (Utf8.decode s i) = _
  rw [Lib.decode_at]; rfl

theorem conts_two (g : Nat → Nat) : conts g 2 ↔ (128 ≤ g 1 ∧ g 1 < 192) :=
  ⟨fun h => h 1 (by omega) (by omega), fun h j h1 h2 => by
    have e : j = 1 := by omega
    rw [e]; exact h⟩
theorem conts_three (g : Nat → Nat) : conts g 3 ↔ (128 ≤ g 1 ∧ g 1 < 192) ∧ (128 ≤ g 2 ∧ g 2 < 192) :=
  ⟨fun h => ⟨h 1 (by omega) (by omega), h 2 (by omega) (by omega)⟩, fun h j h1 h2 => by
    have e : j = 1 ∨ j = 2 := by omega
    rcases e with e | e <;> rw [e]
    · exact h.1
    · exact h.2⟩
theorem conts_four (g : Nat → Nat) : conts g 4 ↔ (128 ≤ g 1 ∧ g 1 < 192) ∧ (128 ≤ g 2 ∧ g 2 < 192) ∧ (128 ≤ g 3 ∧ g 3 < 192) :=
  ⟨fun h => ⟨h 1 (by omega) (by omega), h 2 (by omega) (by omega), h 3 (by omega) (by omega)⟩, fun h j h1 h2 => by
    have e : j = 1 ∨ j = 2 ∨ j = 3 := by omega
    rcases e with e | e | e <;> rw [e]
    · exact h.1
    · exact h.2.1
    · exact h.2.2⟩

/-- The test that l1char makes of a lead byte's class (n: the bytes; v0: what the lead byte gives). -/
def okc (s : ByteArray) (i n v0 : Nat) : Prop := i + n ≤ s.size ∧ conts (bk s i) n ∧ pointB (vacc (bk s i) v0 (n - 1)) = true ∧ ulen (vacc (bk s i) v0 (n - 1)) = n

theorem chr_two (s : ByteArray) (i : Nat) (hi : i < s.size) (h : 192 ≤ bk s i 0) (h2 : bk s i 0 < 224) :
    (okc s i 2 (bk s i 0 - 192) → chr s i = (2, vacc (bk s i) (bk s i 0 - 192) 1)) ∧ (¬ okc s i 2 (bk s i 0 - 192) → chr s i = (0, 0)) := by
  have b1 := bk_lt s i 1
  rw [chr_pick, dec_two _ _ _ _ _ h h2 b1]
  unfold okc
  rw [conts_two, pointB_nat, ulen_two]
  simp only [vacc, Nat.zero_add, Nat.add_one_sub_one]
  constructor
  · intro g; rw [if_pos ⟨by omega, g.2.1, by omega⟩]
  · intro g; rw [if_neg (fun k => g ⟨by omega, k.2.1, by omega, by omega⟩)]

theorem chr_three (s : ByteArray) (i : Nat) (hi : i < s.size) (h : 224 ≤ bk s i 0) (h2 : bk s i 0 < 240) :
    (okc s i 3 (bk s i 0 - 224) → chr s i = (3, vacc (bk s i) (bk s i 0 - 224) 2)) ∧ (¬ okc s i 3 (bk s i 0 - 224) → chr s i = (0, 0)) := by
  have b1 := bk_lt s i 1; have b2 := bk_lt s i 2
  rw [chr_pick, dec_three _ _ _ _ _ h h2 b1 b2]
  unfold okc
  rw [conts_three, pointB_nat, ulen_three]
  simp only [vacc, Nat.zero_add, Nat.add_one_sub_one, Nat.reduceAdd]
  constructor
  · intro g; rw [if_pos ⟨by omega, g.2.1, by omega, by omega⟩]
  · intro g; rw [if_neg (fun k => g ⟨by omega, k.2.1, by omega, by omega⟩)]

theorem chr_four (s : ByteArray) (i : Nat) (hi : i < s.size) (h : 240 ≤ bk s i 0) (h2 : bk s i 0 < 248) :
    (okc s i 4 (bk s i 0 - 240) → chr s i = (4, vacc (bk s i) (bk s i 0 - 240) 3)) ∧ (¬ okc s i 4 (bk s i 0 - 240) → chr s i = (0, 0)) := by
  have b1 := bk_lt s i 1; have b2 := bk_lt s i 2; have b3 := bk_lt s i 3
  rw [chr_pick, dec_four _ _ _ _ _ h h2 b1 b2 b3]
  unfold okc
  rw [conts_four, pointB_nat, ulen_four]
  simp only [vacc, Nat.zero_add, Nat.add_one_sub_one, Nat.reduceAdd]
  constructor
  · intro g; rw [if_pos ⟨by omega, g.2.1, by omega, by omega⟩]
  · intro g; rw [if_neg (fun k => g ⟨by omega, k.2.1, by omega, by omega⟩)]

theorem chr_le (s : ByteArray) (i : Nat) : (chr s i).1 ≤ 4 := by
  rw [chr_pick]
  unfold pick Lib.decodeN
  repeat' split
  all_goals simp

/-- CheckText from a place on, with fuel. -/
def chkAt (s : ByteArray) : Nat → Nat → Nat × Nat
  | 0, _ => (0, 0)
  | f + 1, p => if p < s.size then (if (chr s p).1 = 0 then (2, p) else chkAt s f (p + (chr s p).1)) else (0, 0)
def chk (s : ByteArray) : Nat × Nat := chkAt s (s.size + 1) 0

theorem chkAt_end {s : ByteArray} {f p : Nat} (h : ¬ p < s.size) : chkAt s f p = (0, 0) := by cases f <;> simp [chkAt, h]
theorem chkAt_bad {s : ByteArray} {f p : Nat} (h : p < s.size) (hf : s.size < p + f) (hc : (chr s p).1 = 0) : chkAt s f p = (2, p) := by
  cases f with
  | zero => omega
  | succ f => rw [chkAt, if_pos h, if_pos hc]
theorem chkAt_good {s : ByteArray} {f p : Nat} (h : p < s.size) (hf : s.size < p + f) (hc : (chr s p).1 ≠ 0) : ∃ g, f = g + 1 ∧ chkAt s f p = chkAt s g (p + (chr s p).1) := by
  cases f with
  | zero => omega
  | succ f => exact ⟨f, rfl, by rw [chkAt, if_pos h, if_neg hc]⟩
end Go.Proofs.YtdlahabeegmjiaaDoor

namespace Go.Proofs.YtdlahabeegmjiaaDoor
open Go.RowKit

def dg (k : Nat) : Nat := if k < 10 then 48 + k else 87 + k
def hexL (c : Nat) : List Nat := if c < 16 then [dg c] else [dg (c / 16), dg (c % 16)]
/-- What a byte is written as in a literal. -/
def qb (c : Nat) : List Nat := if c = 34 ∨ c = 92 then [92, c] else if c < 32 ∨ c = 127 then [92, 117, 123] ++ hexL c ++ [125] else [c]
/-- Numbers as cells. -/
def cv (l : List Nat) : List Value := l.map fun n : Nat => Value.int .u8 (n : Int)
def qTo (s : ByteArray) : Nat → List Nat
  | 0 => [34]
  | k + 1 => qTo s k ++ qb (s.get! k).toNat

theorem cv_length (l : List Nat) : (cv l).length = l.length := by simp [cv]
theorem cv_append (a b : List Nat) : cv (a ++ b) = cv a ++ cv b := by simp [cv]
theorem hexL_le (c : Nat) : (hexL c).length ≤ 2 := by unfold hexL; split <;> simp
theorem qb_le (c : Nat) : (qb c).length ≤ 6 := by
  have := hexL_le c
  unfold qb
  split
  · simp
  · split
    · simp; omega
    · simp
theorem qTo_le (s : ByteArray) (k : Nat) : (qTo s k).length ≤ 6 * k + 1 := by
  induction k with
  | zero => simp [qTo]
  | succ k ih => have := qb_le (s.get! k).toNat; rw [qTo, List.length_append]; omega
theorem cv_one (l : List Nat) : ∀ u ∈ cv l, u.oneCell' = true := by
  intro u hu
  simp only [cv, List.mem_map] at hu
  obtain ⟨n, _, rfl⟩ := hu
  rfl

theorem qb_high {c : Nat} (h : 128 ≤ c) : qb c = [c] := by unfold qb; rw [if_neg (by omega), if_neg (by omega)]
theorem qTo_two (s : ByteArray) (p : Nat) (h0 : 128 ≤ bk s p 0) (h1 : 128 ≤ bk s p 1) : qTo s (p + 2) = qTo s p ++ [bk s p 0, bk s p 1] := by
  show qTo s p ++ qb (bk s p 0) ++ qb (bk s p 1) = _
  rw [qb_high h0, qb_high h1]; simp
theorem qTo_three (s : ByteArray) (p : Nat) (h0 : 128 ≤ bk s p 0) (h1 : 128 ≤ bk s p 1) (h2 : 128 ≤ bk s p 2) : qTo s (p + 3) = qTo s p ++ [bk s p 0, bk s p 1, bk s p 2] := by
  show qTo s p ++ qb (bk s p 0) ++ qb (bk s p 1) ++ qb (bk s p 2) = _
  rw [qb_high h0, qb_high h1, qb_high h2]; simp
theorem qTo_four (s : ByteArray) (p : Nat) (h0 : 128 ≤ bk s p 0) (h1 : 128 ≤ bk s p 1) (h2 : 128 ≤ bk s p 2) (h3 : 128 ≤ bk s p 3) : qTo s (p + 4) = qTo s p ++ [bk s p 0, bk s p 1, bk s p 2, bk s p 3] := by
  show qTo s p ++ qb (bk s p 0) ++ qb (bk s p 1) ++ qb (bk s p 2) ++ qb (bk s p 3) = _
  rw [qb_high h0, qb_high h1, qb_high h2, qb_high h3]; simp

/-- A character beyond ASCII: its bytes are its shortest form, and stand as they are in a literal. -/
theorem qTo_rune (s : ByteArray) (p : Nat) (hp : p < s.size) (h : (chr s p).1 ≠ 0) (h0 : 128 ≤ bk s p 0) :
    ∃ ys, qTo s (p + (chr s p).1) = qTo s p ++ ys ∧ cv ys = Lib.runeCells ((chr s p).2 : Int) ∧ 128 ≤ (chr s p).2 ∧ (chr s p).2 ≤ 1114111 ∧ p + (chr s p).1 ≤ s.size := by
  have b0 := bk_lt s p 0
  have b1 := bk_lt s p 1
  have b2 := bk_lt s p 2
  have b3 := bk_lt s p 3
  have hn : ¬ (bk s p 0 < 192 ∨ 248 ≤ bk s p 0) := fun g => h (by rw [chr_none s p h0 g])
  by_cases h2 : bk s p 0 < 224
  · have g := chr_two s p hp (by omega) h2
    by_cases ok : okc s p 2 (bk s p 0 - 192)
    · rw [g.1 ok]
      have hc := (conts_two _).1 ok.2.1
      have hu := (ulen_two _).1 ok.2.2.2
      simp only [vacc, Nat.zero_add, Nat.add_one_sub_one] at hu ⊢
      obtain ⟨V, hV⟩ : ∃ V, (bk s p 0 - 192) * 64 + bk s p 1 % 64 = V := ⟨_, rfl⟩
      rw [hV] at hu ⊢
      refine ⟨_, qTo_two s p h0 hc.1, ?_, hu.1, by omega, ok.1⟩
      have e0 : ((bk s p 0 : Nat) : Int) = 192 + (V : Int) / 64 := by omega
      have e1 : ((bk s p 1 : Nat) : Int) = 128 + (V : Int) % 64 := by omega
      simp only [Lib.runeCells]
      rw [Lib.encodeRuneZ_two (by omega) (by omega), ← e0, ← e1]
      rfl
    · exact absurd (by rw [g.2 ok]) h
  by_cases h3 : bk s p 0 < 240
  · have g := chr_three s p hp (by omega) h3
    by_cases ok : okc s p 3 (bk s p 0 - 224)
    · rw [g.1 ok]
      have hc := (conts_three _).1 ok.2.1
      have hu := (ulen_three _).1 ok.2.2.2
      have hpt := (pointB_nat _).1 ok.2.2.1
      simp only [vacc, Nat.zero_add, Nat.add_one_sub_one, Nat.reduceAdd] at hu hpt ⊢
      obtain ⟨V, hV⟩ : ∃ V, ((bk s p 0 - 224) * 64 + bk s p 1 % 64) * 64 + bk s p 2 % 64 = V := ⟨_, rfl⟩
      rw [hV] at hu hpt ⊢
      refine ⟨_, qTo_three s p h0 hc.1.1 hc.2.1, ?_, by omega, by omega, ok.1⟩
      have e0 : ((bk s p 0 : Nat) : Int) = 224 + (V : Int) / 4096 := by omega
      have e1 : ((bk s p 1 : Nat) : Int) = 128 + (V : Int) / 64 % 64 := by omega
      have e2 : ((bk s p 2 : Nat) : Int) = 128 + (V : Int) % 64 := by omega
      simp only [Lib.runeCells]
      rw [Lib.encodeRuneZ_three (by omega), ← e0, ← e1, ← e2]
      rfl
    · exact absurd (by rw [g.2 ok]) h
  · have g := chr_four s p hp (by omega) (by omega)
    by_cases ok : okc s p 4 (bk s p 0 - 240)
    · rw [g.1 ok]
      have hc := (conts_four _).1 ok.2.1
      have hu := (ulen_four _).1 ok.2.2.2
      have hpt := (pointB_nat _).1 ok.2.2.1
      simp only [vacc, Nat.zero_add, Nat.add_one_sub_one, Nat.reduceAdd] at hu hpt ⊢
      obtain ⟨V, hV⟩ : ∃ V, (((bk s p 0 - 240) * 64 + bk s p 1 % 64) * 64 + bk s p 2 % 64) * 64 + bk s p 3 % 64 = V := ⟨_, rfl⟩
      rw [hV] at hu hpt ⊢
      refine ⟨_, qTo_four s p h0 hc.1.1 hc.2.1.1 hc.2.2.1, ?_, by omega, by omega, ok.1⟩
      have e0 : ((bk s p 0 : Nat) : Int) = 240 + (V : Int) / 262144 := by omega
      have e1 : ((bk s p 1 : Nat) : Int) = 128 + (V : Int) / 4096 % 64 := by omega
      have e2 : ((bk s p 2 : Nat) : Int) = 128 + (V : Int) / 64 % 64 := by omega
      have e3 : ((bk s p 3 : Nat) : Int) = 128 + (V : Int) % 64 := by omega
      simp only [Lib.runeCells]
      rw [Lib.encodeRuneZ_four (by omega) (by omega), ← e0, ← e1, ← e2, ← e3]
      rfl
    · exact absurd (by rw [g.2 ok]) h
/-- What QuoteText answers. -/
def quoted (s : ByteArray) : List Nat := if (chk s).1 = 0 then qTo s s.size ++ [34] else []
end Go.Proofs.YtdlahabeegmjiaaDoor

namespace Go.Proofs.YtdlahabeegmjiaaDoor
open Go.RowKit

/-- The value of a hexadecimal digit, or -1. -/
def hd (c : Nat) : Int := if 48 ≤ c ∧ c ≤ 57 then (c : Int) - 48 else if 97 ≤ c ∧ c ≤ 102 then (c : Int) - 87 else if 65 ≤ c ∧ c ≤ 70 then (c : Int) - 55 else -1
theorem hd_lt (c : Nat) : -1 ≤ hd c ∧ hd c ≤ 15 := by unfold hd; repeat' split <;> omega

/-- How many of at most f bytes from p on are hexadecimal digits. -/
def kc (s : ByteArray) (p : Nat) : Nat → Nat
  | 0 => 0
  | f + 1 => if p < s.size ∧ 0 ≤ hd (s.get! p).toNat then 1 + kc s (p + 1) f else 0
/-- The number that k digits from p on write. -/
def hv (s : ByteArray) (p : Nat) : Nat → Nat
  | 0 => 0
  | k + 1 => hv s p k * 16 + (hd (s.get! (p + k)).toNat).toNat

theorem hv_lt (s : ByteArray) (p : Nat) : ∀ k, hv s p k < 16 ^ k
  | 0 => by simp [hv]
  | k + 1 => by
    have h := hv_lt s p k
    have h2 := hd_lt (s.get! (p + k)).toNat
    have e : 16 ^ (k + 1) = 16 ^ k * 16 := Nat.pow_succ ..
    rw [hv, e]
    omega
theorem kc_le (s : ByteArray) : ∀ f p, kc s p f ≤ f
  | 0, _ => Nat.le_refl _
  | f + 1, p => by
    have := kc_le s f (p + 1)
    rw [kc]; split <;> omega

/-- What stands behind a backslash at i: the bytes that it stands for, and how many it takes; 0 if it is nothing. -/
def esc (s : ByteArray) (i : Nat) : List Nat × Nat :=
  if s.size ≤ i then ([], 0)
  else if (s.get! i).toNat = 34 ∨ (s.get! i).toNat = 92 then ([(s.get! i).toNat], 1)
  else if (s.get! i).toNat ≠ 117 ∨ s.size ≤ i + 1 ∨ (s.get! (i + 1)).toNat ≠ 123 then ([], 0)
  else if kc s (i + 2) 7 < 1 ∨ 6 < kc s (i + 2) 7 ∨ s.size ≤ i + 2 + kc s (i + 2) 7 ∨ (s.get! (i + 2 + kc s (i + 2) 7)).toNat ≠ 125 ∨ pointB (hv s (i + 2) (kc s (i + 2) 7)) = false then ([], 0)
  else (ubytes (hv s (i + 2) (kc s (i + 2) 7)), kc s (i + 2) 7 + 3)

theorem kc_more {s : ByteArray} {p k : Nat} (hk : k < 7) (h : p + k < s.size) (hh : 0 ≤ hd (s.get! (p + k)).toNat) (e : k + kc s (p + k) (7 - k) = kc s p 7) : k + 1 + kc s (p + (k + 1)) (7 - (k + 1)) = kc s p 7 := by
  obtain ⟨f, hf⟩ : ∃ f, 7 - k = f + 1 := ⟨6 - k, by omega⟩
  rw [hf, kc, if_pos ⟨h, hh⟩] at e
  rw [show 7 - (k + 1) = f by omega, ← Nat.add_assoc p k 1]
  omega
theorem kc_stop {s : ByteArray} {p k : Nat} (hk : k ≤ 7) (h : ¬ (k < 7 ∧ p + k < s.size ∧ 0 ≤ hd (s.get! (p + k)).toNat)) (e : k + kc s (p + k) (7 - k) = kc s p 7) : kc s p 7 = k := by
  by_cases h7 : k = 7
  · subst h7; rw [← e]; rfl
  · obtain ⟨f, hf⟩ : ∃ f, 7 - k = f + 1 := ⟨6 - k, by omega⟩
    rw [hf, kc, if_neg (fun g => h ⟨by omega, g⟩)] at e
    omega

theorem ulen_pos (v : Nat) : 0 < ulen v := by unfold ulen; (repeat' split) <;> omega
theorem esc_le (s : ByteArray) (i : Nat) : (esc s i).2 ≤ 9 ∧ (esc s i).1.length ≤ 4 ∧ ((esc s i).2 ≠ 0 → i + (esc s i).2 ≤ s.size ∧ 0 < (esc s i).1.length) := by
  have hk := kc_le s 7 (i + 2)
  unfold esc
  by_cases h1 : s.size ≤ i
  · rw [if_pos h1]; exact ⟨by simp, by simp, fun h => absurd rfl h⟩
  rw [if_neg h1]
  by_cases h2 : (s.get! i).toNat = 34 ∨ (s.get! i).toNat = 92
  · rw [if_pos h2]; exact ⟨by simp, by simp, fun _ => ⟨by simp only; omega, by simp⟩⟩
  rw [if_neg h2]
  by_cases h3 : (s.get! i).toNat ≠ 117 ∨ s.size ≤ i + 1 ∨ (s.get! (i + 1)).toNat ≠ 123
  · rw [if_pos h3]; exact ⟨by simp, by simp, fun h => absurd rfl h⟩
  rw [if_neg h3]
  generalize kc s (i + 2) 7 = k at *
  by_cases h4 : k < 1 ∨ 6 < k ∨ s.size ≤ i + 2 + k ∨ (s.get! (i + 2 + k)).toNat ≠ 125 ∨ pointB (hv s (i + 2) k) = false
  · rw [if_pos h4]; exact ⟨by simp, by simp, fun h => absurd rfl h⟩
  · rw [if_neg h4]
    refine ⟨by simp only; omega, ?_, fun _ => ⟨by simp only; omega, by simp only; rw [ubytes_len]; exact ulen_pos _⟩⟩
    simp only
    rw [ubytes_len]
    unfold ulen
    (repeat' split) <;> omega

/-- A literal's rest from i on, with what has been read: its text and the place behind its closing quote; none if there is none. -/
def lit (s : ByteArray) : Nat → Nat → List Nat → Option (List Nat × Nat)
  | 0, _, _ => none
  | f + 1, i, acc =>
    if s.size ≤ i then none
    else if (s.get! i).toNat = 34 then some (acc, i + 1)
    else if (s.get! i).toNat = 10 then none
    else if (s.get! i).toNat = 92 then (if (esc s (i + 1)).2 = 0 then none else lit s f (i + 1 + (esc s (i + 1)).2) (acc ++ (esc s (i + 1)).1))
    else lit s f (i + 1) (acc ++ [(s.get! i).toNat])
/-- A literal at p. -/
def litAt (s : ByteArray) (p : Nat) : Option (List Nat × Nat) := if s.size ≤ p ∨ (s.get! p).toNat ≠ 34 then none else lit s (s.size + 1) (p + 1) []
def litRes (s : ByteArray) (p : Nat) : List Nat × Nat := match litAt s p with | none => ([], 0) | some (l, q) => (l, q - p)

theorem lit_end {s : ByteArray} {f i : Nat} {acc : List Nat} (h : s.size ≤ i) : lit s f i acc = none := by cases f <;> simp [lit, h]
theorem lit_quote {s : ByteArray} {f i : Nat} {acc : List Nat} (hf : s.size < i + f) (h : i < s.size) (hq : (s.get! i).toNat = 34) : lit s f i acc = some (acc, i + 1) := by
  cases f with
  | zero => omega
  | succ f => rw [lit, if_neg (by omega), if_pos hq]
theorem lit_lf {s : ByteArray} {f i : Nat} {acc : List Nat} (h : i < s.size) (hq : (s.get! i).toNat = 10) : lit s f i acc = none := by
  cases f with
  | zero => rfl
  | succ f => rw [lit, if_neg (by omega), if_neg (by omega), if_pos hq]
theorem lit_esc {s : ByteArray} {f i : Nat} {acc : List Nat} (hf : s.size < i + f) (h : i < s.size) (hq : (s.get! i).toNat = 92) :
    ((esc s (i + 1)).2 = 0 → lit s f i acc = none) ∧ ((esc s (i + 1)).2 ≠ 0 → ∃ g, f = g + 1 ∧ lit s f i acc = lit s g (i + 1 + (esc s (i + 1)).2) (acc ++ (esc s (i + 1)).1)) := by
  cases f with
  | zero => omega
  | succ f =>
    rw [lit, if_neg (by omega), if_neg (by omega), if_neg (by omega), if_pos hq]
    exact ⟨fun e => by rw [if_pos e], fun e => ⟨f, rfl, by rw [if_neg e]⟩⟩
theorem lit_byte {s : ByteArray} {f i : Nat} {acc : List Nat} (hf : s.size < i + f) (h : i < s.size) (h1 : (s.get! i).toNat ≠ 34) (h2 : (s.get! i).toNat ≠ 10) (h3 : (s.get! i).toNat ≠ 92) :
    ∃ g, f = g + 1 ∧ lit s f i acc = lit s g (i + 1) (acc ++ [(s.get! i).toNat]) := by
  cases f with
  | zero => omega
  | succ f => exact ⟨f, rfl, by rw [lit, if_neg (by omega), if_neg h1, if_neg h2, if_neg h3]⟩
/-- What UnquoteText answers. -/
def unq (s : ByteArray) : List Nat × Nat := if (chk s).1 = 0 ∧ (litRes s 0).2 ≠ 0 ∧ (litRes s 0).2 = s.size then ((litRes s 0).1, 0) else ([], 2)
end Go.Proofs.YtdlahabeegmjiaaDoor

namespace Go.Proofs.YtdlahabeegmjiaaDoor
open Go.RowKit

theorem ret_bool {a b : Bool} (h : a = b) : Ending.returned (.bool a) = .returned (.bool b) := by rw [h]
theorem ret_int {k : IntKind} {a b : Int} (h : a = b) : Ending.returned (.int k a) = .returned (.int k b) := by rw [h]
theorem ret_ints {k l : IntKind} {a b c d : Int} (h : a = b) (g : c = d) : Ending.returned (.tuple #[.int k a, .int l c]) = .returned (.tuple #[.int k b, .int l d]) := by rw [h, g]

theorem hide {p : Prop} (h : p) : Hid p := h

theorem Tryd.info5 : (Tryd.prog.info? 5).map (fun i => (i.zero, i.size, i.bytes)) = some (some (.int .u8 0), 1, 1) := by kernel_rfl
end Go.Proofs.YtdlahabeegmjiaaDoor

namespace Go.Proofs.YtdlahabeegmjiaaDoor
open Go.RowKit

theorem get!_beyond (s : ByteArray) (j : Nat) (h : s.size ≤ j) : s.get! j = 0 := by
  cases s with | mk a =>
  simp only [ByteArray.get!]
  rw [getElem!_neg a j (by have h' : a.size ≤ j := h; omega)]; rfl
theorem get!_extract (s : ByteArray) (i k : Nat) : (s.extract i s.size).get! k = s.get! (i + k) := by
  by_cases h : i + k < s.size
  · have h1 : k < (s.extract i s.size).size := by rw [ByteArray.size_extract]; omega
    rw [Utf8W.get!_of_lt _ k h1, Utf8W.get!_of_lt _ (i + k) h]
    exact ByteArray.getElem_extract h1
  · rw [get!_beyond s _ (by omega), get!_beyond _ k (by rw [ByteArray.size_extract]; omega)]

/-- The numbers of a text's bytes. -/
def nums (s : ByteArray) : List Int := s.data.toList.map fun c => (c.toNat : Int)
theorem nums_length (s : ByteArray) : (nums s).length = s.size := by unfold nums; rw [List.length_map, Array.length_toList]; rfl
theorem strOf_nums (s : ByteArray) : strOfNums (nums s) = s := by
  cases s with | mk a =>
  unfold strOfNums nums
  congr 1
  apply Array.ext'
  rw [List.map_map, List.toList_toArray]
  refine (List.map_congr_left (g := id) (fun c _ => ?_)).trans (List.map_id _)
  show UInt8.ofNat ((c.toNat : Int).toNat) = c
  rw [Int.toNat_natCast]
  exact UInt8.ofNat_toNat
theorem nums_getD (s : ByteArray) (j : Nat) (h : j < s.size) : Value.int .u8 ((nums s).getD j 0) = bts s j := by
  unfold bts
  rw [Utf8W.get!_of_lt s j h]
  cases s with | mk a =>
  have h' : j < a.size := h
  show Value.int .u8 (((a.toList.map fun c => (c.toNat : Int))[j]?).getD 0) = Value.int .u8 ((a[j]).toNat : Int)
  rw [List.getElem?_map, Array.getElem?_toList, Array.getElem?_eq_getElem h']
  rfl
theorem toStr_run (s : ByteArray) (w : World) (b off cap : Nat) (hc : ∀ j, j < s.size → w.cell? ⟨b, off + j, none⟩ = some (bts s j)) :
    (convert 31 9 (.slice (some ⟨b, off, none⟩) s.size cap)).run Tryd.prog w = .ok (.string s) w := by
  have := run_convert_bytes_arg (P := Tryd.prog) w 31 5 Tryd.underlying31 Tryd.underlying5 b off s.size cap (nums s) (nums_length s) (fun i hi => by rw [nums_getD s i hi]; exact hc i hi) 9 Tryd.underlying9
  rw [strOf_nums] at this
  exact this

end Go.Proofs.YtdlahabeegmjiaaDoor
