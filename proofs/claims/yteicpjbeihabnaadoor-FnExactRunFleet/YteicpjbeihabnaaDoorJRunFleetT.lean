/-
  Plain facts on texts, characters and their shortest forms. No run of the program stands in this text.
-/
import Derived.Lib.DecodeN
import Derived.Below
namespace Go.Proofs.YteicpjbeihabnaaDoor
open Go.RowKit

def pointB (v : Int) : Bool := decide (0 ≤ v ∧ v ≤ 1114111 ∧ (v < 55296 ∨ 57343 < v))

/-- The bytes of a text as cells. -/
def bts (s : ByteArray) : Nat → Value := fun j => .int .u8 ((s.get! j).toNat : Int)

theorem ext_bytes {s t : ByteArray} (h : s.size = t.size) (g : ∀ j, j < s.size → s.get! j = t.get! j) : s = t := by
  cases s with | mk a => cases t with | mk c =>
  congr 1
  apply Array.ext h
  intro i h1 h2
  have := g i h1
  simp only [ByteArray.get!] at this
  rw [getElem!_pos a i h1, getElem!_pos c i h2] at this
  exact this

/-- How many bytes the shortest form of a code point has. -/
def ulen (v : Nat) : Nat := if v < 128 then 1 else if v < 2048 then 2 else if v < 65536 then 3 else 4
/-- .. and the bytes. -/
def ubytes (v : Nat) : List Nat :=
  if v < 128 then [v] else if v < 2048 then [192 + v / 64, 128 + v % 64] else if v < 65536 then [224 + v / 4096, 128 + v / 64 % 64, 128 + v % 64]
  else [240 + v / 262144, 128 + v / 4096 % 64, 128 + v / 64 % 64, 128 + v % 64]
theorem ubytes_len (v : Nat) : (ubytes v).length = ulen v := by
  unfold ubytes ulen; by_cases h1 : v < 128 <;> by_cases h2 : v < 2048 <;> by_cases h3 : v < 65536 <;> simp [h1, h2, h3]


/-- What spec.l1char gives: the width and the code point of the character that begins at i, or nothing. -/
def chr (s : ByteArray) (i : Nat) : Nat × Nat := if (Utf8.decode s i).1 = 65533 ∧ (Utf8.decode s i).2 = 1 then (0, 0) else ((Utf8.decode s i).2, (Utf8.decode s i).1)

/-- The k-th byte behind i. -/
def bk (s : ByteArray) (i k : Nat) : Nat := (s.get! (i + k)).toNat
theorem bk_lt (s : ByteArray) (i k : Nat) : bk s i k < 256 := (s.get! (i + k)).toNat_lt

/-- What the loop has gathered behind k rounds. -/
def vacc (g : Nat → Nat) (v0 : Nat) : Nat → Nat
  | 0 => v0
  | k + 1 => vacc g v0 k * 64 + g (k + 1) % 64

theorem vacc_lt (g : Nat → Nat) (v0 : Nat) : ∀ k, vacc g v0 k < (v0 + 1) * 64 ^ k
  | 0 => by simp [vacc]
  | k + 1 => by
    have h := vacc_lt g v0 k
    have h2 : g (k + 1) % 64 < 64 := Nat.mod_lt _ (by decide)
    have e : (v0 + 1) * 64 ^ (k + 1) = ((v0 + 1) * 64 ^ k) * 64 := by rw [Nat.pow_succ, Nat.mul_assoc]
    rw [vacc, e]
    omega

/-- All bytes behind the first, up to the n-th, go on with a character. -/
def conts (g : Nat → Nat) (n : Nat) : Prop := ∀ j, 1 ≤ j → j < n → 128 ≤ g j ∧ g j < 192

theorem conts_step {g : Nat → Nat} {k : Nat} (h : conts g (k + 1)) (h2 : 128 ≤ g (k + 1) ∧ g (k + 1) < 192) : conts g (k + 1 + 1) := by
  intro j h1 h3
  by_cases e : j = k + 1
  · rw [e]; exact h2
  · exact h j h1 (by omega)

theorem chr_ascii (s : ByteArray) (i : Nat) (h : bk s i 0 < 128) : chr s i = (1, bk s i 0) := by
  have e : Utf8.decode s i = (bk s i 0, 1) := by
    rw [Lib.decode_at]; unfold bk at *; simp only [Nat.add_zero] at *; simp [Lib.decodeN, h]
  unfold chr
  rw [e, if_neg (by simp only; omega)]

theorem chr_none (s : ByteArray) (i : Nat) (h : 128 ≤ bk s i 0) (h2 : bk s i 0 < 192 ∨ 248 ≤ bk s i 0) : chr s i = (0, 0) := by
  have hb := bk_lt s i 0
  have e : Utf8.decode s i = (65533, 1) := by
    rw [Lib.decode_at]; unfold bk at *; simp only [Nat.add_zero] at *
    unfold Lib.decodeN
    rw [if_neg (by omega), if_neg (by omega), if_neg (by omega), if_neg (by omega)]
  unfold chr
  rw [e, if_pos (by simp)]

theorem ulen_two (v : Nat) : ulen v = 2 ↔ 128 ≤ v ∧ v < 2048 := by unfold ulen; (repeat' split) <;> omega
theorem ulen_three (v : Nat) : ulen v = 3 ↔ 2048 ≤ v ∧ v < 65536 := by unfold ulen; (repeat' split) <;> omega
theorem ulen_four (v : Nat) : ulen v = 4 ↔ 65536 ≤ v := by unfold ulen; (repeat' split) <;> omega
theorem pointB_nat (v : Nat) : pointB (v : Int) = true ↔ v ≤ 1114111 ∧ (v < 55296 ∨ 57343 < v) := by unfold pointB; rw [decide_eq_true_iff]; omega

def pick (r : Nat × Nat) : Nat × Nat := if r.1 = 65533 ∧ r.2 = 1 then (0, 0) else (r.2, r.1)
theorem pick_bad : pick (65533, 1) = (0, 0) := rfl
theorem pick_good {a b : Nat} (h : 1 < b) : pick (a, b) = (b, a) := by unfold pick; rw [if_neg (by simp only; omega)]

theorem dec_two (n y0 y1 y2 y3 : Nat) (h : 192 ≤ y0) (h2 : y0 < 224) (h3 : y1 < 256) :
    pick (Lib.decodeN n y0 y1 y2 y3) = if 2 ≤ n ∧ (128 ≤ y1 ∧ y1 < 192) ∧ 128 ≤ (y0 - 192) * 64 + y1 % 64 then (2, (y0 - 192) * 64 + y1 % 64) else (0, 0) := by
  have e : y0 % 32 = y0 - 192 := by omega
  unfold Lib.decodeN
  rw [if_neg (by omega), e]
  by_cases hc : 1 < n ∧ y1 / 64 = 2
  · rw [if_pos ⟨by omega, hc⟩]
    by_cases hv : (y0 - 192) * 64 + y1 % 64 ≥ 128
    · rw [if_pos hv, pick_good (by omega), if_pos ⟨by omega, by omega, hv⟩]
    · rw [if_neg hv, if_neg (fun g => hv g.2.2)]; rfl
  · rw [if_neg (fun g => hc g.2), if_neg (by omega), if_neg (by omega), if_neg (fun g => hc ⟨by omega, by omega⟩)]; rfl

theorem dec_three (n y0 y1 y2 y3 : Nat) (h : 224 ≤ y0) (h2 : y0 < 240) (h3 : y1 < 256) (h4 : y2 < 256) :
    pick (Lib.decodeN n y0 y1 y2 y3) = if 3 ≤ n ∧ ((128 ≤ y1 ∧ y1 < 192) ∧ (128 ≤ y2 ∧ y2 < 192)) ∧ 2048 ≤ ((y0 - 224) * 64 + y1 % 64) * 64 + y2 % 64 ∧ (((y0 - 224) * 64 + y1 % 64) * 64 + y2 % 64 < 55296 ∨ 57343 < ((y0 - 224) * 64 + y1 % 64) * 64 + y2 % 64) then (3, ((y0 - 224) * 64 + y1 % 64) * 64 + y2 % 64) else (0, 0) := by
  have e : y0 % 16 * 4096 + y1 % 64 * 64 + y2 % 64 = ((y0 - 224) * 64 + y1 % 64) * 64 + y2 % 64 := by omega
  have hmax : ((y0 - 224) * 64 + y1 % 64) * 64 + y2 % 64 < 65536 := by omega
  unfold Lib.decodeN
  rw [if_neg (by omega), if_neg (by omega), e]
  generalize ((y0 - 224) * 64 + y1 % 64) * 64 + y2 % 64 = v at *
  by_cases hc : (1 < n ∧ y1 / 64 = 2) ∧ (2 < n ∧ y2 / 64 = 2)
  · rw [if_pos ⟨by omega, hc⟩]
    by_cases hv : v ≥ 2048 ∧ (v < 55296 ∨ 57344 ≤ v ∧ v ≤ 1114111)
    · rw [if_pos hv, pick_good (by omega), if_pos ⟨by omega, by omega, by omega, by omega⟩]
    · rw [if_neg hv, if_neg (fun g => hv ⟨by omega, by omega⟩)]; rfl
  · rw [if_neg (fun g => hc g.2), if_neg (by omega), if_neg (fun g => hc ⟨by omega, by omega⟩)]; rfl

theorem dec_four (n y0 y1 y2 y3 : Nat) (h : 240 ≤ y0) (h2 : y0 < 248) (h3 : y1 < 256) (h4 : y2 < 256) (h5 : y3 < 256) :
    pick (Lib.decodeN n y0 y1 y2 y3) = if 4 ≤ n ∧ ((128 ≤ y1 ∧ y1 < 192) ∧ (128 ≤ y2 ∧ y2 < 192) ∧ (128 ≤ y3 ∧ y3 < 192)) ∧ 65536 ≤ (((y0 - 240) * 64 + y1 % 64) * 64 + y2 % 64) * 64 + y3 % 64 ∧ (((y0 - 240) * 64 + y1 % 64) * 64 + y2 % 64) * 64 + y3 % 64 ≤ 1114111 then (4, (((y0 - 240) * 64 + y1 % 64) * 64 + y2 % 64) * 64 + y3 % 64) else (0, 0) := by
  have e : y0 % 8 * 262144 + y1 % 64 * 4096 + y2 % 64 * 64 + y3 % 64 = (((y0 - 240) * 64 + y1 % 64) * 64 + y2 % 64) * 64 + y3 % 64 := by omega
  unfold Lib.decodeN
  rw [if_neg (by omega), if_neg (by omega), if_neg (by omega), e]
  generalize (((y0 - 240) * 64 + y1 % 64) * 64 + y2 % 64) * 64 + y3 % 64 = v at *
  by_cases hc : (1 < n ∧ y1 / 64 = 2) ∧ (2 < n ∧ y2 / 64 = 2) ∧ (3 < n ∧ y3 / 64 = 2)
  · rw [if_pos ⟨by omega, hc⟩]
    by_cases hv : v ≥ 65536 ∧ (v < 55296 ∨ 57344 ≤ v ∧ v ≤ 1114111)
    · rw [if_pos hv, pick_good (by omega), if_pos ⟨by omega, by omega, by omega, by omega⟩]
    · rw [if_neg hv, if_neg (fun g => hv ⟨by omega, by omega⟩)]; rfl
  · rw [if_neg (fun g => hc g.2), if_neg (fun g => hc ⟨by omega, by omega⟩)]; rfl

theorem chr_pick (s : ByteArray) (i : Nat) : chr s i = pick (Lib.decodeN (s.size - i) (bk s i 0) (bk s i 1) (bk s i 2) (bk s i 3)) := by
  show pick (Utf8.decode s i) = _
  rw [Lib.decode_at]; rfl

theorem conts_two (g : Nat → Nat) : conts g 2 ↔ (128 ≤ g 1 ∧ g 1 < 192) :=
  ⟨fun h => h 1 (by omega) (by omega), fun h j h1 h2 => by
    have e : j = 1 := by omega
    rw [e]; exact h⟩
theorem conts_three (g : Nat → Nat) : conts g 3 ↔ (128 ≤ g 1 ∧ g 1 < 192) ∧ (128 ≤ g 2 ∧ g 2 < 192) :=
  ⟨fun h => ⟨h 1 (by omega) (by omega), h 2 (by omega) (by omega)⟩, fun h j h1 h2 => by
    have e : j = 1 ∨ j = 2 := by omega
    rcases e with e | e <;> rw [e]
    · exact h.1
    · exact h.2⟩
theorem conts_four (g : Nat → Nat) : conts g 4 ↔ (128 ≤ g 1 ∧ g 1 < 192) ∧ (128 ≤ g 2 ∧ g 2 < 192) ∧ (128 ≤ g 3 ∧ g 3 < 192) :=
  ⟨fun h => ⟨h 1 (by omega) (by omega), h 2 (by omega) (by omega), h 3 (by omega) (by omega)⟩, fun h j h1 h2 => by
    have e : j = 1 ∨ j = 2 ∨ j = 3 := by omega
    rcases e with e | e | e <;> rw [e]
    · exact h.1
    · exact h.2.1
    · exact h.2.2⟩

/-- The test that l1char makes of a lead byte's class (n: the bytes; v0: what the lead byte gives). -/
def okc (s : ByteArray) (i n v0 : Nat) : Prop := i + n ≤ s.size ∧ conts (bk s i) n ∧ pointB (vacc (bk s i) v0 (n - 1)) = true ∧ ulen (vacc (bk s i) v0 (n - 1)) = n

theorem chr_two (s : ByteArray) (i : Nat) (hi : i < s.size) (h : 192 ≤ bk s i 0) (h2 : bk s i 0 < 224) :
    (okc s i 2 (bk s i 0 - 192) → chr s i = (2, vacc (bk s i) (bk s i 0 - 192) 1)) ∧ (¬ okc s i 2 (bk s i 0 - 192) → chr s i = (0, 0)) := by
  have b1 := bk_lt s i 1
  rw [chr_pick, dec_two _ _ _ _ _ h h2 b1]
  unfold okc
  rw [conts_two, pointB_nat, ulen_two]
  simp only [vacc, Nat.zero_add, Nat.add_one_sub_one]
  constructor
  · intro g; rw [if_pos ⟨by omega, g.2.1, by omega⟩]
  · intro g; rw [if_neg (fun k => g ⟨by omega, k.2.1, by omega, by omega⟩)]

theorem chr_three (s : ByteArray) (i : Nat) (hi : i < s.size) (h : 224 ≤ bk s i 0) (h2 : bk s i 0 < 240) :
    (okc s i 3 (bk s i 0 - 224) → chr s i = (3, vacc (bk s i) (bk s i 0 - 224) 2)) ∧ (¬ okc s i 3 (bk s i 0 - 224) → chr s i = (0, 0)) := by
  have b1 := bk_lt s i 1; have b2 := bk_lt s i 2
  rw [chr_pick, dec_three _ _ _ _ _ h h2 b1 b2]
  unfold okc
  rw [conts_three, pointB_nat, ulen_three]
  simp only [vacc, Nat.zero_add, Nat.add_one_sub_one, Nat.reduceAdd]
  constructor
  · intro g; rw [if_pos ⟨by omega, g.2.1, by omega, by omega⟩]
  · intro g; rw [if_neg (fun k => g ⟨by omega, k.2.1, by omega, by omega⟩)]

theorem chr_four (s : ByteArray) (i : Nat) (hi : i < s.size) (h : 240 ≤ bk s i 0) (h2 : bk s i 0 < 248) :
    (okc s i 4 (bk s i 0 - 240) → chr s i = (4, vacc (bk s i) (bk s i 0 - 240) 3)) ∧ (¬ okc s i 4 (bk s i 0 - 240) → chr s i = (0, 0)) := by
  have b1 := bk_lt s i 1; have b2 := bk_lt s i 2; have b3 := bk_lt s i 3
  rw [chr_pick, dec_four _ _ _ _ _ h h2 b1 b2 b3]
  unfold okc
  rw [conts_four, pointB_nat, ulen_four]
  simp only [vacc, Nat.zero_add, Nat.add_one_sub_one, Nat.reduceAdd]
  constructor
  · intro g; rw [if_pos ⟨by omega, g.2.1, by omega, by omega⟩]
  · intro g; rw [if_neg (fun k => g ⟨by omega, k.2.1, by omega, by omega⟩)]

theorem chr_le (s : ByteArray) (i : Nat) : (chr s i).1 ≤ 4 := by
  rw [chr_pick]
  unfold pick Lib.decodeN
  repeat' split
  all_goals simp

/-- CheckText from a place on, with fuel. -/
def chkAt (s : ByteArray) : Nat → Nat → Nat × Nat
  | 0, _ => (0, 0)
  | f + 1, p => if p < s.size then (if (chr s p).1 = 0 then (2, p) else chkAt s f (p + (chr s p).1)) else (0, 0)
def chk (s : ByteArray) : Nat × Nat := chkAt s (s.size + 1) 0

theorem chkAt_end {s : ByteArray} {f p : Nat} (h : ¬ p < s.size) : chkAt s f p = (0, 0) := by cases f <;> simp [chkAt, h]
theorem chkAt_bad {s : ByteArray} {f p : Nat} (h : p < s.size) (hf : s.size < p + f) (hc : (chr s p).1 = 0) : chkAt s f p = (2, p) := by
  cases f with
  | zero => omega
  | succ f => rw [chkAt, if_pos h, if_pos hc]
theorem chkAt_good {s : ByteArray} {f p : Nat} (h : p < s.size) (hf : s.size < p + f) (hc : (chr s p).1 ≠ 0) : ∃ g, f = g + 1 ∧ chkAt s f p = chkAt s g (p + (chr s p).1) := by
  cases f with
  | zero => omega
  | succ f => exact ⟨f, rfl, by rw [chkAt, if_pos h, if_neg hc]⟩
end Go.Proofs.YteicpjbeihabnaaDoor
