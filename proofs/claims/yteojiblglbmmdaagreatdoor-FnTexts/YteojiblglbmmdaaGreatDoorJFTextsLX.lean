/-
  Plain facts on tokens: runs, words, numbers, signs, blanks and comments. No run of the program stands in this text.
-/
import Derived.Test.YteojiblglbmmdaaGreatDoorJFTextsZ
import Derived.Lib.AtoiAll
import Derived.Lib.Index
namespace Go.Proofs.YteojiblglbmmdaaGreatDoor
open Go.RowKit

def isD (c : Nat) : Bool := decide (48 ≤ c ∧ c ≤ 57)
def isL (c : Nat) : Bool := decide ((97 ≤ c ∧ c ≤ 122) ∨ (65 ≤ c ∧ c ≤ 90) ∨ c = 95)
def isR (c : Nat) : Bool := isL c || isD c
theorem isD_iff (c : Nat) : isD c = true ↔ 48 ≤ c ∧ c ≤ 57 := by unfold isD; rw [decide_eq_true_iff]
theorem isL_iff (c : Nat) : isL c = true ↔ (97 ≤ c ∧ c ≤ 122) ∨ (65 ≤ c ∧ c ≤ 90) ∨ c = 95 := by unfold isL; rw [decide_eq_true_iff]
theorem isR_iff (c : Nat) : isR c = true ↔ isL c = true ∨ isD c = true := by unfold isR; rw [Bool.or_eq_true]
theorem isR_low {c : Nat} (h : isR c = true) : c < 128 := by
  rcases (isR_iff c).1 h with g | g
  · have := (isL_iff c).1 g; omega
  · have := (isD_iff c).1 g; omega

/-- How many of at most f bytes from p on have a property. -/
def cw (P : Nat → Bool) (s : ByteArray) (p : Nat) : Nat → Nat
  | 0 => 0
  | f + 1 => if p < s.size ∧ P (s.get! p).toNat = true then 1 + cw P s (p + 1) f else 0
theorem cw_all (P : Nat → Bool) (s : ByteArray) : ∀ f p j, j < cw P s p f → p + j < s.size ∧ P (s.get! (p + j)).toNat = true
  | 0, _, _, h => absurd h (Nat.not_lt_zero _)
  | f + 1, p, j, h => by
    rw [cw] at h
    by_cases c : p < s.size ∧ P (s.get! p).toNat = true
    · rw [if_pos c] at h
      cases j with
      | zero => exact c
      | succ j =>
        have := cw_all P s f (p + 1) j (by omega)
        rw [show p + 1 + j = p + (j + 1) by omega] at this
        exact this
    · rw [if_neg c] at h; exact absurd h (Nat.not_lt_zero _)
theorem cw_end (P : Nat → Bool) (s : ByteArray) : ∀ f p, cw P s p f < f → ¬ (p + cw P s p f < s.size ∧ P (s.get! (p + cw P s p f)).toNat = true)
  | 0, _, h => absurd h (Nat.not_lt_zero _)
  | f + 1, p, h => by
    rw [cw] at h ⊢
    by_cases c : p < s.size ∧ P (s.get! p).toNat = true
    · rw [if_pos c] at h ⊢
      have := cw_end P s f (p + 1) (by omega)
      rw [show p + 1 + cw P s (p + 1) f = p + (1 + cw P s (p + 1) f) by omega] at this
      exact this
    · rw [if_neg c]; exact c
theorem cw_is {P : Nat → Bool} {s : ByteArray} {p n : Nat} (hp : p + n ≤ s.size) (h1 : ∀ j, j < n → P (s.get! (p + j)).toNat = true) (h2 : ¬ (p + n < s.size ∧ P (s.get! (p + n)).toNat = true)) : cw P s p s.size = n := by
  have ha := cw_all P s s.size p
  have he : ¬ (p + cw P s p s.size < s.size ∧ P (s.get! (p + cw P s p s.size)).toNat = true) := by
    by_cases h : cw P s p s.size < s.size
    · exact cw_end P s s.size p h
    · intro g; omega
  rcases Nat.lt_trichotomy (cw P s p s.size) n with h | h | h
  · exact absurd ⟨by omega, h1 _ h⟩ he
  · exact h
  · exact absurd (ha n h) h2
/-- The letters, digits and underscores from p on. -/
def run (s : ByteArray) (p : Nat) : Nat := cw isR s p s.size
theorem run_le (s : ByteArray) (p : Nat) (hp : p ≤ s.size) : p + run s p ≤ s.size := by
  unfold run
  rcases Nat.eq_zero_or_pos (cw isR s p s.size) with h | h
  · omega
  · have := (cw_all isR s s.size p (cw isR s p s.size - 1) (by omega)).1
    omega
theorem run_end (s : ByteArray) (p : Nat) : ¬ (p + run s p < s.size ∧ isR (s.get! (p + run s p)).toNat = true) := by
  by_cases h : run s p < s.size
  · exact cw_end isR s s.size p h
  · intro g; omega
theorem run_all (s : ByteArray) (p : Nat) : ∀ j, j < run s p → p + j < s.size ∧ isR (s.get! (p + j)).toNat = true := cw_all isR s s.size p
theorem run_is {s : ByteArray} {p n : Nat} (hp : p + n ≤ s.size) (h1 : ∀ j, j < n → isR (s.get! (p + j)).toNat = true) (h2 : ¬ (p + n < s.size ∧ isR (s.get! (p + n)).toNat = true)) : run s p = n := cw_is hp h1 h2
theorem run_ext (s : ByteArray) (p : Nat) (hp : p ≤ s.size) : run (s.extract p s.size) 0 = run s p := by
  have hz := size_ext s p hp
  have hl := run_le s p hp
  refine run_is (by omega) (fun j hj => ?_) ?_
  · rw [get!_extract, Nat.zero_add]; exact (run_all s p j hj).2
  · rw [get!_extract, Nat.zero_add, hz]
    intro g
    exact run_end s p ⟨by omega, g.2⟩

theorem get!_ext2 (s : ByteArray) (p q k : Nat) (hq : q ≤ s.size) (hk : p + k < q) : (s.extract p q).get! k = s.get! (p + k) := by
  have h1 : k < (s.extract p q).size := by rw [ByteArray.size_extract]; omega
  rw [Utf8W.get!_of_lt _ k h1, Utf8W.get!_of_lt _ (p + k) (by omega), ByteArray.getElem_extract h1]
theorem size_ext2 (s : ByteArray) (p q : Nat) (hq : q ≤ s.size) : (s.extract p q).size = q - p := by rw [ByteArray.size_extract]; omega
theorem ext_ext (s : ByteArray) (p q : Nat) (h : p + q ≤ s.size) : (s.extract p s.size).extract 0 q = s.extract p (p + q) := by
  have hz := size_ext s p (by omega)
  refine ext_bytes (by rw [size_ext2 _ _ _ (by omega), size_ext2 _ _ _ (by omega)]; omega) (fun j hj => ?_)
  rw [size_ext2 _ _ _ (by omega)] at hj
  rw [get!_ext2 _ 0 q j (by omega) (by omega), get!_extract, get!_ext2 s p (p + q) j (by omega) (by omega), Nat.zero_add]

/-- The words. -/
def wl : List (List UInt8) := [[109, 97, 99, 114, 111], [105, 110, 116], [116, 101, 120, 116], [108, 101, 116], [99, 97, 108, 108], [102, 111, 114], [116, 111], [105, 102], [101, 108, 115, 101], [103, 114, 105, 100], [119, 97, 108, 108], [111, 112, 101, 110], [108, 97, 110, 101], [103, 97, 116, 101], [98, 97, 114], [122, 111, 110, 101], [99, 111, 115, 116], [115, 116, 97, 116, 105, 111, 110], [99, 104, 97, 114, 103, 101, 114], [97, 116], [116, 114, 117, 101], [102, 97, 108, 115, 101], [110, 111, 114, 116, 104], [101, 97, 115, 116], [115, 111, 117, 116, 104], [119, 101, 115, 116]]
def isW (s : ByteArray) : Bool := wl.contains s.toList

/-- The number that k digits from p on write, with v before them, or -1. -/
def nval (s : ByteArray) : Nat → Nat → Nat → Int
  | 0, _, v => v
  | k + 1, p, v => if isD (s.get! p).toNat = true then (if 99999 < v * 10 + ((s.get! p).toNat - 48) then -1 else nval s k (p + 1) (v * 10 + ((s.get! p).toNat - 48))) else -1
def nvl : List UInt8 → Nat → Int
  | [], v => v
  | c :: r, v => if isD c.toNat = true then (if 99999 < v * 10 + (c.toNat - 48) then -1 else nvl r (v * 10 + (c.toNat - 48))) else -1
theorem nvl_nval (s : ByteArray) : ∀ k p v, p + k ≤ s.size → nvl ((s.data.toList.drop p).take k) v = nval s k p v
  | 0, p, v, _ => by simp [nvl, nval]
  | k + 1, p, v, h => by
    have hlt : p < s.data.toList.length := by rw [Array.length_toList]; show p < s.size; omega
    have e : s.data.toList.drop p = s.data.toList[p] :: s.data.toList.drop (p + 1) := List.drop_eq_getElem_cons hlt
    have e2 : s.data.toList[p] = s.get! p := by rw [Utf8W.get!_of_lt s p (by omega), Array.getElem_toList]; rfl
    rw [e, List.take_succ_cons, nvl, nval, nvl_nval s k (p + 1) _ (by omega), e2]
theorem pu_ge : ∀ (l : List UInt8) (v u : Nat), Lib.parseUint10 v l = .ok u → v ≤ u
  | [], v, u, h => by
    simp only [Lib.parseUint10] at h
    injection h with h
    omega
  | c :: r, v, u, h => by
    simp only [Lib.parseUint10] at h
    split at h
    · split at h
      · cases h
      · split at h
        · cases h
        · have := pu_ge r _ u h
          omega
    · cases h
theorem nvl_pu : ∀ (l : List UInt8) (v : Nat), v ≤ 99999 → (0 ≤ nvl l v ↔ ∃ u, Lib.parseUint10 v l = .ok u ∧ u ≤ 99999)
  | [], v, hv => ⟨fun _ => ⟨v, rfl, hv⟩, fun _ => by simp [nvl]⟩
  | c :: r, v, hv => by
    rw [nvl]
    by_cases hd : isD c.toNat = true
    · have hd' := (isD_iff _).1 hd
      rw [if_pos hd]
      by_cases hb : 99999 < v * 10 + (c.toNat - 48)
      · rw [if_pos hb]
        constructor
        · intro h; omega
        · rintro ⟨u, h1, h2⟩
          simp only [Lib.parseUint10] at h1
          rw [if_pos hd', if_neg (by omega), if_neg (by omega)] at h1
          have := pu_ge r _ u h1
          omega
      · rw [if_neg hb, nvl_pu r _ (by omega)]
        simp only [Lib.parseUint10]
        rw [if_pos hd', if_neg (by omega), if_neg (by omega)]
    · rw [if_neg hd]
      constructor
      · intro h; omega
      · rintro ⟨u, h1, h2⟩
        simp only [Lib.parseUint10] at h1
        rw [if_neg (fun g => hd ((isD_iff _).2 g))] at h1
        cases h1

/-- A sign at p: its length, or 0. -/
def sl2 : List (List UInt8) := [[61, 61], [33, 61], [60, 61], [62, 61], [38, 38], [124, 124]]
def sl1 : List UInt8 := [40, 41, 123, 125, 44, 59, 61, 60, 62, 38, 43, 45, 42, 47, 37, 33]
def sl : List (List UInt8) := sl2 ++ sl1.map fun a => [a]
def sg (s : ByteArray) (p : Nat) : Nat := if p + 2 ≤ s.size ∧ sl2.contains [s.get! p, s.get! (p + 1)] = true then 2 else if sl1.contains (s.get! p) = true then 1 else 0
theorem sl_lo {j : Nat} (h : j < 6) : sl.getD j [] = sl2.getD j [] ∧ (sl2.getD j []).length = 2 ∧ sl2.getD j [] ∈ sl2 := by
  match j, h with
  | 0, _ => decide
  | 1, _ => decide
  | 2, _ => decide
  | 3, _ => decide
  | 4, _ => decide
  | 5, _ => decide
theorem sl_hi : ∀ j : Fin 16, sl.getD (6 + j.val) [] = [sl1.getD j.val 0] ∧ sl1.getD j.val 0 ∈ sl1 := by decide
theorem sg_two {s : ByteArray} {p n : Nat} (hn : n < 6) (h : p + 2 ≤ s.size) (e : [s.get! p, s.get! (p + 1)] = sl.getD n []) : sg s p = 2 := by
  unfold sg
  rw [if_pos ⟨h, by rw [List.contains_iff_mem, e, (sl_lo hn).1]; exact (sl_lo hn).2.2⟩]
theorem no_two {s : ByteArray} {p : Nat} (h : ∀ j, j < 6 → ¬ (p + 2 ≤ s.size ∧ [s.get! p, s.get! (p + 1)] = sl.getD j [])) : ¬ (p + 2 ≤ s.size ∧ sl2.contains [s.get! p, s.get! (p + 1)] = true) := by
  rintro ⟨h1, h2⟩
  rw [List.contains_iff_mem] at h2
  obtain ⟨j, hj, e⟩ := List.getElem_of_mem h2
  have hj6 : j < 6 := hj
  exact h j hj6 ⟨h1, by rw [(sl_lo hj6).1, ← e]; simp [List.getD, List.getElem?_eq_getElem hj]⟩
theorem sg_one {s : ByteArray} {p n : Nat} (hn : 6 ≤ n) (hn2 : n < 22) (h : ∀ j, j < 6 → ¬ (p + 2 ≤ s.size ∧ [s.get! p, s.get! (p + 1)] = sl.getD j [])) (e : [s.get! p] = sl.getD n []) : sg s p = 1 := by
  unfold sg
  rw [if_neg (no_two h), if_pos]
  have := sl_hi ⟨n - 6, by omega⟩
  simp only [show 6 + (n - 6) = n by omega] at this
  rw [this.1] at e
  rw [List.contains_iff_mem, (List.cons.inj e).1]
  exact this.2
theorem sg_none {s : ByteArray} {p : Nat} (h : ∀ j, j < 6 → ¬ (p + 2 ≤ s.size ∧ [s.get! p, s.get! (p + 1)] = sl.getD j [])) (h2 : ∀ j, 6 ≤ j → j < 22 → [s.get! p] ≠ sl.getD j []) : sg s p = 0 := by
  unfold sg
  rw [if_neg (no_two h), if_neg]
  intro g
  rw [List.contains_iff_mem] at g
  obtain ⟨j, hj, e⟩ := List.getElem_of_mem g
  have hj16 : j < 16 := hj
  have := sl_hi ⟨j, hj16⟩
  refine h2 (6 + j) (by omega) (by omega) ?_
  rw [this.1]
  simp [List.getD, List.getElem?_eq_getElem hj, e]
/-- A text of one or two bytes as a list. -/
theorem list_one (s : ByteArray) (p : Nat) (h : p + 1 ≤ s.size) : (s.extract p (p + 1)).toList = [s.get! p] := by
  have hz := size_ext2 s p (p + 1) h
  have g0 := get!_ext2 s p (p + 1) 0 h (by omega)
  rw [Lib.toList_data]
  generalize s.extract p (p + 1) = x at hz g0 ⊢
  obtain ⟨⟨l⟩⟩ := x
  have hl : l.length = 1 := by
    have e : (ByteArray.mk l.toArray).size = l.length := by show l.toArray.size = _; simp
    have e2 : (ByteArray.mk ⟨l⟩).size = (ByteArray.mk l.toArray).size := rfl
    omega
  match l, hl with
  | [a], _ =>
    show [a] = _
    rw [← show s.get! (p + 0) = s.get! p from rfl, ← g0]
    rfl
theorem list_two (s : ByteArray) (p : Nat) (h : p + 2 ≤ s.size) : (s.extract p (p + 2)).toList = [s.get! p, s.get! (p + 1)] := by
  have hz := size_ext2 s p (p + 2) h
  have g0 := get!_ext2 s p (p + 2) 0 h (by omega)
  have g1 := get!_ext2 s p (p + 2) 1 h (by omega)
  rw [Lib.toList_data]
  generalize s.extract p (p + 2) = x at hz g0 g1 ⊢
  obtain ⟨⟨l⟩⟩ := x
  have hl : l.length = 2 := by
    have e : (ByteArray.mk l.toArray).size = l.length := by show l.toArray.size = _; simp
    have e2 : (ByteArray.mk ⟨l⟩).size = (ByteArray.mk l.toArray).size := rfl
    omega
  match l, hl with
  | [a, c], _ =>
    show [a, c] = _
    rw [← show s.get! (p + 0) = s.get! p from rfl, ← g0, ← g1]
    rfl

/-- How many bytes from q on stand before a line's end. -/
def ln (s : ByteArray) (q : Nat) : Nat := cw (fun c => c != 10) s q s.size
/-- Where a comment's end begins, from q on. -/
def bc (s : ByteArray) (q : Nat) : Nat → Option Nat
  | 0 => none
  | f + 1 => if q + 1 < s.size then (if (s.get! q).toNat = 42 ∧ (s.get! (q + 1)).toNat = 47 then some q else bc s (q + 1) f) else none
theorem bc_hit (s : ByteArray) : ∀ f q m, m < f → q + m + 1 < s.size → (∀ j, j < m → ¬ ((s.get! (q + j)).toNat = 42 ∧ (s.get! (q + j + 1)).toNat = 47)) → (s.get! (q + m)).toNat = 42 → (s.get! (q + m + 1)).toNat = 47 → bc s q f = some (q + m)
  | 0, _, m, h, _, _, _, _ => absurd h (Nat.not_lt_zero _)
  | f + 1, q, 0, _, h1, _, h3, h4 => by rw [bc, if_pos h1, if_pos ⟨h3, h4⟩]; rfl
  | f + 1, q, m + 1, h, h1, h2, h3, h4 => by
    have e : q + (m + 1) = q + 1 + m := by omega
    have h20 : ¬ ((s.get! q).toNat = 42 ∧ (s.get! (q + 1)).toNat = 47) := h2 0 (by omega)
    rw [bc, if_pos (by omega), if_neg h20, e]
    rw [e] at h1 h3 h4
    exact bc_hit s f (q + 1) m (by omega) h1 (fun j hj => by
      have := h2 (j + 1) (by omega)
      rw [show q + (j + 1) = q + 1 + j by omega] at this
      exact this) h3 h4
theorem bc_miss (s : ByteArray) : ∀ f q, (∀ j, q + j + 1 < s.size → ¬ ((s.get! (q + j)).toNat = 42 ∧ (s.get! (q + j + 1)).toNat = 47)) → bc s q f = none
  | 0, _, _ => rfl
  | f + 1, q, h => by
    rw [bc]
    by_cases c : q + 1 < s.size
    · have h0 : ¬ ((s.get! q).toNat = 42 ∧ (s.get! (q + 1)).toNat = 47) := h 0 c
      rw [if_pos c, if_neg h0]
      exact bc_miss s f (q + 1) (fun j hj => by
        have := h (j + 1) (by omega)
        rw [show q + (j + 1) = q + 1 + j by omega] at this
        exact this)
    · rw [if_neg c]
def bcl (p : Nat) : Option Nat → Int
  | some q => ((q - p + 2 : Nat) : Int)
  | none => -1
/-- What stands at p before a token: a blank, a comment; -1 for a comment that does not end. -/
def bl (s : ByteArray) (p : Nat) : Int :=
  if (s.get! p).toNat = 32 ∨ (s.get! p).toNat = 9 ∨ (s.get! p).toNat = 13 ∨ (s.get! p).toNat = 10 then 1
  else if (s.get! p).toNat ≠ 47 ∨ s.size ≤ p + 1 then 0
  else if (s.get! (p + 1)).toNat = 47 then ((2 + ln s (p + 2) : Nat) : Int)
  else if (s.get! (p + 1)).toNat ≠ 42 then 0
  else bcl p (bc s (p + 2) s.size)

/-- A token at p: its kind and length; length 0 if there is none. -/
def tok (s : ByteArray) (p : Nat) : Nat × Nat :=
  if isL (s.get! p).toNat = true then (if isW (s.extract p (p + run s p)) = true then 2 else 1, run s p)
  else if 0 < run s p then (if nval s (run s p) p 0 < 0 then (0, 0) else (3, run s p))
  else if (s.get! p).toNat = 34 then (4, (litRes s p).2)
  else if sg s p = 0 then (0, 0) else (5, sg s p)

/-- The tokens from p on. -/
def lex (s : ByteArray) : Nat → Nat → List (Nat × Nat × Nat) → List (Nat × Nat × Nat) × Nat × Nat
  | 0, _, acc => (acc, 0, 0)
  | f + 1, p, acc =>
    if p < s.size then
      (if 0 < bl s p then lex s f (p + (bl s p).toNat) acc
      else if bl s p < 0 then ([], 2, p)
      else if (tok s p).2 = 0 then ([], 2, p)
      else lex s f (p + (tok s p).2) (acc ++ [((tok s p).1, p, (tok s p).2)]))
    else (acc, 0, 0)
def lexed (s : ByteArray) : List (Nat × Nat × Nat) × Nat × Nat :=
  if 5000 < s.size then ([], 4, 5000) else if (chk s).1 = 0 then lex s (s.size + 1) 0 [] else ([], (chk s).1, (chk s).2)
end Go.Proofs.YteojiblglbmmdaaGreatDoor
