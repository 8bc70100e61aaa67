/-
  Plain facts on literals read piece by piece: texts that are the rest of a text, prefixes, what stands before a closing brace, characters of several bytes. No run of the program stands in this text.
-/
import Derived.Test.YteojiblglbmmdaaGreatDoorJFTextsY
import Derived.Test.YteojiblglbmmdaaGreatDoorJFTextsM
import Derived.Lib.CutLaws
import Derived.Lib.IndexLaws
import Derived.Lib.IndexBytes
import Derived.Lib.Small
namespace Go.Proofs.YteojiblglbmmdaaGreatDoor
open Go.RowKit

theorem size_ext (s : ByteArray) (i : Nat) (h : i ≤ s.size) : (s.extract i s.size).size = s.size - i := by rw [ByteArray.size_extract]; omega

theorem kc_ext (s : ByteArray) (i : Nat) (h : i ≤ s.size) : ∀ f p, kc (s.extract i s.size) p f = kc s (i + p) f
  | 0, _ => rfl
  | f + 1, p => by
    have ih := kc_ext s i h f (p + 1)
    have hz := size_ext s i h
    rw [kc, kc, get!_extract, hz, ih, Nat.add_assoc]
    by_cases c : i + p < s.size ∧ 0 ≤ hd (s.get! (i + p)).toNat
    · rw [if_pos c, if_pos ⟨by omega, c.2⟩]
    · rw [if_neg c, if_neg (fun g => c ⟨by omega, g.2⟩)]
theorem hv_ext (s : ByteArray) (i p : Nat) : ∀ k, hv (s.extract i s.size) p k = hv s (i + p) k
  | 0 => rfl
  | k + 1 => by rw [hv, hv, hv_ext s i p k, get!_extract, Nat.add_assoc]
theorem esc_ext (s : ByteArray) (i p : Nat) (h : i ≤ s.size) : esc (s.extract i s.size) p = esc s (i + p) := by
  have hz := size_ext s i h
  unfold esc
  rw [hz, get!_extract, get!_extract, kc_ext s i h, hv_ext, get!_extract]
  have e1 : i + (p + 1) = i + p + 1 := by omega
  have e2 : i + (p + 2) = i + p + 2 := by omega
  rw [e1, e2]
  have e3 : i + (p + 2 + kc s (i + p + 2) 7) = i + p + 2 + kc s (i + p + 2) 7 := by omega
  rw [e3]
  have a1 : (s.size - i ≤ p) = (s.size ≤ i + p) := by apply propext; omega
  have a2 : (s.size - i ≤ p + 1) = (s.size ≤ i + p + 1) := by apply propext; omega
  have a3 : (s.size - i ≤ p + 2 + kc s (i + p + 2) 7) = (s.size ≤ i + p + 2 + kc s (i + p + 2) 7) := by apply propext; omega
  simp only [a1, a2, a3]

theorem hv_pre (s : ByteArray) (j : Nat) (hj : j ≤ s.size) : ∀ k, k ≤ j → hv (s.extract 0 j) 0 k = hv s 0 k
  | 0, _ => rfl
  | k + 1, hk => by
    have h1 : k < (s.extract 0 j).size := by rw [ByteArray.size_extract]; omega
    have e : (s.extract 0 j).get! (0 + k) = s.get! (0 + k) := by
      rw [Nat.zero_add, Utf8W.get!_of_lt _ k h1, Utf8W.get!_of_lt _ k (by omega), ByteArray.getElem_extract h1]
      simp
    rw [hv, hv, hv_pre s j hj k (by omega), e]
theorem get!_pre (s : ByteArray) (j k : Nat) (hj : j ≤ s.size) (hk : k < j) : (s.extract 0 j).get! k = s.get! k := by
  have h1 : k < (s.extract 0 j).size := by rw [ByteArray.size_extract]; omega
  rw [Utf8W.get!_of_lt _ k h1, Utf8W.get!_of_lt _ k (by omega), ByteArray.getElem_extract h1]
  simp

/-- The code point that stands behind a backslash at i. -/
def escv (s : ByteArray) (i : Nat) : Nat := if (s.get! i).toNat = 34 ∨ (s.get! i).toNat = 92 then (s.get! i).toNat else hv s (i + 2) (kc s (i + 2) 7)
theorem esc_v (s : ByteArray) (i : Nat) (h : (esc s i).2 ≠ 0) : (esc s i).1 = ubytes (escv s i) ∧ pointB (escv s i) = true := by
  unfold esc at h ⊢
  unfold escv
  by_cases h1 : s.size ≤ i
  · rw [if_pos h1] at h; exact absurd rfl h
  rw [if_neg h1] at h ⊢
  by_cases h2 : (s.get! i).toNat = 34 ∨ (s.get! i).toNat = 92
  · rw [if_pos h2, if_pos h2]
    rcases h2 with e | e <;> rw [e] <;> exact ⟨rfl, rfl⟩
  rw [if_neg h2] at h ⊢
  rw [if_neg h2]
  by_cases h3 : (s.get! i).toNat ≠ 117 ∨ s.size ≤ i + 1 ∨ (s.get! (i + 1)).toNat ≠ 123
  · rw [if_pos h3] at h; exact absurd rfl h
  rw [if_neg h3] at h ⊢
  generalize kc s (i + 2) 7 = k at *
  by_cases h4 : k < 1 ∨ 6 < k ∨ s.size ≤ i + 2 + k ∨ (s.get! (i + 2 + k)).toNat ≠ 125 ∨ pointB (hv s (i + 2) k) = false
  · rw [if_pos h4] at h; exact absurd rfl h
  · rw [if_neg h4]
    refine ⟨rfl, ?_⟩
    cases hb : pointB (hv s (i + 2) k) with
    | true => rfl
    | false => exact absurd (.inr (.inr (.inr (.inr hb)))) h4

theorem kc_all (s : ByteArray) : ∀ f p j, j < kc s p f → p + j < s.size ∧ 0 ≤ hd (s.get! (p + j)).toNat
  | 0, _, _, h => absurd h (Nat.not_lt_zero _)
  | f + 1, p, j, h => by
    rw [kc] at h
    by_cases c : p < s.size ∧ 0 ≤ hd (s.get! p).toNat
    · rw [if_pos c] at h
      cases j with
      | zero => exact c
      | succ j =>
        have := kc_all s f (p + 1) j (by omega)
        rw [show p + 1 + j = p + (j + 1) by omega] at this
        exact this
    · rw [if_neg c] at h; exact absurd h (Nat.not_lt_zero _)
theorem kc_end (s : ByteArray) : ∀ f p, kc s p f < f → ¬ (p + kc s p f < s.size ∧ 0 ≤ hd (s.get! (p + kc s p f)).toNat)
  | 0, _, h => absurd h (Nat.not_lt_zero _)
  | f + 1, p, h => by
    rw [kc] at h ⊢
    by_cases c : p < s.size ∧ 0 ≤ hd (s.get! p).toNat
    · rw [if_pos c] at h ⊢
      have := kc_end s f (p + 1) (by omega)
      rw [show p + 1 + kc s (p + 1) f = p + (1 + kc s (p + 1) f) by omega] at this
      exact this
    · rw [if_neg c]; exact c
theorem hd_low {c : Nat} (h : 0 ≤ hd c) : c < 128 := by unfold hd at h; (repeat' split at h) <;> omega
theorem hd_125 : hd 125 = -1 := by decide

/-- What an escape takes are bytes below 128. -/
theorem esc_low (s : ByteArray) (i : Nat) (h : (esc s i).2 ≠ 0) : ∀ j, j < (esc s i).2 → (s.get! (i + j)).toNat < 128 := by
  unfold esc at h ⊢
  by_cases h1 : s.size ≤ i
  · rw [if_pos h1] at h; exact absurd rfl h
  rw [if_neg h1] at h ⊢
  by_cases h2 : (s.get! i).toNat = 34 ∨ (s.get! i).toNat = 92
  · rw [if_pos h2]
    intro j hj
    have e : j = 0 := by simp only at hj; omega
    rw [e, Nat.add_zero]; omega
  rw [if_neg h2] at h ⊢
  by_cases h3 : (s.get! i).toNat ≠ 117 ∨ s.size ≤ i + 1 ∨ (s.get! (i + 1)).toNat ≠ 123
  · rw [if_pos h3] at h; exact absurd rfl h
  rw [if_neg h3] at h ⊢
  have hka := kc_all s 7 (i + 2)
  generalize kc s (i + 2) 7 = k at *
  by_cases h4 : k < 1 ∨ 6 < k ∨ s.size ≤ i + 2 + k ∨ (s.get! (i + 2 + k)).toNat ≠ 125 ∨ pointB (hv s (i + 2) k) = false
  · rw [if_pos h4] at h; exact absurd rfl h
  · rw [if_neg h4]
    intro j hj
    simp only at hj
    by_cases e0 : j = 0
    · rw [e0, Nat.add_zero]; omega
    by_cases e1 : j = 1
    · rw [e1]; omega
    by_cases e2 : j = k + 2
    · rw [e2, show i + (k + 2) = i + 2 + k by omega]; omega
    · have := (hka (j - 2) (by omega)).2
      rw [show i + 2 + (j - 2) = i + j by omega] at this
      exact hd_low this

/-- A brace opened: what stands before the first closing brace decides (d: how many bytes those are). -/
theorem esc_brace {s : ByteArray} {i d : Nat} (h0 : i + 1 < s.size) (h1 : (s.get! i).toNat = 117) (h2 : (s.get! (i + 1)).toNat = 123) (hd' : i + 2 + d < s.size) (hc : (s.get! (i + 2 + d)).toNat = 125) (hno : ∀ j, j < d → (s.get! (i + 2 + j)).toNat ≠ 125) :
    ((6 < d ∨ kc s (i + 2) 7 ≠ d ∨ d = 0 ∨ pointB (hv s (i + 2) d) = false) → esc s i = ([], 0)) ∧ (d ≤ 6 → kc s (i + 2) 7 = d → 0 < d → pointB (hv s (i + 2) d) = true → esc s i = (ubytes (hv s (i + 2) d), d + 3) ∧ escv s i = hv s (i + 2) d) := by
  have hle := kc_le s 7 (i + 2)
  have hka := kc_all s 7 (i + 2)
  unfold esc escv
  rw [if_neg (by omega), if_neg (by omega), if_neg (by omega)]
  generalize kc s (i + 2) 7 = k at *
  have hkd : k ≤ d := by
    rcases Nat.lt_or_ge d k with g | g
    · have := (hka d g).2
      rw [hc, hd_125] at this
      omega
    · exact g
  constructor
  · intro h
    by_cases e : k = d
    · rw [if_pos]
      rcases h with h | h | h | h
      · exact .inr (.inl (by omega))
      · exact absurd e h
      · exact .inl (by omega)
      · rw [e]; exact .inr (.inr (.inr (.inr h)))
    · rw [if_pos]
      exact .inr (.inr (.inr (.inl (hno k (by omega)))))
  · intro a b c e
    rw [if_neg (by rw [b]; rintro (g | g | g | g | g); omega; omega; omega; exact g hc; rw [e] at g; cases g), if_neg (by omega), b]
    exact ⟨rfl, rfl⟩
theorem esc_open {s : ByteArray} {i : Nat} (hno : ∀ j, i + 2 + j < s.size → (s.get! (i + 2 + j)).toNat ≠ 125) (h2 : ¬ ((s.get! i).toNat = 34 ∨ (s.get! i).toNat = 92)) : esc s i = ([], 0) := by
  unfold esc
  by_cases h1 : s.size ≤ i
  · rw [if_pos h1]
  rw [if_neg h1, if_neg h2]
  by_cases h3 : (s.get! i).toNat ≠ 117 ∨ s.size ≤ i + 1 ∨ (s.get! (i + 1)).toNat ≠ 123
  · rw [if_pos h3]
  rw [if_neg h3, if_pos]
  by_cases h4 : s.size ≤ i + 2 + kc s (i + 2) 7
  · exact .inr (.inr (.inl h4))
  · exact .inr (.inr (.inr (.inl (hno _ (by omega)))))

/-- Digits up to d just if they are counted so. -/
theorem kc_is (s : ByteArray) (p d : Nat) (hd6 : d ≤ 6) (hin : p + d < s.size) (hc : (s.get! (p + d)).toNat = 125) : kc s p 7 = d ↔ ∀ j, j < d → 0 ≤ hd (s.get! (p + j)).toNat := by
  have hle := kc_le s 7 p
  have hka := kc_all s 7 p
  have hke := kc_end s 7 p
  generalize kc s p 7 = k at *
  constructor
  · intro e j hj; exact (hka j (by omega)).2
  · intro h
    rcases Nat.lt_or_ge k d with g | g
    · exact absurd ⟨by omega, h k g⟩ (hke (by omega))
    · rcases Nat.lt_or_ge d k with g' | g'
      · have := (hka d g').2
        rw [hc, hd_125] at this
        omega
      · omega

theorem validRune_point (v : Nat) : Lib.validRune (v : Int) = pointB (v : Int) := by
  unfold Lib.validRune pointB
  rw [decide_eq_decide]
  constructor <;> intro h <;> omega

/-- The bytes from p on, d of them. -/
def byl (s : ByteArray) (p : Nat) : Nat → List Nat
  | 0 => []
  | k + 1 => byl s p k ++ [bk s p k]
theorem qTo_byl (s : ByteArray) (p : Nat) : ∀ d, (∀ k, k < d → 128 ≤ bk s p k) → qTo s (p + d) = qTo s p ++ byl s p d
  | 0, _ => by simp [byl]
  | d + 1, h => by
    have ih := qTo_byl s p d (fun k hk => h k (by omega))
    show qTo s (p + d) ++ qb (bk s p d) = _
    rw [ih, qb_high (h d (by omega)), byl, List.append_assoc]
theorem byl_len (s : ByteArray) (p : Nat) : ∀ d, (byl s p d).length = d
  | 0 => rfl
  | d + 1 => by simp [byl, byl_len s p d]
theorem chr_high (s : ByteArray) (p : Nat) (hp : p < s.size) (h : (chr s p).1 ≠ 0) (h0 : 128 ≤ bk s p 0) : ∀ k, k < (chr s p).1 → 128 ≤ bk s p k := by
  have hn : ¬ (bk s p 0 < 192 ∨ 248 ≤ bk s p 0) := fun g => h (by rw [chr_none s p h0 g])
  have key : ∀ n v, conts (bk s p) n → chr s p = (n, v) → ∀ k, k < (chr s p).1 → 128 ≤ bk s p k := by
    intro n v hc he k hk
    rw [he] at hk
    cases k with
    | zero => exact h0
    | succ k => exact (hc (k + 1) (by omega) hk).1
  by_cases h2 : bk s p 0 < 224
  · have g := chr_two s p hp (by omega) h2
    by_cases ok : okc s p 2 (bk s p 0 - 192)
    · exact key _ _ ok.2.1 (g.1 ok)
    · exact absurd (by rw [g.2 ok]) h
  by_cases h3 : bk s p 0 < 240
  · have g := chr_three s p hp (by omega) h3
    by_cases ok : okc s p 3 (bk s p 0 - 224)
    · exact key _ _ ok.2.1 (g.1 ok)
    · exact absurd (by rw [g.2 ok]) h
  · have g := chr_four s p hp (by omega) (by omega)
    by_cases ok : okc s p 4 (bk s p 0 - 240)
    · exact key _ _ ok.2.1 (g.1 ok)
    · exact absurd (by rw [g.2 ok]) h

theorem lit_high (s : ByteArray) : ∀ d p f acc, p + d ≤ s.size → s.size < p + f → (∀ k, k < d → 128 ≤ bk s p k) → ∃ g, s.size < p + d + g ∧ lit s f p acc = lit s g (p + d) (acc ++ byl s p d)
  | 0, p, f, acc, _, hf, _ => ⟨f, by omega, by simp [byl]⟩
  | d + 1, p, f, acc, hp, hf, h => by
    obtain ⟨g, hg, e⟩ := lit_high s d p f acc (by omega) hf (fun k hk => h k (by omega))
    have hb : 128 ≤ (s.get! (p + d)).toNat := h d (by omega)
    obtain ⟨g', hg', e'⟩ := lit_byte (acc := acc ++ byl s p d) hg (by omega) (by omega) (by omega) (by omega)
    refine ⟨g', by omega, ?_⟩
    rw [e, e', byl, List.append_assoc]; rfl

/-- A character beyond ASCII within a literal. -/
theorem lit_rune (s : ByteArray) (p f : Nat) (acc : List Nat) (hp : p < s.size) (hf : s.size < p + f) (h : (chr s p).1 ≠ 0) (h0 : 128 ≤ bk s p 0) :
    ∃ g ys, s.size < p + (chr s p).1 + g ∧ lit s f p acc = lit s g (p + (chr s p).1) (acc ++ ys) ∧ cv ys = Lib.runeCells ((chr s p).2 : Int) ∧ 128 ≤ (chr s p).2 ∧ (chr s p).2 ≤ 1114111 ∧ p + (chr s p).1 ≤ s.size := by
  have hh := chr_high s p hp h h0
  obtain ⟨ys, e1, e2, e3, e4, e5⟩ := qTo_rune s p hp h h0
  have e6 := qTo_byl s p _ hh
  rw [e1] at e6
  have e7 := List.append_cancel_left e6
  obtain ⟨g, hg, e8⟩ := lit_high s _ p f acc e5 hf hh
  exact ⟨g, ys, hg, by rw [e7]; exact e8, e2, e3, e4, e5⟩

/-- Over bytes below 128 a well-formed rest stays one. -/
theorem chkAt_low (s : ByteArray) : ∀ n p f, p + n ≤ s.size → s.size < p + f → chkAt s f p = (0, 0) → (∀ j, j < n → (s.get! (p + j)).toNat < 128) → ∃ g, s.size < p + n + g ∧ chkAt s g (p + n) = (0, 0)
  | 0, p, f, _, hf, h, _ => ⟨f, hf, h⟩
  | n + 1, p, f, hp, hf, h, hl => by
    have hb : bk s p 0 < 128 := by have := hl 0 (by omega); exact this
    have hc := chr_ascii s p hb
    obtain ⟨g, hg, e⟩ := chkAt_good (f := f) (by omega : p < s.size) hf (by rw [hc]; simp)
    rw [hc] at e
    obtain ⟨g', h1, h2⟩ := chkAt_low s n (p + 1) g (by omega) (by omega) (by rw [← e]; exact h) (fun j hj => by have := hl (j + 1) (by omega); rw [show p + (j + 1) = p + 1 + j by omega] at this; exact this)
    exact ⟨g', by omega, by rw [show p + (n + 1) = p + 1 + n by omega]; exact h2⟩

theorem pre_two (r : ByteArray) (a b : UInt8) : Lib.hasPrefix r.data.toList [a, b] = decide (2 ≤ r.size ∧ r.get! 0 = a ∧ r.get! 1 = b) := by
  obtain ⟨⟨l⟩⟩ := r
  match l with
  | [] => simp [Lib.hasPrefix, ByteArray.size]
  | [x] => simp [Lib.hasPrefix, ByteArray.size, List.isPrefixOf]
  | x :: y :: t =>
    simp only [Lib.hasPrefix, List.isPrefixOf, ByteArray.get!, ByteArray.size]
    rw [Bool.eq_iff_iff]
    simp
    constructor
    · rintro ⟨h1, h2⟩; exact ⟨h1.symm, h2.symm⟩
    · rintro ⟨h1, h2⟩; exact ⟨h1.symm, h2.symm⟩
theorem pre_one (r : ByteArray) (a : UInt8) : Lib.hasPrefix r.data.toList [a] = decide (1 ≤ r.size ∧ r.get! 0 = a) := by
  obtain ⟨⟨l⟩⟩ := r
  match l with
  | [] => simp [Lib.hasPrefix, ByteArray.size]
  | x :: t =>
    simp only [Lib.hasPrefix, List.isPrefixOf, ByteArray.get!, ByteArray.size]
    rw [Bool.eq_iff_iff]
    simp
    exact ⟨fun h => h.symm, fun h => h.symm⟩
theorem pre_three (r : ByteArray) (a b c : UInt8) : Lib.hasPrefix r.data.toList [a, b, c] = decide (3 ≤ r.size ∧ r.get! 0 = a ∧ r.get! 1 = b ∧ r.get! 2 = c) := by
  obtain ⟨⟨l⟩⟩ := r
  match l with
  | [] => simp [Lib.hasPrefix, ByteArray.size]
  | [x] => simp [Lib.hasPrefix, ByteArray.size, List.isPrefixOf]
  | [x, y] => simp [Lib.hasPrefix, ByteArray.size, List.isPrefixOf]
  | x :: y :: z :: t =>
    simp only [Lib.hasPrefix, List.isPrefixOf, ByteArray.get!, ByteArray.size]
    rw [Bool.eq_iff_iff]
    simp
    constructor
    · rintro ⟨h1, h2, h3⟩; exact ⟨h1.symm, h2.symm, h3.symm⟩
    · rintro ⟨h1, h2, h3⟩; exact ⟨h1.symm, h2.symm, h3.symm⟩

/-- The first place of a byte: found, or nowhere. -/
theorem cut_one (t : ByteArray) (c : UInt8) :
    (∃ d, d < t.size ∧ t.get! d = c ∧ (∀ j, j < d → t.get! j ≠ c) ∧ (⟨(Lib.cut t.data.toList [c]).1.toArray⟩ : ByteArray) = t.extract 0 d ∧ (Lib.cut t.data.toList [c]).2.2 = true) ∨ ((∀ j, j < t.size → t.get! j ≠ c) ∧ (Lib.cut t.data.toList [c]).2.2 = false) := by
  have hi : Lib.indexB t ⟨#[c]⟩ = Lib.indexByte t.data.toList c := Lib.index_one t.data.toList c
  have gl : ∀ j, j < t.size → t.data.toList[j]? = some (t.get! j) := fun j hj => by
    rw [Utf8W.get!_of_lt t j hj]
    have h' : j < t.data.size := hj
    rw [Array.getElem?_toList, Array.getElem?_eq_getElem h']
    rfl
  rcases Lib.indexB_cases t ⟨#[c]⟩ with h | ⟨d, h, hd'⟩
  · refine .inr ⟨fun j hj e => ?_, (Lib.cutB_miss t ⟨#[c]⟩ h).2.2⟩
    rw [hi] at h
    exact Lib.indexByte_none h j (by rw [gl j hj, e])
  · have hd1 : d < t.size := by have : (⟨#[c]⟩ : ByteArray).size = 1 := rfl; omega
    have hh := Lib.cutB_hit t ⟨#[c]⟩ d h
    rw [hi] at h
    have hs := Lib.indexByte_some h
    refine .inl ⟨d, hd1, ?_, fun j hj e => ?_, hh.1, hh.2.2⟩
    · have := hs.1; rw [gl d hd1] at this; exact Option.some.inj this
    · exact hs.2 j hj (by rw [gl j (by omega), e])
end Go.Proofs.YteojiblglbmmdaaGreatDoor
