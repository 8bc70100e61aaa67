/-
  Plain facts: where characters begin in a well-formed source. No run of the program stands in this text.
-/
import Derived.Test.YteojiblglbmmdaaGreatDoorJFTextsLP
namespace Go.Proofs.YteojiblglbmmdaaGreatDoor
open Go.RowKit

theorem chr_ext (s : ByteArray) (p q : Nat) (hp : p ≤ s.size) : chr (s.extract p s.size) q = chr s (p + q) := by
  have hz := size_ext s p hp
  rw [chr_pick, chr_pick]
  unfold bk
  rw [get!_extract, get!_extract, get!_extract, get!_extract, hz, ← Nat.add_assoc, ← Nat.add_assoc, ← Nat.add_assoc, ← Nat.add_assoc, show s.size - p - q = s.size - (p + q) by omega]
theorem chkAt_fuel (s : ByteArray) : ∀ f g p, s.size < p + f → s.size < p + g → chkAt s f p = chkAt s g p
  | 0, 0, _, _, _ => rfl
  | 0, g + 1, p, h, _ => by rw [chkAt_end (by omega), chkAt_end (by omega)]
  | f + 1, 0, p, _, h => by rw [chkAt_end (by omega), chkAt_end (by omega)]
  | f + 1, g + 1, p, h, h' => by
    rw [chkAt, chkAt]
    by_cases c : p < s.size
    · rw [if_pos c, if_pos c]
      by_cases d : (chr s p).1 = 0
      · rw [if_pos d, if_pos d]
      · rw [if_neg d, if_neg d]; exact chkAt_fuel s f g _ (by omega) (by omega)
    · rw [if_neg c, if_neg c]
theorem chkAt_ext (s : ByteArray) (p : Nat) (hp : p ≤ s.size) : ∀ f q, chkAt s f (p + q) = (0, 0) → chkAt (s.extract p s.size) f q = (0, 0)
  | 0, _, _ => rfl
  | f + 1, q, h => by
    have hz := size_ext s p hp
    rw [chkAt] at h ⊢
    rw [chr_ext s p q hp, hz]
    by_cases c : p + q < s.size
    · rw [if_pos c] at h
      rw [if_pos (by omega)]
      by_cases d : (chr s (p + q)).1 = 0
      · rw [if_pos d] at h; simp at h
      · rw [if_neg d] at h ⊢
        rw [Nat.add_assoc] at h
        exact chkAt_ext s p hp f _ h
    · rw [if_neg (by omega)]

/-- From p on the text is well-formed. -/
def bnd (s : ByteArray) (p : Nat) : Prop := ∃ c, s.size < p + c ∧ chkAt s c p = (0, 0)
theorem bnd_rest {s : ByteArray} {p : Nat} (hp : p ≤ s.size) (h : bnd s p) : chk (s.extract p s.size) = (0, 0) := by
  obtain ⟨c, hc, e⟩ := h
  have hz := size_ext s p hp
  unfold chk
  refine chkAt_ext s p hp _ 0 ?_
  rw [Nat.add_zero, ← e, hz]
  exact chkAt_fuel s _ _ p (by omega) hc
theorem bnd_any (s : ByteArray) : ∀ k p q, q - p ≤ k → bnd s p → p ≤ q → q ≤ s.size → bnd s q ∨ (128 ≤ (s.get! q).toNat ∧ 128 ≤ (s.get! (q - 1)).toNat ∧ p < q)
  | 0, p, q, hk, h, hpq, _ => by
    have e : p = q := by omega
    rw [← e]; exact .inl h
  | k + 1, p, q, hk, h, hpq, hq => by
    by_cases e : p = q
    · rw [← e]; exact .inl h
    obtain ⟨c, hc, he⟩ := h
    have hps : p < s.size := by omega
    have hne : (chr s p).1 ≠ 0 := fun e0 => by rw [chkAt_bad hps hc e0] at he; cases he
    obtain ⟨g, hg, hst⟩ := chkAt_good hps hc hne
    rw [he] at hst
    have hb : bnd s (p + (chr s p).1) := ⟨g, by omega, hst.symm⟩
    by_cases hle : p + (chr s p).1 ≤ q
    · rcases bnd_any s k (p + (chr s p).1) q (by omega) hb hle hq with h | h
      · exact .inl h
      · exact .inr ⟨h.1, h.2.1, by omega⟩
    · by_cases hlow : bk s p 0 < 128
      · rw [chr_ascii s p hlow] at hle; simp only at hle; omega
      · have hh := chr_high s p hps hne (by omega)
        have h1 := hh (q - p) (by omega)
        have h2 := hh (q - 1 - p) (by omega)
        unfold bk at h1 h2
        rw [show p + (q - p) = q by omega] at h1
        rw [show p + (q - 1 - p) = q - 1 by omega] at h2
        exact .inr ⟨h1, h2, by omega⟩
theorem bnd_to {s : ByteArray} {p q : Nat} (h : bnd s p) (hpq : p ≤ q) (hq : q ≤ s.size) (hl : (s.get! q).toNat < 128 ∨ (s.get! (q - 1)).toNat < 128) : bnd s q := by
  rcases bnd_any s (q - p) p q (Nat.le_refl _) h hpq hq with g | g
  · exact g
  · omega

theorem bc_pair (s : ByteArray) : ∀ f q r, bc s q f = some r → (s.get! (r + 1)).toNat = 47
  | 0, _, _, h => by cases h
  | f + 1, q, r, h => by
    rw [bc] at h
    by_cases c : q + 1 < s.size
    · rw [if_pos c] at h
      by_cases d : (s.get! q).toNat = 42 ∧ (s.get! (q + 1)).toNat = 47
      · rw [if_pos d] at h
        have e := Option.some.inj h
        rw [← e]; exact d.2
      · rw [if_neg d] at h; exact bc_pair s f (q + 1) r h
    · rw [if_neg c] at h; cases h
theorem bl_low (s : ByteArray) (p n : Nat) (_hp : p < s.size) (h : bl s p = (n : Int)) (hn : 0 < n) : (s.get! (p + n)).toNat < 128 ∨ (s.get! (p + n - 1)).toNat < 128 := by
  unfold bl at h
  by_cases h1 : (s.get! p).toNat = 32 ∨ (s.get! p).toNat = 9 ∨ (s.get! p).toNat = 13 ∨ (s.get! p).toNat = 10
  · rw [if_pos h1] at h
    have e : n = 1 := by omega
    rw [e, Nat.add_sub_cancel]; exact .inr (by omega)
  rw [if_neg h1] at h
  by_cases h2 : (s.get! p).toNat ≠ 47 ∨ s.size ≤ p + 1
  · rw [if_pos h2] at h; omega
  rw [if_neg h2] at h
  by_cases h3 : (s.get! (p + 1)).toNat = 47
  · rw [if_pos h3] at h
    have e : n = 2 + ln s (p + 2) := by omega
    have hs := cw_stop (fun c => c != 10) s (p + 2)
    left
    rw [e, ← Nat.add_assoc]
    by_cases c : p + 2 + ln s (p + 2) < s.size
    · by_cases d : (s.get! (p + 2 + ln s (p + 2))).toNat = 10
      · omega
      · exact absurd ⟨c, by rw [bne_iff_ne]; exact d⟩ hs
    · rw [get!_beyond s _ (by omega)]; decide
  rw [if_neg h3] at h
  by_cases h4 : (s.get! (p + 1)).toNat ≠ 42
  · rw [if_pos h4] at h; omega
  rw [if_neg h4] at h
  cases e : bc s (p + 2) s.size with
  | none => rw [e] at h; simp only [bcl] at h; omega
  | some q =>
    rw [e] at h
    have hq := bc_le s _ _ _ e
    have hp := bc_pair s _ _ _ e
    simp only [bcl] at h
    right
    rw [show p + n - 1 = q + 1 by omega, hp]; decide
theorem lit_last (s : ByteArray) : ∀ f i acc l q, i ≤ s.size → lit s f i acc = some (l, q) → (s.get! (q - 1)).toNat = 34
  | 0, _, _, _, _, _, h => by simp [lit] at h
  | f + 1, i, acc, l, q, hi, h => by
    rw [lit] at h
    by_cases h1 : s.size ≤ i
    · rw [if_pos h1] at h; cases h
    rw [if_neg h1] at h
    by_cases h2 : (s.get! i).toNat = 34
    · rw [if_pos h2] at h
      have e : i + 1 = q := by injection h with h; injection h
      rw [← e, Nat.add_sub_cancel]; exact h2
    rw [if_neg h2] at h
    by_cases h3 : (s.get! i).toNat = 10
    · rw [if_pos h3] at h; cases h
    rw [if_neg h3] at h
    by_cases h4 : (s.get! i).toNat = 92
    · rw [if_pos h4] at h
      by_cases h5 : (esc s (i + 1)).2 = 0
      · rw [if_pos h5] at h; cases h
      · rw [if_neg h5] at h
        have he := ((esc_le s (i + 1)).2.2 h5).1
        exact lit_last s f _ _ l q (by omega) h
    · rw [if_neg h4] at h
      exact lit_last s f _ _ l q (by omega) h
theorem sl1_low : ∀ a ∈ sl1, a.toNat < 128 := by decide
theorem sl2_low : ∀ l ∈ sl2, ∀ a ∈ l, a.toNat < 128 := by decide
theorem tok_low (s : ByteArray) (p : Nat) (hp : p < s.size) (hn : (tok s p).2 ≠ 0) : (s.get! (p + (tok s p).2 - 1)).toNat < 128 := by
  have hrun : 0 < run s p → (s.get! (p + run s p - 1)).toNat < 128 := fun h => by
    have := (run_all s p (run s p - 1) (by omega)).2
    rw [show p + (run s p - 1) = p + run s p - 1 by omega] at this
    exact isR_low this
  unfold tok at hn ⊢
  by_cases h1 : isL (s.get! p).toNat = true
  · rw [if_pos h1] at hn ⊢
    simp only at hn
    exact hrun (by omega)
  rw [if_neg h1] at hn ⊢
  by_cases h2 : 0 < run s p
  · rw [if_pos h2] at hn ⊢
    by_cases h3 : nval s (run s p) p 0 < 0
    · rw [if_pos h3] at hn; exact absurd rfl hn
    · rw [if_neg h3]; exact hrun h2
  rw [if_neg h2] at hn ⊢
  by_cases h3 : (s.get! p).toNat = 34
  · rw [if_pos h3] at hn ⊢
    simp only at hn ⊢
    unfold litRes litAt at hn ⊢
    rw [if_neg (by rintro (g | g); omega; exact g h3)] at hn ⊢
    cases e : lit s (s.size + 1) (p + 1) [] with
    | none => rw [e] at hn; exact absurd rfl hn
    | some x =>
      obtain ⟨l, q⟩ := x
      have h5 := lit_in s _ _ _ l q (by omega) e
      have h6 := lit_last s _ _ _ l q (by omega) e
      show (s.get! (p + (q - p) - 1)).toNat < 128
      rw [show p + (q - p) - 1 = q - 1 by omega, h6]; decide
  rw [if_neg h3] at hn ⊢
  by_cases h4 : sg s p = 0
  · rw [if_pos h4] at hn; exact absurd rfl hn
  rw [if_neg h4]
  unfold sg at h4 ⊢
  by_cases h5 : p + 2 ≤ s.size ∧ sl2.contains [s.get! p, s.get! (p + 1)] = true
  · rw [if_pos h5]
    have := sl2_low _ (List.contains_iff_mem.1 h5.2) (s.get! (p + 1)) (by simp)
    exact this
  · rw [if_neg h5] at h4 ⊢
    by_cases h6 : sl1.contains (s.get! p) = true
    · rw [if_pos h6]
      exact sl1_low _ (List.contains_iff_mem.1 h6)
    · rw [if_neg h6] at h4; exact absurd rfl h4
end Go.Proofs.YteojiblglbmmdaaGreatDoor
