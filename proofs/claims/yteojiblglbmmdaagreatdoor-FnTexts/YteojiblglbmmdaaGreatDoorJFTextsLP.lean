/-
  Plain facts: the pieces of a source by the program's way, and blanks and tokens by the specification's. No run of the program stands in this text.
-/
import Derived.Test.YteojiblglbmmdaaGreatDoorJFTextsIP3
import Derived.Test.YteojiblglbmmdaaGreatDoorJFTextsSL
namespace Go.Proofs.YteojiblglbmmdaaGreatDoor
open Go.RowKit

theorem cw_stop (P : Nat → Bool) (s : ByteArray) (p : Nat) : ¬ (p + cw P s p s.size < s.size ∧ P (s.get! (p + cw P s p s.size)).toNat = true) := by
  by_cases h : cw P s p s.size < s.size
  · exact cw_end P s s.size p h
  · intro g; omega
theorem cw_in (P : Nat → Bool) (s : ByteArray) (p : Nat) (hp : p ≤ s.size) : p + cw P s p s.size ≤ s.size := by
  rcases Nat.eq_zero_or_pos (cw P s p s.size) with h | h
  · omega
  · have := (cw_all P s s.size p (cw P s p s.size - 1) (by omega)).1
    omega
theorem cw_ext (P : Nat → Bool) (s : ByteArray) (p q : Nat) (h : p + q ≤ s.size) : cw P (s.extract p s.size) q (s.extract p s.size).size = cw P s (p + q) s.size := by
  have hz := size_ext s p (by omega)
  have hl := cw_in P s (p + q) h
  refine cw_is (by omega) (fun j hj => ?_) ?_
  · rw [get!_extract, ← Nat.add_assoc]; exact (cw_all P s s.size (p + q) j hj).2
  · rw [get!_extract, hz, ← Nat.add_assoc]
    intro g
    exact cw_stop P s (p + q) ⟨by omega, g.2⟩
theorem ln_ext (s : ByteArray) (p q : Nat) (h : p + q ≤ s.size) : ln (s.extract p s.size) q = ln s (p + q) := cw_ext _ s p q h

theorem bc_fuel (s : ByteArray) : ∀ f g q, s.size ≤ q + f → s.size ≤ q + g → bc s q f = bc s q g
  | 0, 0, _, _, _ => rfl
  | 0, g + 1, q, h, _ => by rw [bc, bc, if_neg (by omega)]
  | f + 1, 0, q, _, h => by rw [bc, bc, if_neg (by omega)]
  | f + 1, g + 1, q, h, h' => by rw [bc, bc, bc_fuel s f g (q + 1) (by omega) (by omega)]
theorem bc_ext (s : ByteArray) (p : Nat) (hp : p ≤ s.size) : ∀ f q, bc (s.extract p s.size) q f = (bc s (p + q) f).map (· - p)
  | 0, _ => rfl
  | f + 1, q => by
    have hz := size_ext s p hp
    have ih := bc_ext s p hp f (q + 1)
    rw [bc, bc, get!_extract, get!_extract, hz, ih, show p + (q + 1) = p + q + 1 by omega]
    by_cases c : p + q + 1 < s.size
    · rw [if_pos c, if_pos (by omega)]
      by_cases d : (s.get! (p + q)).toNat = 42 ∧ (s.get! (p + q + 1)).toNat = 47
      · rw [if_pos d, if_pos d]; simp
      · rw [if_neg d, if_neg d]
    · rw [if_neg c, if_neg (by omega)]; rfl
theorem nval_ext (s : ByteArray) (p : Nat) : ∀ k q v, nval (s.extract p s.size) k q v = nval s k (p + q) v
  | 0, _, _ => rfl
  | k + 1, q, v => by rw [nval, nval, get!_extract, nval_ext s p k (q + 1), Nat.add_assoc]
theorem lit_fuel (s : ByteArray) : ∀ f g i acc, s.size < i + f → s.size < i + g → lit s f i acc = lit s g i acc
  | 0, 0, _, _, _, _ => rfl
  | 0, g + 1, i, acc, h, _ => by rw [lit_end (by omega), lit_end (by omega)]
  | f + 1, 0, i, acc, _, h => by rw [lit_end (by omega), lit_end (by omega)]
  | f + 1, g + 1, i, acc, h, h' => by
    rw [lit, lit, lit_fuel s f g (i + 1) _ (by omega) (by omega), lit_fuel s f g (i + 1 + (esc s (i + 1)).2) _ (by omega) (by omega)]
theorem lit_ext (s : ByteArray) (p : Nat) (hp : p ≤ s.size) : ∀ f i acc, lit (s.extract p s.size) f i acc = (lit s f (p + i) acc).map (fun x => (x.1, x.2 - p))
  | 0, _, _ => rfl
  | f + 1, i, acc => by
    have hz := size_ext s p hp
    rw [lit, lit, get!_extract, hz, esc_ext s p (i + 1) hp, lit_ext s p hp f, lit_ext s p hp f, show p + (i + 1) = p + i + 1 by omega]
    rw [show p + (i + 1 + (esc s (p + i + 1)).2) = p + i + 1 + (esc s (p + i + 1)).2 by omega]
    by_cases h1 : s.size ≤ p + i
    · rw [if_pos h1, if_pos (by omega)]; rfl
    rw [if_neg h1, if_neg (by omega)]
    by_cases h2 : (s.get! (p + i)).toNat = 34
    · rw [if_pos h2, if_pos h2]
      simp
      omega
    rw [if_neg h2, if_neg h2]
    by_cases h3 : (s.get! (p + i)).toNat = 10
    · rw [if_pos h3, if_pos h3]; rfl
    rw [if_neg h3, if_neg h3]
    by_cases h4 : (s.get! (p + i)).toNat = 92
    · rw [if_pos h4, if_pos h4]
      by_cases h5 : (esc s (p + i + 1)).2 = 0
      · rw [if_pos h5, if_pos h5]; rfl
      · rw [if_neg h5, if_neg h5]
    · rw [if_neg h4, if_neg h4]
theorem litRes_ext (s : ByteArray) (p : Nat) (hp : p < s.size) : (litRes (s.extract p s.size) 0).2 = (litRes s p).2 := by
  have hz := size_ext s p (by omega)
  unfold litRes litAt
  rw [get!_extract, hz, lit_ext s p (by omega), Nat.add_zero, lit_fuel s (s.size - p + 1) (s.size + 1) (p + (0 + 1)) [] (by omega) (by omega)]
  by_cases h : s.size ≤ p ∨ (s.get! p).toNat ≠ 34
  · rw [if_pos h, if_pos (by rcases h with h | h; exact .inl (by omega); exact .inr h)]
  · rw [if_neg h, if_neg (by rintro (g | g); exact h (.inl (by omega)); exact h (.inr g))]
    rw [show p + (0 + 1) = p + 1 by omega]
    cases e : lit s (s.size + 1) (p + 1) [] with
    | none => rfl
    | some x => obtain ⟨l, q⟩ := x; rfl
theorem sg_ext (s : ByteArray) (p : Nat) (hp : p < s.size) : sg (s.extract p s.size) 0 = sg s p := by
  have hz := size_ext s p (by omega)
  unfold sg
  rw [get!_extract, get!_extract, hz, Nat.add_zero, Nat.zero_add]
  by_cases h : p + 2 ≤ s.size ∧ sl2.contains [s.get! p, s.get! (p + 1)] = true
  · rw [if_pos h, if_pos ⟨by omega, h.2⟩]
  · rw [if_neg h, if_neg (fun g => h ⟨by omega, g.2⟩)]; rfl

/-- A piece by the program's way is a blank or a token by the specification's. -/
theorem piece_spec (s : ByteArray) (p : Nat) (hp : p < s.size) (k n : Nat) (hk : pk (s.extract p s.size) = k) (hn : psz k (s.extract p s.size) = n) :
    (n = 0 → ¬ 0 < bl s p ∧ (bl s p < 0 ∨ (tok s p).2 = 0)) ∧ (n ≠ 0 → k < 3 → bl s p = (n : Int)) ∧ (n ≠ 0 → 3 ≤ k → bl s p = 0 ∧ tok s p = (tkd k (s.extract p (p + n)), n)) ∧ k ≤ 6 := by
  have hz := size_ext s p (by omega)
  have g0 : (s.extract p s.size).get! 0 = s.get! p := get!_extract s p 0
  have g1 : (s.extract p s.size).get! 1 = s.get! (p + 1) := get!_extract s p 1
  have hrun := run_ext s p (by omega)
  have hrl := run_le s p (by omega)
  unfold pk at hk
  rw [g0, g1, hz] at hk
  by_cases hb : (s.get! p).toNat = 32 ∨ (s.get! p).toNat = 9 ∨ (s.get! p).toNat = 13 ∨ (s.get! p).toNat = 10
  · rw [if_pos hb] at hk
    subst hk
    have e : n = 1 := hn.symm
    subst e
    have hbl : bl s p = 1 := by unfold bl; rw [if_pos hb]
    exact ⟨fun h => by omega, fun _ _ => hbl, fun _ h => by omega, by omega⟩
  rw [if_neg hb] at hk
  by_cases hl : 2 ≤ s.size - p ∧ s.get! p = 47 ∧ s.get! (p + 1) = 47
  · rw [if_pos hl] at hk
    subst hk
    have e : 2 + ln s (p + 2) = n := by rw [← ln_ext s p 2 (by omega)]; exact hn
    have hbl : bl s p = (n : Int) := by
      unfold bl
      rw [if_neg hb, if_neg (by rw [hl.2.1]; rintro (g | g); exact g rfl; omega), if_pos (by rw [hl.2.2]; rfl), e]
    exact ⟨fun h => by omega, fun _ _ => hbl, fun _ h => by omega, by omega⟩
  rw [if_neg hl] at hk
  by_cases hbk : 2 ≤ s.size - p ∧ s.get! p = 47 ∧ s.get! (p + 1) = 42
  · rw [if_pos hbk] at hk
    subst hk
    have hbl : bl s p = bcl p (bc s (p + 2) s.size) := by
      unfold bl
      rw [if_neg hb, if_neg (by rw [hbk.2.1]; rintro (g | g); exact g rfl; omega), if_neg (by rw [hbk.2.2]; decide), if_neg (by rw [hbk.2.2]; decide)]
    have e : bsz ((bc s (p + 2) s.size).map (· - p)) = n := by
      rw [← hn, ← bc_fuel s (s.extract p s.size).size s.size (p + 2) (by omega) (by omega), ← bc_ext s p (by omega)]; rfl
    cases hx : bc s (p + 2) s.size with
    | none =>
      rw [hx] at e hbl
      have e0 : n = 0 := e.symm
      have hb1 : bl s p = -1 := hbl
      exact ⟨fun _ => ⟨by omega, .inl (by omega)⟩, fun h => absurd e0 h, fun h => absurd e0 h, by omega⟩
    | some q =>
      rw [hx] at e hbl
      have hq := bc_le s _ _ _ hx
      have e0 : q - p + 2 = n := e
      have hb1 : bl s p = ((q - p + 2 : Nat) : Int) := hbl
      exact ⟨fun h => by omega, fun _ _ => by rw [hb1, e0], fun _ h => by omega, by omega⟩
  rw [if_neg hbk] at hk
  have hbl0 : bl s p = 0 := by
    unfold bl
    rw [if_neg hb]
    by_cases c : (s.get! p).toNat ≠ 47 ∨ s.size ≤ p + 1
    · rw [if_pos c]
    · rw [if_neg c]
      have c47 : s.get! p = 47 := UInt8.toNat_inj.1 (by have : (47 : UInt8).toNat = 47 := rfl; omega)
      have n47 : ¬ (s.get! (p + 1)).toNat = 47 := fun g => hl ⟨by omega, c47, UInt8.toNat_inj.1 g⟩
      have n42 : (s.get! (p + 1)).toNat ≠ 42 := fun g => hbk ⟨by omega, c47, UInt8.toNat_inj.1 g⟩
      rw [if_neg n47, if_pos n42]
  by_cases hd : isD (s.get! p).toNat = true
  · rw [if_pos hd] at hk
    subst hk
    have hnl : isL (s.get! p).toNat = false := by
      have := (isD_iff _).1 hd
      rw [Bool.eq_false_iff]; intro g
      have := (isL_iff _).1 g
      omega
    have hpos : 0 < run s p := by
      rcases Nat.eq_zero_or_pos (run s p) with g | g
      · have := run_end s p
        rw [g] at this
        exact absurd ⟨by omega, (isR_iff _).2 (.inr hd)⟩ this
      · exact g
    have e : (if nval s (run s p) p 0 < 0 then 0 else run s p) = n := by
      rw [← hn]
      show _ = nsz _
      unfold nsz
      rw [hrun, nval_ext, Nat.add_zero]
    have ht : tok s p = (if nval s (run s p) p 0 < 0 then (0, 0) else (3, run s p)) := by unfold tok; rw [if_neg (by rw [hnl]; decide), if_pos hpos]
    by_cases hneg : nval s (run s p) p 0 < 0
    · rw [if_pos hneg] at e ht
      exact ⟨fun _ => ⟨by omega, .inr (by rw [ht])⟩, fun h => absurd e.symm h, fun h => absurd e.symm h, by omega⟩
    · rw [if_neg hneg] at e ht
      exact ⟨fun h => by omega, fun _ h => by omega, fun _ _ => ⟨hbl0, by rw [ht, e]; rfl⟩, by omega⟩
  rw [if_neg hd] at hk
  by_cases hr : isR (s.get! p).toNat = true
  · rw [if_pos hr] at hk
    subst hk
    have hL : isL (s.get! p).toNat = true := by
      rcases (isR_iff _).1 hr with g | g
      · exact g
      · exact absurd g hd
    have e : run s p = n := by rw [← hn, ← hrun]; rfl
    have hpos : 0 < run s p := by
      rcases Nat.eq_zero_or_pos (run s p) with g | g
      · have := run_end s p
        rw [g] at this
        exact absurd ⟨by omega, hr⟩ this
      · exact g
    have ht : tok s p = (if isW (s.extract p (p + run s p)) = true then 2 else 1, run s p) := by unfold tok; rw [if_pos hL]
    exact ⟨fun h => by omega, fun _ h => by omega, fun _ _ => ⟨hbl0, by rw [ht, e]; rfl⟩, by omega⟩
  rw [if_neg hr] at hk
  have hnl : isL (s.get! p).toNat = false := by rw [Bool.eq_false_iff]; intro g; exact hr ((isR_iff _).2 (.inl g))
  have hr0 : run s p = 0 := run_is (by omega) (fun j hj => absurd hj (Nat.not_lt_zero _)) (fun g => hr g.2)
  by_cases h34 : (s.get! p).toNat = 34
  · rw [if_pos h34] at hk
    subst hk
    have e : (litRes s p).2 = n := by rw [← litRes_ext s p hp]; exact hn
    have ht : tok s p = (4, (litRes s p).2) := by unfold tok; rw [if_neg (by rw [hnl]; decide), if_neg (by omega), if_pos h34]
    exact ⟨fun h => ⟨by omega, .inr (by rw [ht, e]; exact h)⟩, fun _ h => by omega, fun _ _ => ⟨hbl0, by rw [ht, e]; rfl⟩, by omega⟩
  rw [if_neg h34] at hk
  subst hk
  have e : sg s p = n := by rw [← sg_ext s p hp]; exact hn
  have ht : tok s p = (if sg s p = 0 then (0, 0) else (5, sg s p)) := by unfold tok; rw [if_neg (by rw [hnl]; decide), if_neg (by omega), if_neg h34]
  by_cases h0 : sg s p = 0
  · rw [if_pos h0] at ht
    exact ⟨fun _ => ⟨by omega, .inr (by rw [ht])⟩, fun h => by omega, fun h => by omega, by omega⟩
  · rw [if_neg h0] at ht
    exact ⟨fun h => by omega, fun _ h => by omega, fun _ _ => ⟨hbl0, by rw [ht, e]; rfl⟩, by omega⟩
end Go.Proofs.YteojiblglbmmdaaGreatDoor
