/-
  Plain facts: a literal that QuoteText writes is read back as the text. No run of the program stands in this text.
-/
import Derived.Test.YteojiblglbmmdaaGreatDoorJFTextsLX
namespace Go.Proofs.YteojiblglbmmdaaGreatDoor
open Go.RowKit

/-- Where in its literal the k-th byte of a text begins. -/
def pl (s : ByteArray) (k : Nat) : Nat := (qTo s k).length
theorem pl_zero (s : ByteArray) : pl s 0 = 1 := rfl
theorem pl_succ (s : ByteArray) (k : Nat) : pl s (k + 1) = pl s k + (qb (s.get! k).toNat).length := by unfold pl; rw [qTo, List.length_append]
theorem qb_pos (c : Nat) : 0 < (qb c).length := by unfold qb; (repeat' split) <;> simp
theorem pl_mono (s : ByteArray) (k : Nat) : ∀ d, pl s k ≤ pl s (k + d)
  | 0 => Nat.le_refl _
  | d + 1 => by have := pl_mono s k d; rw [← Nat.add_assoc, pl_succ]; omega
theorem pl_lt {s : ByteArray} {k m : Nat} (h : k < m) : pl s k + (qb (s.get! k).toNat).length ≤ pl s m := by
  obtain ⟨d, rfl⟩ : ∃ d, m = k + 1 + d := ⟨m - k - 1, by omega⟩
  have := pl_mono s (k + 1) d
  rw [pl_succ] at this; exact this

/-- q is the literal of s. -/
structure QX (s q : ByteArray) : Prop where
  size : q.size = pl s s.size + 1
  at_ : ∀ k, k < s.size → ∀ j, j < (qb (s.get! k).toNat).length → (q.get! (pl s k + j)).toNat = (qb (s.get! k).toNat).getD j 0
  fst : (q.get! 0).toNat = 34
  lst : (q.get! (pl s s.size)).toNat = 34

theorem qTo_at (s : ByteArray) (k j : Nat) (hj : j < (qb (s.get! k).toNat).length) : ∀ m, k < m → (qTo s m).getD (pl s k + j) 0 = (qb (s.get! k).toNat).getD j 0
  | 0, h => absurd h (Nat.not_lt_zero _)
  | m + 1, h => by
    rw [qTo]
    by_cases e : k = m
    · subst e
      unfold pl
      simp only [List.getD]
      rw [List.getElem?_append_right (by omega), Nat.add_sub_cancel_left]
    · have hk : k < m := by omega
      have hp := pl_lt (s := s) hk
      have ih := qTo_at s k j hj m hk
      simp only [List.getD] at ih ⊢
      rw [List.getElem?_append_left (by show _ < pl s m; omega)]
      exact ih
theorem qTo_fst (s : ByteArray) : ∀ m, (qTo s m).getD 0 0 = 34
  | 0 => rfl
  | m + 1 => by
    have ih := qTo_fst s m
    rw [qTo]
    simp only [List.getD] at ih ⊢
    rw [List.getElem?_append_left (by have := pl_mono s 0 m; rw [pl_zero, Nat.zero_add] at this; exact this)]
    exact ih

theorem QX.mk' {s q : ByteArray} (hz : q.size = (qTo s s.size ++ [34]).length) (h : ∀ j, j < q.size → (q.get! j).toNat = (qTo s s.size ++ [34]).getD j 0) : QX s q := by
  have hz' : q.size = pl s s.size + 1 := by rw [hz, List.length_append]; rfl
  have h1 := pl_mono s 0 s.size
  rw [pl_zero, Nat.zero_add] at h1
  refine ⟨hz', fun k hk j hj => ?_, ?_, ?_⟩
  · have := pl_lt (s := s) hk
    have e := qTo_at s k j hj s.size hk
    rw [h _ (by omega), ← e]
    simp only [List.getD]
    rw [List.getElem?_append_left (by show _ < pl s s.size; omega)]
  · have e := qTo_fst s s.size
    rw [h 0 (by omega), ← e]
    simp only [List.getD]
    rw [List.getElem?_append_left (by show _ < pl s s.size; omega)]
  · rw [h _ (by omega)]
    simp only [List.getD, pl]
    rw [List.getElem?_append_right (Nat.le_refl _), Nat.sub_self]
    rfl

/-- The bytes from k on. -/
def bys (s : ByteArray) (k : Nat) : Nat → List Nat
  | 0 => []
  | d + 1 => (s.get! k).toNat :: bys s (k + 1) d
theorem bys_length (s : ByteArray) : ∀ d k, (bys s k d).length = d
  | 0, _ => rfl
  | d + 1, k => by rw [bys, List.length_cons, bys_length s d]
theorem bys_at (s : ByteArray) : ∀ d k j, j < d → (bys s k d).getD j 0 = (s.get! (k + j)).toNat
  | 0, _, _, h => absurd h (Nat.not_lt_zero _)
  | d + 1, k, 0, _ => rfl
  | d + 1, k, j + 1, h => by
    have := bys_at s d (k + 1) j (by omega)
    rw [bys, show k + (j + 1) = k + 1 + j by omega, ← this]; rfl

theorem hd_dg {k : Nat} (h : k < 16) : hd (dg k) = (k : Int) := by
  unfold hd dg
  by_cases h1 : k < 10
  · rw [if_pos h1, if_pos (by omega)]; omega
  · rw [if_neg h1, if_neg (by omega), if_pos (by omega)]; omega
theorem dg_low {k : Nat} (h : k < 16) : dg k < 128 := by unfold dg; split <;> omega

/-- A byte that is written with its number in hexadecimal digits. -/
theorem esc_hex {q : ByteArray} {P c : Nat} (hc : c < 32 ∨ c = 127) (hP : P + ([92, 117, 123] ++ hexL c ++ [125]).length ≤ q.size) (h : ∀ j, j < ([92, 117, 123] ++ hexL c ++ [125]).length → (q.get! (P + j)).toNat = ([92, 117, 123] ++ hexL c ++ [125]).getD j 0) :
    (q.get! P).toNat = 92 ∧ esc q (P + 1) = ([c], (hexL c).length + 3) := by
  by_cases h16 : c < 16
  · have hl : hexL c = [dg c] := by unfold hexL; rw [if_pos h16]
    rw [hl] at hP h ⊢
    simp only [List.cons_append, List.nil_append, List.length_cons, List.length_nil] at hP h
    have q0 : (q.get! P).toNat = 92 := h 0 (by omega)
    have q1 : (q.get! (P + 1)).toNat = 117 := h 1 (by omega)
    have q2 : (q.get! (P + 1 + 1)).toNat = 123 := h 2 (by omega)
    have q3 : (q.get! (P + 1 + 2)).toNat = dg c := h 3 (by omega)
    have q4 : (q.get! (P + 1 + 2 + 1)).toNat = 125 := h 4 (by omega)
    have d0 := hd_dg h16
    have hk : kc q (P + 1 + 2) 7 = 1 := by
      rw [kc, if_pos ⟨by omega, by rw [q3, d0]; omega⟩, kc, if_neg]
      rintro ⟨_, g⟩
      rw [q4] at g; exact absurd g (by decide)
    have hh : hv q (P + 1 + 2) 1 = c := by
      rw [hv, hv, Nat.add_zero, q3, d0]; omega
    refine ⟨q0, ?_⟩
    unfold esc
    rw [if_neg (by omega), if_neg (by omega), if_neg (by omega), hk, hh, if_neg]
    · unfold ubytes; rw [if_pos (by omega)]; rfl
    · rintro (g | g | g | g | g)
      · omega
      · omega
      · omega
      · exact g q4
      · rw [Bool.eq_false_iff] at g; exact g ((pointB_nat c).2 (by omega))
  · have hl : hexL c = [dg (c / 16), dg (c % 16)] := by unfold hexL; rw [if_neg h16]
    rw [hl] at hP h ⊢
    simp only [List.cons_append, List.nil_append, List.length_cons, List.length_nil] at hP h
    have q0 : (q.get! P).toNat = 92 := h 0 (by omega)
    have q1 : (q.get! (P + 1)).toNat = 117 := h 1 (by omega)
    have q2 : (q.get! (P + 1 + 1)).toNat = 123 := h 2 (by omega)
    have q3 : (q.get! (P + 1 + 2)).toNat = dg (c / 16) := h 3 (by omega)
    have q4 : (q.get! (P + 1 + 2 + 1)).toNat = dg (c % 16) := h 4 (by omega)
    have q5 : (q.get! (P + 1 + 2 + 1 + 1)).toNat = 125 := h 5 (by omega)
    have d0 := hd_dg (show c / 16 < 16 by omega)
    have d1 := hd_dg (show c % 16 < 16 by omega)
    have hk : kc q (P + 1 + 2) 7 = 2 := by
      rw [kc, if_pos ⟨by omega, by rw [q3, d0]; omega⟩, kc, if_pos ⟨by omega, by rw [q4, d1]; omega⟩, kc, if_neg]
      rintro ⟨_, g⟩
      rw [q5] at g; exact absurd g (by decide)
    have hh : hv q (P + 1 + 2) 2 = c := by
      rw [hv, hv, hv, Nat.add_zero, q3, d0, q4, d1]; omega
    refine ⟨q0, ?_⟩
    unfold esc
    rw [if_neg (by omega), if_neg (by omega), if_neg (by omega), hk, hh, if_neg]
    · unfold ubytes; rw [if_pos (by omega)]; rfl
    · rintro (g | g | g | g | g)
      · omega
      · omega
      · omega
      · exact g q5
      · rw [Bool.eq_false_iff] at g; exact g ((pointB_nat c).2 (by omega))

/-- A literal is read back. -/
theorem lit_back {s q : ByteArray} (h : QX s q) : ∀ d k f acc, k + d = s.size → q.size < pl s k + f → lit q f (pl s k) acc = some (acc ++ bys s k d, q.size)
  | 0, k, f, acc, hd0, hf => by
    have e : k = s.size := by omega
    subst e
    have hz := h.size
    rw [lit_quote hf (by omega) h.lst, bys, List.append_nil, hz]
  | d + 1, k, f, acc, hd1, hf => by
    have hk : k < s.size := by omega
    have hz := h.size
    have hle := pl_lt (s := s) hk
    have hat := h.at_ k hk
    have hsc := pl_succ s k
    obtain ⟨c, hc⟩ : ∃ c, (s.get! k).toNat = c := ⟨_, rfl⟩
    have hb : bys s k (d + 1) = c :: bys s (k + 1) d := by rw [bys, hc]
    rw [hc] at hle hat hsc
    have ih := fun f acc => lit_back h d (k + 1) f acc (by omega)
    rw [hb]
    by_cases h1 : c = 34 ∨ c = 92
    · have hq : qb c = [92, c] := by unfold qb; rw [if_pos h1]
      rw [hq] at hle hat hsc
      simp only [List.length_cons, List.length_nil] at hle hat hsc
      have q0 : (q.get! (pl s k)).toNat = 92 := hat 0 (by omega)
      have q1 : (q.get! (pl s k + 1)).toNat = c := hat 1 (by omega)
      have he : esc q (pl s k + 1) = ([c], 1) := by
        unfold esc; rw [if_neg (by omega), if_pos (by omega), q1]
      obtain ⟨g, rfl, hl⟩ := (lit_esc (acc := acc) hf (by omega) q0).2 (by rw [he]; simp)
      rw [hl, he]
      have := ih g (acc ++ [c]) (by omega)
      rw [hsc] at this
      rw [show pl s k + 1 + 1 = pl s k + (0 + 1 + 1) by omega, this, List.append_assoc]
      rfl
    by_cases h2 : c < 32 ∨ c = 127
    · have hq : qb c = [92, 117, 123] ++ hexL c ++ [125] := by unfold qb; rw [if_neg h1, if_pos h2]
      rw [hq] at hle hat hsc
      obtain ⟨q0, he⟩ := esc_hex h2 (by omega) hat
      obtain ⟨g, rfl, hl⟩ := (lit_esc (acc := acc) hf (by have := qb_pos c; rw [hq] at this; omega) q0).2 (by rw [he]; simp)
      have hlen : ([92, 117, 123] ++ hexL c ++ [125]).length = 1 + ((hexL c).length + 3) := by simp; omega
      rw [hlen] at hsc
      have := ih g (acc ++ [c]) (by omega)
      rw [hsc] at this
      rw [hl, he, show pl s k + 1 + ((hexL c).length + 3) = pl s k + (1 + ((hexL c).length + 3)) by omega, this, List.append_assoc]
      rfl
    · have hq : qb c = [c] := by unfold qb; rw [if_neg h1, if_neg h2]
      rw [hq] at hle hat hsc
      simp only [List.length_cons, List.length_nil] at hle hat hsc
      have q0 : (q.get! (pl s k)).toNat = c := hat 0 (by omega)
      obtain ⟨g, rfl, hl⟩ := lit_byte (acc := acc) hf (by omega) (by omega) (by omega) (by omega)
      have := ih g (acc ++ [c]) (by omega)
      rw [hsc] at this
      rw [hl, q0, show pl s k + 1 = pl s k + (0 + 1) by omega, this, List.append_assoc]
      rfl
theorem litRes_back {s q : ByteArray} (h : QX s q) : litRes q 0 = (bys s 0 s.size, q.size) := by
  have hz := h.size
  have e := lit_back h s.size 0 (q.size + 1) [] (by omega) (by rw [pl_zero]; omega)
  rw [pl_zero] at e
  unfold litRes litAt
  rw [if_neg (by rw [h.fst]; omega), e]
  rfl
end Go.Proofs.YteojiblglbmmdaaGreatDoor
