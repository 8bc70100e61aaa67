/-
  Plainly: a token alone is that token, and between tokens there is none.
-/
import Derived.Test.YthoinjddamlapaaGreatDoorJToLP
import Derived.Test.YthoinjddamlapaaGreatDoorJToIP3
namespace Go.Proofs.YthoinjddamlapaaGreatDoor
open Go.RowKit

theorem vacc_congr {g g' : Nat → Nat} (v0 : Nat) : ∀ m, (∀ k, k ≤ m → g k = g' k) → vacc g v0 m = vacc g' v0 m
  | 0, _ => rfl
  | m + 1, h => by rw [vacc, vacc, vacc_congr v0 m (fun k hk => h k (by omega)), h (m + 1) (Nat.le_refl _)]
theorem okc_cut {s t : ByteArray} {p q n v0 : Nat} (hb : ∀ k, k < n → bk t q k = bk s p k) (hn : 1 ≤ n) (hq : q + n ≤ t.size) (h : okc s p n v0) : okc t q n v0 ∧ vacc (bk t q) v0 (n - 1) = vacc (bk s p) v0 (n - 1) := by
  have e := vacc_congr (g := bk t q) (g' := bk s p) v0 (n - 1) (fun k hk => hb k (by omega))
  exact ⟨⟨hq, fun j h1 h2 => by rw [hb j h2]; exact h.2.1 j h1 h2, by rw [e]; exact h.2.2.1, by rw [e]; exact h.2.2.2⟩, e⟩
/-- A character within a piece. -/
theorem chr_cut (s : ByteArray) (a b q : Nat) (hb : b ≤ s.size) (hq : a + q < b) (hn : (chr s (a + q)).1 ≠ 0) (hl : a + q + (chr s (a + q)).1 ≤ b) : chr (s.extract a b) q = chr s (a + q) := by
  have hz := size_ext2 s a b hb
  have hk : ∀ k, a + q + k < b → bk (s.extract a b) q k = bk s (a + q) k := fun k h => by
    show ((s.extract a b).get! (q + k)).toNat = (s.get! (a + q + k)).toNat
    rw [get!_ext2 s a b (q + k) hb (by omega), Nat.add_assoc]
  have h0 := hk 0 (by omega)
  have hps : a + q < s.size := by omega
  have hqs : q < (s.extract a b).size := by omega
  by_cases c1 : bk s (a + q) 0 < 128
  · rw [chr_ascii s _ c1, chr_ascii _ q (by omega), h0]
  by_cases c2 : bk s (a + q) 0 < 192 ∨ 248 ≤ bk s (a + q) 0
  · rw [chr_none s _ (by omega) c2] at hn; exact absurd rfl hn
  have fin : ∀ (n v0 : Nat), 1 ≤ n → okc s (a + q) n v0 → chr s (a + q) = (n, vacc (bk s (a + q)) v0 (n - 1)) → (okc (s.extract a b) q n v0 → chr (s.extract a b) q = (n, vacc (bk (s.extract a b) q) v0 (n - 1))) → chr (s.extract a b) q = chr s (a + q) := fun n v0 h1 ho he ht => by
    rw [he] at hl
    obtain ⟨k1, k2⟩ := okc_cut (t := s.extract a b) (q := q) (fun k hk' => hk k (by simp only at hl; omega)) h1 (by simp only at hl; omega) ho
    rw [ht k1, k2, he]
  by_cases c3 : bk s (a + q) 0 < 224
  · obtain ⟨x1, x2⟩ := chr_two s (a + q) hps (by omega) c3
    obtain ⟨y1, _⟩ := chr_two (s.extract a b) q hqs (by omega) (by omega)
    by_cases ho : okc s (a + q) 2 (bk s (a + q) 0 - 192)
    · rw [h0] at y1; exact fin 2 _ (by omega) ho (x1 ho) y1
    · rw [x2 ho] at hn; exact absurd rfl hn
  by_cases c4 : bk s (a + q) 0 < 240
  · obtain ⟨x1, x2⟩ := chr_three s (a + q) hps (by omega) c4
    obtain ⟨y1, _⟩ := chr_three (s.extract a b) q hqs (by omega) (by omega)
    by_cases ho : okc s (a + q) 3 (bk s (a + q) 0 - 224)
    · rw [h0] at y1; exact fin 3 _ (by omega) ho (x1 ho) y1
    · rw [x2 ho] at hn; exact absurd rfl hn
  · obtain ⟨x1, x2⟩ := chr_four s (a + q) hps (by omega) (by omega)
    obtain ⟨y1, _⟩ := chr_four (s.extract a b) q hqs (by omega) (by omega)
    by_cases ho : okc s (a + q) 4 (bk s (a + q) 0 - 240)
    · rw [h0] at y1; exact fin 4 _ (by omega) ho (x1 ho) y1
    · rw [x2 ho] at hn; exact absurd rfl hn
theorem chr_fit {s : ByteArray} {p : Nat} (hp : p < s.size) (hn : (chr s p).1 ≠ 0) : p + (chr s p).1 ≤ s.size := by
  by_cases c1 : bk s p 0 < 128
  · rw [chr_ascii s _ c1]; show p + 1 ≤ _; omega
  by_cases c2 : bk s p 0 < 192 ∨ 248 ≤ bk s p 0
  · rw [chr_none s _ (by omega) c2] at hn; exact absurd rfl hn
  by_cases c3 : bk s p 0 < 224
  · obtain ⟨x1, x2⟩ := chr_two s p hp (by omega) c3
    by_cases ho : okc s p 2 (bk s p 0 - 192)
    · rw [x1 ho]; exact ho.1
    · rw [x2 ho] at hn; exact absurd rfl hn
  by_cases c4 : bk s p 0 < 240
  · obtain ⟨x1, x2⟩ := chr_three s p hp (by omega) c4
    by_cases ho : okc s p 3 (bk s p 0 - 224)
    · rw [x1 ho]; exact ho.1
    · rw [x2 ho] at hn; exact absurd rfl hn
  · obtain ⟨x1, x2⟩ := chr_four s p hp (by omega) (by omega)
    by_cases ho : okc s p 4 (bk s p 0 - 240)
    · rw [x1 ho]; exact ho.1
    · rw [x2 ho] at hn; exact absurd rfl hn
theorem bnd_step {s : ByteArray} {p : Nat} (hp : p < s.size) (h : bnd s p) : (chr s p).1 ≠ 0 ∧ bnd s (p + (chr s p).1) := by
  obtain ⟨c, hc, he⟩ := h
  have hne : (chr s p).1 ≠ 0 := fun e0 => by rw [chkAt_bad hp hc e0] at he; cases he
  obtain ⟨g, hg, hst⟩ := chkAt_good hp hc hne
  exact ⟨hne, g, by omega, by rw [← hst]; exact he⟩
/-- A piece of a well-formed text is well-formed, where it ends ahead of a plain byte. -/
theorem chk_cut (s : ByteArray) (a b : Nat) (hb : b ≤ s.size) (hB : b = s.size ∨ (s.get! b).toNat < 128) : ∀ f q, a + q ≤ b → bnd s (a + q) → b - a < q + f → chkAt (s.extract a b) f q = (0, 0)
  | 0, q, hq, _, hf => by omega
  | f + 1, q, hq, h, hf => by
    have hz := size_ext2 s a b hb
    by_cases e : a + q = b
    · exact chkAt_end (by omega)
    obtain ⟨hne, hn⟩ := bnd_step (s := s) (p := a + q) (by omega) h
    have hle : a + q + (chr s (a + q)).1 ≤ b := by
      rcases Nat.lt_or_ge b (a + q + (chr s (a + q)).1) with g | g
      · exfalso
        have hfit := chr_fit (s := s) (p := a + q) (by omega) hne
        rcases hB with hB | hB
        · omega
        · have h0 : 128 ≤ bk s (a + q) 0 := by
            rcases Nat.lt_or_ge (bk s (a + q) 0) 128 with c | c
            · rw [chr_ascii s _ c] at g; simp only at g; omega
            · exact c
          have := chr_high s (a + q) (by omega) hne h0 (b - (a + q)) (by omega)
          unfold bk at this
          rw [show a + q + (b - (a + q)) = b by omega] at this
          omega
      · exact g
    rw [chkAt, if_pos (by omega), chr_cut s a b q hb (by omega) hne hle, if_neg hne]
    refine chk_cut s a b hb hB f _ (by omega) ?_ (by omega)
    rw [← Nat.add_assoc]; exact hn
theorem bnd_end (s : ByteArray) : bnd s s.size := ⟨1, by omega, chkAt_end (by omega)⟩
theorem bnd_low {s : ByteArray} {q : Nat} (h : chk s = (0, 0)) (hq : q ≤ s.size) (hl : q = s.size ∨ (s.get! q).toNat < 128) : bnd s q := by
  rcases hl with rfl | hl
  · exact bnd_end s
  · rcases bnd_any s q 0 q (by omega) ⟨s.size + 1, by omega, h⟩ (Nat.zero_le _) hq with g | g
    · exact g
    · omega
theorem piece_ok {s : ByteArray} {a b : Nat} (h : chk s = (0, 0)) (hab : a ≤ b) (hb : b ≤ s.size) (hA : a = s.size ∨ (s.get! a).toNat < 128) (hB : b = s.size ∨ (s.get! b).toNat < 128) : chk (s.extract a b) = (0, 0) := by
  unfold chk
  rw [size_ext2 s a b hb]
  exact chk_cut s a b hb hB _ 0 (by omega) (bnd_low h (by omega) (by rw [Nat.add_zero]; exact hA)) (by omega)

/-- From a to b there are blanks and comments alone. -/
inductive Gp (s : ByteArray) : Nat → Nat → Prop
  | nil (a : Nat) : Gp s a a
  | cons {a b : Nat} : a < s.size → 0 < bl s a → Gp s (a + (bl s a).toNat) b → Gp s a b
theorem Gp.le {s : ByteArray} {a b : Nat} (h : Gp s a b) : a ≤ b := by
  induction h with
  | nil a => exact Nat.le_refl _
  | cons h1 h2 _ ih => omega
theorem bl_ascii {s : ByteArray} {p : Nat} (h : 0 < bl s p) : (s.get! p).toNat < 128 := by
  unfold bl at h
  split at h
  · omega
  · split at h
    · omega
    · omega
/-- The tokens from a on. -/
inductive TkL (s : ByteArray) : Nat → List (Nat × Nat × Nat) → Prop
  | nil {a : Nat} : Gp s a s.size → TkL s a []
  | cons {a p : Nat} {T : List (Nat × Nat × Nat)} : Gp s a p → p < s.size → bl s p = 0 → (tok s p).2 ≠ 0 → TkL s (p + (tok s p).2) T → TkL s a (((tok s p).1, p, (tok s p).2) :: T)
theorem TkL.blank {s : ByteArray} {a : Nat} {T : List (Nat × Nat × Nat)} (h1 : a < s.size) (h2 : 0 < bl s a) (h : TkL s (a + (bl s a).toNat) T) : TkL s a T := by
  cases h with
  | nil h => exact .nil (.cons h1 h2 h)
  | cons h g1 g2 g3 g4 => exact .cons (.cons h1 h2 h) g1 g2 g3 g4
theorem lex_tk (s : ByteArray) : ∀ f p acc, p ≤ s.size → s.size < p + f → (lex s f p acc).2.1 = 0 → ∃ T, lex s f p acc = (acc ++ T, 0, 0) ∧ TkL s p T
  | 0, p, acc, hp, hf, _ => by omega
  | f + 1, p, acc, hp, hf, h => by
    by_cases c : p < s.size
    · have hb := bl_le s p c
      by_cases c1 : 0 < bl s p
      · rw [lex, if_pos c, if_pos c1] at h ⊢
        obtain ⟨T, e1, e2⟩ := lex_tk s f (p + (bl s p).toNat) acc (by omega) (by omega) h
        exact ⟨T, e1, e2.blank c c1⟩
      · rw [lex, if_pos c, if_neg c1] at h ⊢
        by_cases c2 : bl s p < 0
        · rw [if_pos c2] at h; cases h
        · rw [if_neg c2] at h ⊢
          by_cases c3 : (tok s p).2 = 0
          · rw [if_pos c3] at h; cases h
          · rw [if_neg c3] at h ⊢
            have ht := tok_le s p c
            obtain ⟨T, e1, e2⟩ := lex_tk s f (p + (tok s p).2) (acc ++ [((tok s p).1, p, (tok s p).2)]) (by omega) (by omega) h
            exact ⟨((tok s p).1, p, (tok s p).2) :: T, by rw [e1]; simp, .cons (.nil p) c (by omega) c3 e2⟩
    · have e : p = s.size := by omega
      rw [lex, if_neg c]
      exact ⟨[], by simp, .nil (e ▸ .nil p)⟩
theorem tok_ascii {s : ByteArray} {p : Nat} (_hp : p < s.size) (h : (tok s p).2 ≠ 0) : (s.get! p).toNat < 128 := by
  unfold tok at h
  split at h
  · rename_i g; have := (isL_iff _).1 g; omega
  · split at h
    · rename_i g
      have := (run_all s p 0 g).2
      exact isR_low this
    · split at h
      · omega
      · split at h
        · exact absurd rfl h
        · rename_i g
          unfold sg at g
          split at g
          · rename_i k
            have k2 := k.2
            rcases Nat.lt_or_ge (s.get! p).toNat 128 with c | c
            · exact c
            · exfalso
              have : ∀ x ∈ sl2, ((x.getD 0 0).toNat < 128) := by decide
              have := this _ (List.contains_iff_mem.1 k2)
              simp at this
              omega
          · split at g
            · rename_i k
              have : ∀ x ∈ sl1, x.toNat < 128 := by decide
              exact this _ (List.contains_iff_mem.1 k)
            · exact absurd rfl g
/-- Where a gap or a token begins, or the text ends, a plain byte stands. -/
theorem Gp.low {s : ByteArray} {a b : Nat} (h : Gp s a b) (hb : b = s.size ∨ (s.get! b).toNat < 128) : a = s.size ∨ (s.get! a).toNat < 128 := by
  cases h with
  | nil => exact hb
  | cons h1 h2 _ => exact .inr (bl_ascii h2)
theorem TkL.low {s : ByteArray} {a : Nat} {T : List (Nat × Nat × Nat)} (h : TkL s a T) : a = s.size ∨ (s.get! a).toNat < 128 := by
  cases h with
  | nil h => exact h.low (.inl rfl)
  | cons h g1 _ g3 _ => exact h.low (.inr (tok_ascii g1 g3))
theorem bc_inv (s : ByteArray) : ∀ f q r, bc s q f = some r → q ≤ r ∧ r + 1 < s.size ∧ (s.get! r).toNat = 42 ∧ (s.get! (r + 1)).toNat = 47 ∧ r - q < f ∧ ∀ j, j < r - q → ¬ ((s.get! (q + j)).toNat = 42 ∧ (s.get! (q + j + 1)).toNat = 47)
  | 0, _, _, h => by cases h
  | f + 1, q, r, h => by
    rw [bc] at h
    by_cases c : q + 1 < s.size
    · rw [if_pos c] at h
      by_cases d : (s.get! q).toNat = 42 ∧ (s.get! (q + 1)).toNat = 47
      · rw [if_pos d] at h
        injection h with h
        subst h
        exact ⟨Nat.le_refl _, c, d.1, d.2, by omega, fun j hj => by omega⟩
      · rw [if_neg d] at h
        obtain ⟨h1, h2, h3, h4, h5, h6⟩ := bc_inv s f (q + 1) r h
        refine ⟨by omega, h2, h3, h4, by omega, fun j hj => ?_⟩
        cases j with
        | zero => exact d
        | succ j =>
          have := h6 j (by omega)
          rw [show q + 1 + j = q + (j + 1) by omega] at this
          exact this
    · rw [if_neg c] at h; cases h
/-- A blank or a comment within a piece. -/
theorem bl_cut (s : ByteArray) (a b q : Nat) (hb : b ≤ s.size) (hq : a + q < b) (h : 0 < bl s (a + q)) (hl : a + q + (bl s (a + q)).toNat ≤ b) : bl (s.extract a b) q = bl s (a + q) := by
  have hz := size_ext2 s a b hb
  have hk : ∀ k, a + q + k < b → (s.extract a b).get! (q + k) = s.get! (a + q + k) := fun k h => by rw [get!_ext2 s a b (q + k) hb (by omega), Nat.add_assoc]
  have h0 : (s.extract a b).get! q = s.get! (a + q) := hk 0 (by omega)
  unfold bl at h hl ⊢
  rw [h0]
  by_cases c1 : (s.get! (a + q)).toNat = 32 ∨ (s.get! (a + q)).toNat = 9 ∨ (s.get! (a + q)).toNat = 13 ∨ (s.get! (a + q)).toNat = 10
  · rw [if_pos c1, if_pos c1]
  rw [if_neg c1] at h hl ⊢
  rw [if_neg c1]
  by_cases c2 : (s.get! (a + q)).toNat ≠ 47 ∨ s.size ≤ a + q + 1
  · rw [if_pos c2] at h; omega
  rw [if_neg c2] at h hl ⊢
  by_cases c3 : (s.get! (a + q + 1)).toNat = 47
  · rw [if_pos c3] at hl ⊢
    rw [if_neg (by omega), hk 1 (by omega), if_pos c3]
    congr 2
    have hl' : a + q + (2 + ln s (a + q + 2)) ≤ b := by rw [Int.toNat_natCast] at hl; exact hl
    unfold ln at hl' ⊢
    refine cw_is (by omega) (fun j hj => ?_) ?_
    · have := cw_all _ s s.size (a + q + 2) j hj
      rw [show q + 2 + j = q + (2 + j) by omega, hk (2 + j) (by omega), show a + q + (2 + j) = a + q + 2 + j by omega]
      exact this.2
    · rintro ⟨g1, g2⟩
      rw [show q + 2 + cw (fun c => c != 10) s (a + q + 2) s.size = q + (2 + cw (fun c => c != 10) s (a + q + 2) s.size) by omega, hk _ (by omega)] at g2
      refine cw_end (fun c => c != 10) s s.size (a + q + 2) (by omega) ⟨by omega, ?_⟩
      rw [show a + q + 2 + cw (fun c => c != 10) s (a + q + 2) s.size = a + q + (2 + cw (fun c => c != 10) s (a + q + 2) s.size) by omega]
      exact g2
  rw [if_neg c3] at h hl ⊢
  by_cases c4 : (s.get! (a + q + 1)).toNat ≠ 42
  · rw [if_pos c4] at h; omega
  rw [if_neg c4] at h hl ⊢
  cases hbc : bc s (a + q + 2) s.size with
  | none => rw [hbc] at h; simp [bcl] at h
  | some r =>
    rw [hbc] at hl
    obtain ⟨h1, h2, h3, h4, h5, h6⟩ := bc_inv s _ _ _ hbc
    have hl' : a + q + (r - (a + q) + 2) ≤ b := by simp only [bcl] at hl; rw [Int.toNat_natCast] at hl; exact hl
    have hr : bc (s.extract a b) (q + 2) (s.extract a b).size = some (q + 2 + (r - (a + q + 2))) := by
      refine bc_hit _ _ _ _ (by omega) (by omega) (fun j hj => ?_) ?_ ?_
      · rw [show q + 2 + j = q + (2 + j) by omega, show q + (2 + j) + 1 = q + (2 + j + 1) by omega, hk _ (by omega), hk _ (by omega)]
        have := h6 j hj
        rw [show a + q + (2 + j) = a + q + 2 + j by omega, show a + q + (2 + j + 1) = a + q + 2 + j + 1 by omega]
        exact this
      · rw [show q + 2 + (r - (a + q + 2)) = q + (r - (a + q)) by omega, hk _ (by omega), show a + q + (r - (a + q)) = r by omega]; exact h3
      · rw [show q + 2 + (r - (a + q + 2)) + 1 = q + (r - (a + q) + 1) by omega, hk _ (by omega), show a + q + (r - (a + q) + 1) = r + 1 by omega]; exact h4
    rw [if_neg (by omega), hk 1 (by omega), if_neg c3, if_neg c4, hr]
    simp only [bcl]
    congr 1
    omega
theorem gap_lex {s : ByteArray} {a0 b : Nat} (hb : b ≤ s.size) {a : Nat} (h : Gp s a b) : a0 ≤ a → ∀ f acc, b - a < f → lex (s.extract a0 b) f (a - a0) acc = (acc, 0, 0) := by
  have hz := size_ext2 s a0 b hb
  induction h with
  | nil a => intro _ f acc _; exact lex_end (by omega)
  | cons h1 h2 h3 ih =>
    rename_i a b
    intro ha f acc hf
    have hle := h3.le
    cases f with
    | zero => omega
    | succ f =>
      have hbl : bl (s.extract a0 b) (a - a0) = bl s a := by
        have := bl_cut s a0 b (a - a0) hb (by omega) (by rw [show a0 + (a - a0) = a by omega]; exact h2) (by rw [show a0 + (a - a0) = a by omega]; exact hle)
        rw [show a0 + (a - a0) = a by omega] at this
        exact this
      rw [lex, if_pos (by omega), hbl, if_pos h2, show a - a0 + (bl s a).toNat = a + (bl s a).toNat - a0 by omega]
      exact ih hb hz (by omega) f acc (by omega)
end Go.Proofs.YthoinjddamlapaaGreatDoor
