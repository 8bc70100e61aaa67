/-
  Plainly: a token alone.
  Tokens in memory.
  Plainly: how many tokens there are at most.
-/
import Derived.Test.YthoinjddamlapaaGreatDoorJToLXP
import Derived.Test.YthoinjddamlapaaGreatDoorJToIP3
namespace Go.Proofs.YthoinjddamlapaaGreatDoor
open Go.RowKit

theorem kc_cut {s t : ByteArray} : ∀ f p q, kc s p f < f → (∀ j, j ≤ kc s p f → q + j < t.size ∧ p + j < s.size ∧ t.get! (q + j) = s.get! (p + j)) → kc t q f = kc s p f
  | 0, _, _, h, _ => by cases h
  | f + 1, p, q, h, hk => by
    have h0 := hk 0 (Nat.zero_le _)
    simp only [Nat.add_zero] at h0
    rw [kc] at h hk ⊢
    rw [kc]
    by_cases c : p < s.size ∧ 0 ≤ hd (s.get! p).toNat
    · rw [if_pos c] at h hk ⊢
      rw [if_pos ⟨h0.1, by rw [h0.2.2]; exact c.2⟩]
      congr 1
      refine kc_cut f (p + 1) (q + 1) (by omega) (fun j hj => ?_)
      have := hk (j + 1) (by omega)
      rw [show q + 1 + j = q + (j + 1) by omega, show p + 1 + j = p + (j + 1) by omega]
      exact this
    · rw [if_neg c, if_neg (fun g => c ⟨h0.2.1, by rw [← h0.2.2]; exact g.2⟩)]
theorem hv_cut {s t : ByteArray} {p q : Nat} : ∀ k, (∀ j, j < k → t.get! (q + j) = s.get! (p + j)) → hv t q k = hv s p k
  | 0, _ => rfl
  | k + 1, h => by rw [hv, hv, hv_cut k (fun j hj => h j (by omega)), h k (by omega)]
theorem esc_cut (s : ByteArray) (a b i : Nat) (hb : b ≤ s.size) (h : (esc s (a + i)).2 ≠ 0) (hl : a + i + (esc s (a + i)).2 ≤ b) : esc (s.extract a b) i = esc s (a + i) := by
  have hz := size_ext2 s a b hb
  have hk : ∀ k, a + i + k < b → (s.extract a b).get! (i + k) = s.get! (a + i + k) := fun k h => by rw [get!_ext2 s a b (i + k) hb (by omega), Nat.add_assoc]
  have h0 : (s.extract a b).get! i = s.get! (a + i) := hk 0 (by omega)
  unfold esc at h hl ⊢
  by_cases c1 : s.size ≤ a + i
  · rw [if_pos c1] at h; exact absurd rfl h
  rw [if_neg c1] at h hl ⊢
  rw [h0]
  by_cases c2 : (s.get! (a + i)).toNat = 34 ∨ (s.get! (a + i)).toNat = 92
  · rw [if_pos c2] at hl ⊢
    rw [if_neg (by simp only at hl; omega), if_pos c2]
  rw [if_neg c2] at h hl ⊢
  by_cases c3 : (s.get! (a + i)).toNat ≠ 117 ∨ s.size ≤ a + i + 1 ∨ (s.get! (a + i + 1)).toNat ≠ 123
  · rw [if_pos c3] at h; exact absurd rfl h
  rw [if_neg c3] at h hl ⊢
  by_cases c4 : kc s (a + i + 2) 7 < 1 ∨ 6 < kc s (a + i + 2) 7 ∨ s.size ≤ a + i + 2 + kc s (a + i + 2) 7 ∨ (s.get! (a + i + 2 + kc s (a + i + 2) 7)).toNat ≠ 125 ∨ pointB (hv s (a + i + 2) (kc s (a + i + 2) 7)) = false
  · rw [if_pos c4] at h; exact absurd rfl h
  rw [if_neg c4] at hl ⊢
  simp only at hl
  have e1 : kc (s.extract a b) (i + 2) 7 = kc s (a + i + 2) 7 := by
    refine kc_cut 7 (a + i + 2) (i + 2) (by omega) (fun j hj => ⟨by omega, by omega, ?_⟩)
    rw [show i + 2 + j = i + (2 + j) by omega, hk (2 + j) (by omega), show a + i + (2 + j) = a + i + 2 + j by omega]
  have e2 : hv (s.extract a b) (i + 2) (kc s (a + i + 2) 7) = hv s (a + i + 2) (kc s (a + i + 2) 7) := by
    refine hv_cut _ (fun j hj => ?_)
    rw [show i + 2 + j = i + (2 + j) by omega, hk (2 + j) (by omega), show a + i + (2 + j) = a + i + 2 + j by omega]
  have e3 : (s.extract a b).get! (i + 2 + kc s (a + i + 2) 7) = s.get! (a + i + 2 + kc s (a + i + 2) 7) := by
    rw [show i + 2 + kc s (a + i + 2) 7 = i + (2 + kc s (a + i + 2) 7) by omega, hk _ (by omega), show a + i + (2 + kc s (a + i + 2) 7) = a + i + 2 + kc s (a + i + 2) 7 by omega]
  have e4 : (s.extract a b).get! (i + 1) = s.get! (a + i + 1) := hk 1 (by omega)
  rw [e1, e2, e3, e4, if_neg (by omega), if_neg c2, if_neg (by rw [hz]; omega), if_neg ?_]
  rw [hz]
  intro g
  apply c4
  rcases g with g | g | g | g | g
  · exact .inl g
  · exact .inr (.inl g)
  · exact .inr (.inr (.inl (by omega)))
  · exact .inr (.inr (.inr (.inl g)))
  · exact .inr (.inr (.inr (.inr g)))
theorem lit_cut (s : ByteArray) (a b : Nat) (hb : b ≤ s.size) : ∀ f i acc l q, lit s f (a + i) acc = some (l, q) → q ≤ b → lit (s.extract a b) f i acc = some (l, q - a)
  | 0, _, _, _, _, h, _ => by cases h
  | f + 1, i, acc, l, q, h, hq => by
    have hz := size_ext2 s a b hb
    have hin : a + i < q ∧ q ≤ s.size := by
      by_cases c : a + i ≤ s.size
      · exact lit_in s (f + 1) (a + i) acc l q c h
      · rw [lit_end (by omega)] at h; cases h
    have h0 : (s.extract a b).get! i = s.get! (a + i) := get!_ext2 s a b i hb (by omega)
    rw [lit] at h ⊢
    rw [if_neg (by omega)] at h ⊢
    rw [h0]
    by_cases c1 : (s.get! (a + i)).toNat = 34
    · rw [if_pos c1] at h ⊢
      injection h with h
      injection h with h1 h2
      rw [h1, ← h2]
      congr 2
      omega
    rw [if_neg c1] at h ⊢
    by_cases c2 : (s.get! (a + i)).toNat = 10
    · rw [if_pos c2] at h; cases h
    rw [if_neg c2] at h ⊢
    by_cases c3 : (s.get! (a + i)).toNat = 92
    · rw [if_pos c3] at h ⊢
      by_cases c4 : (esc s (a + i + 1)).2 = 0
      · rw [if_pos c4] at h; cases h
      · rw [if_neg c4] at h
        have hlt : a + i + 1 + (esc s (a + i + 1)).2 < q := by
          by_cases c : a + i + 1 + (esc s (a + i + 1)).2 ≤ s.size
          · exact (lit_in s f _ _ l q c h).1
          · rw [lit_end (by omega)] at h; cases h
        have e := esc_cut s a b (i + 1) hb (by rw [← Nat.add_assoc]; exact c4) (by rw [← Nat.add_assoc]; omega)
        rw [← Nat.add_assoc] at e
        rw [e, if_neg c4]
        refine lit_cut s a b hb f _ _ l q ?_ hq
        rw [show a + (i + 1 + (esc s (a + i + 1)).2) = a + i + 1 + (esc s (a + i + 1)).2 by omega]
        exact h
    · rw [if_neg c3] at h ⊢
      exact lit_cut s a b hb f (i + 1) _ l q (by rw [← Nat.add_assoc]; exact h) hq
theorem nval_cut {s t : ByteArray} : ∀ k p q v, (∀ j, j < k → t.get! (q + j) = s.get! (p + j)) → nval t k q v = nval s k p v
  | 0, _, _, _, _ => rfl
  | k + 1, p, q, v, h => by
    have h0 := h 0 (by omega)
    simp only [Nat.add_zero] at h0
    rw [nval, nval, h0]
    rw [nval_cut k (p + 1) (q + 1) _ (fun j hj => by
      have := h (j + 1) (by omega)
      rw [show q + 1 + j = q + (j + 1) by omega, show p + 1 + j = p + (j + 1) by omega]
      exact this)]
theorem ext_self (t : ByteArray) : t.extract 0 t.size = t := by
  refine ext_bytes (by rw [size_ext2 t 0 t.size (Nat.le_refl _)]; omega) (fun j hj => ?_)
  rw [size_ext2 t 0 t.size (Nat.le_refl _)] at hj
  rw [get!_ext2 t 0 t.size j (Nat.le_refl _) (by omega), Nat.zero_add]
theorem run_none {s : ByteArray} {p : Nat} (hp : p < s.size) (h : ¬ 0 < run s p) : isR (s.get! p).toNat = false := by
  have := run_end s p
  have e : run s p = 0 := by omega
  rw [e, Nat.add_zero] at this
  cases g : isR (s.get! p).toNat with
  | false => rfl
  | true => exact absurd ⟨hp, g⟩ this
/-- A token alone is that token. -/
theorem tok_alone {s : ByteArray} {p : Nat} (hp : p < s.size) (ht : (tok s p).2 ≠ 0) : tok (s.extract p (p + (tok s p).2)) 0 = tok s p := by
  have hle := tok_le s p hp
  obtain ⟨l, hl⟩ : ∃ l, (tok s p).2 = l := ⟨_, rfl⟩
  rw [hl] at ht hle ⊢
  have hz := size_ext2 s p (p + l) hle
  have hk : ∀ j, j < l → (s.extract p (p + l)).get! (0 + j) = s.get! (p + j) := fun j hj => by rw [Nat.zero_add, get!_ext2 s p (p + l) j hle (by omega)]
  have h0 : (s.extract p (p + l)).get! 0 = s.get! p := by have := hk 0 (by omega); simpa using this
  have ezz : (s.extract p (p + l)).size = l := by omega
  have hrun : ∀ n, run s p = n → l = n → run (s.extract p (p + l)) 0 = n := fun n h1 h2 => by
    refine run_is (by omega) (fun j hj => ?_) (by omega)
    rw [hk j (by omega)]
    exact (run_all s p j (by omega)).2
  have hrun0 : ¬ 0 < run s p → ¬ 0 < run (s.extract p (p + l)) 0 := fun h g => by
    have h1 := (run_all _ 0 0 g).2
    rw [Nat.zero_add, h0, run_none hp h] at h1
    cases h1
  have ehl := hl
  unfold tok at hl
  unfold tok
  rw [h0]
  by_cases c1 : isL (s.get! p).toNat = true
  · rw [if_pos c1] at hl
    rw [if_pos c1, if_pos c1]
    have hl' : run s p = l := hl
    rw [hrun l hl' rfl, hl', Nat.zero_add]
    rw [show (s.extract p (p + l)).extract 0 l = s.extract p (p + l) from by conv => lhs; rw [← ezz]; rw [show (s.extract p (p + (s.extract p (p + l)).size)).extract 0 (s.extract p (p + l)).size = s.extract p (p + l) from by rw [ezz]; have := ext_self (s.extract p (p + l)); rw [ezz] at this; exact this]]
  rw [if_neg c1] at hl
  rw [if_neg c1, if_neg c1]
  by_cases c2 : 0 < run s p
  · rw [if_pos c2] at hl
    rw [if_pos c2]
    by_cases c3 : nval s (run s p) p 0 < 0
    · rw [if_pos c3] at hl; exact absurd hl.symm ht
    · rw [if_neg c3] at hl
      have hl' : run s p = l := hl
      rw [hrun l hl' rfl, if_pos (by omega), hl', nval_cut l p 0 0 hk, ← hl', if_neg c3]
  rw [if_neg c2] at hl
  rw [if_neg c2, if_neg (hrun0 c2)]
  by_cases c3 : (s.get! p).toNat = 34
  · rw [if_pos c3] at hl
    rw [if_pos c3, if_pos c3]
    have hl' : (litRes s p).2 = l := hl
    have : litRes (s.extract p (p + l)) 0 = litRes s p := by
      unfold litRes at hl' ⊢
      have ea : litAt s p = lit s (s.size + 1) (p + 1) [] := by unfold litAt; rw [if_neg (by omega)]
      rw [ea] at hl' ⊢
      cases hm : lit s (s.size + 1) (p + 1) [] with
      | none => rw [hm] at hl'; exact absurd hl'.symm ht
      | some r =>
        obtain ⟨r1, r2⟩ := r
        rw [hm] at hl'
        have hl2 : r2 - p = l := hl'
        have hin := lit_in s _ _ _ _ _ (by omega) hm
        have hc := lit_cut s p (p + l) hle (s.size + 1) 1 [] r1 r2 hm (by omega)
        have eb : litAt (s.extract p (p + l)) 0 = lit (s.extract p (p + l)) ((s.extract p (p + l)).size + 1) 1 [] := by unfold litAt; rw [if_neg (by rw [h0]; omega)]
        rw [eb, lit_fuel _ _ (s.size + 1) 1 [] (by omega) (by omega), hc]
        simp
    rw [this]
  rw [if_neg c3] at hl
  rw [if_neg c3, if_neg c3]
  by_cases c4 : sg s p = 0
  · rw [if_pos c4] at hl; exact absurd hl.symm ht
  rw [if_neg c4] at hl
  have hl' : sg s p = l := hl
  have hs : sg (s.extract p (p + l)) 0 = sg s p := by
    unfold sg at hl' ⊢
    by_cases d1 : p + 2 ≤ s.size ∧ sl2.contains [s.get! p, s.get! (p + 1)] = true
    · rw [if_pos d1] at hl' ⊢
      have h1 := hk 1 (by omega)
      rw [if_pos ⟨by omega, by rw [h0, h1]; exact d1.2⟩]
    · rw [if_neg d1] at hl' ⊢
      by_cases d2 : sl1.contains (s.get! p) = true
      · rw [if_pos d2] at hl' ⊢
        rw [if_neg (by omega), h0, if_pos d2]
      · rw [if_neg d2] at hl'; exact absurd hl'.symm ht
  rw [hs]
theorem bl_alone {s : ByteArray} {p : Nat} (hp : p < s.size) (hb : bl s p = 0) (ht : (tok s p).2 ≠ 0) : bl (s.extract p (p + (tok s p).2)) 0 = 0 := by
  have hle := tok_le s p hp
  have h47 : (s.get! p).toNat = 47 → (tok s p).2 = 1 := fun e => by
    unfold tok
    have c1 : isL (s.get! p).toNat = false := by rw [e]; rfl
    rw [if_neg (by rw [c1]; decide)]
    have c2 : ¬ 0 < run s p := fun g => by have := (run_all s p 0 g).2; rw [Nat.add_zero, e] at this; cases this
    rw [if_neg c2, if_neg (by omega)]
    have hs : sg s p = 1 := by
      unfold sg
      have e1 : s.get! p = 47 := UInt8.toNat_inj.1 e
      rw [if_neg (fun g => by
        have h2 := List.contains_iff_mem.1 g.2
        have : ∀ x ∈ sl2, x.getD 0 0 ≠ 47 := by decide
        exact this _ h2 e1), e1, if_pos (by decide)]
    rw [if_neg (by omega), hs]
  obtain ⟨l, hl⟩ : ∃ l, (tok s p).2 = l := ⟨_, rfl⟩
  rw [hl] at ht hle h47 ⊢
  have hz := size_ext2 s p (p + l) hle
  have h0 : (s.extract p (p + l)).get! 0 = s.get! p := by rw [get!_ext2 s p (p + l) 0 hle (by omega), Nat.add_zero]
  unfold bl at hb ⊢
  rw [h0]
  by_cases c1 : (s.get! p).toNat = 32 ∨ (s.get! p).toNat = 9 ∨ (s.get! p).toNat = 13 ∨ (s.get! p).toNat = 10
  · rw [if_pos c1] at hb; omega
  rw [if_neg c1, if_pos]
  by_cases c2 : (s.get! p).toNat = 47
  · right; have := h47 c2; omega
  · left; exact c2
theorem tok_one {s : ByteArray} {p : Nat} (hsz : s.size ≤ 5000) (hc : chk s = (0, 0)) (hp : p < s.size) (hb : bl s p = 0) (ht : (tok s p).2 ≠ 0) (hl : p + (tok s p).2 = s.size ∨ (s.get! (p + (tok s p).2)).toNat < 128) :
    lexed (s.extract p (p + (tok s p).2)) = ([((tok s p).1, 0, (tok s p).2)], 0, 0) := by
  have hle := tok_le s p hp
  have hz := size_ext2 s p (p + (tok s p).2) hle
  have h1 := piece_ok hc (a := p) (b := p + (tok s p).2) (by omega) hle (.inr (tok_ascii hp ht)) hl
  have h2 := tok_alone hp ht
  have h3 := bl_alone hp hb ht
  unfold lexed
  rw [if_neg (by omega), h1, if_pos rfl, lex, if_pos (by omega), h3, if_neg (by omega), if_neg (by omega), h2, if_neg ht, lex_end (by omega)]
  rfl
theorem gap_one {s : ByteArray} {a p : Nat} (hsz : s.size ≤ 5000) (hc : chk s = (0, 0)) (hg : Gp s a p) (hp : p ≤ s.size) (hl : p = s.size ∨ (s.get! p).toNat < 128) : lexed (s.extract a p) = ([], 0, 0) := by
  have hz := size_ext2 s a p hp
  have h1 := piece_ok hc (a := a) (b := p) hg.le hp (hg.low hl) hl
  have hg' := hg.le
  unfold lexed
  rw [if_neg (by omega), h1, if_pos rfl]
  have := gap_lex (a0 := a) hp hg (Nat.le_refl _) ((s.extract a p).size + 1) [] (by omega)
  rwa [Nat.sub_self] at this
theorem lexed_tk {s : ByteArray} (h : (lexed s).2.1 = 0) : s.size ≤ 5000 ∧ chk s = (0, 0) ∧ ∃ T, lexed s = (T, 0, 0) ∧ TkL s 0 T := by
  unfold lexed at h ⊢
  by_cases c : 5000 < s.size
  · rw [if_pos c] at h; cases h
  rw [if_neg c] at h ⊢
  by_cases d : (chk s).1 = 0
  · rw [if_pos d] at h ⊢
    obtain ⟨T, e1, e2⟩ := lex_tk s (s.size + 1) 0 [] (Nat.zero_le _) (by omega) h
    have := chkAt_zero s (s.size + 1) 0 d
    exact ⟨by omega, this, T, by rw [e1]; rfl, e2⟩
  · rw [if_neg d] at h; exact absurd h d
end Go.Proofs.YthoinjddamlapaaGreatDoor

namespace Go.Proofs.YthoinjddamlapaaGreatDoor
open Go.RowKit

/-- Tokens that lie at the head of a block. -/
def TCells (w : World) (g : Nat) (l : List (Nat × Nat × Nat)) : Prop := ∀ i, i < l.length → w.cell? ⟨g, i * 3, none⟩ = some (.int .i64 ((l.getD i (0, 0, 0)).1 : Nat)) ∧ w.cell? ⟨g, i * 3 + 1, none⟩ = some (.int .i64 ((l.getD i (0, 0, 0)).2.1 : Nat)) ∧ w.cell? ⟨g, i * 3 + 2, none⟩ = some (.int .i64 ((l.getD i (0, 0, 0)).2.2 : Nat))
theorem tcv_at : ∀ (l : List (Nat × Nat × Nat)) i, i < l.length → (tcv l)[i * 3]? = some (.int .i64 ((l.getD i (0, 0, 0)).1 : Nat)) ∧ (tcv l)[i * 3 + 1]? = some (.int .i64 ((l.getD i (0, 0, 0)).2.1 : Nat)) ∧ (tcv l)[i * 3 + 2]? = some (.int .i64 ((l.getD i (0, 0, 0)).2.2 : Nat))
  | [], i, h => absurd h (Nat.not_lt_zero _)
  | t :: r, 0, _ => ⟨rfl, rfl, rfl⟩
  | t :: r, i + 1, h => by
    have ih := tcv_at r i (by simpa using h)
    rw [show (i + 1) * 3 = i * 3 + 3 by omega]
    exact ih
end Go.Proofs.YthoinjddamlapaaGreatDoor

namespace Go.Proofs.YthoinjddamlapaaGreatDoor

theorem lex_len (s : ByteArray) : ∀ f p acc, p ≤ s.size → (lex s f p acc).1.length + p ≤ acc.length + s.size
  | 0, p, acc, h => by simp only [lex]; omega
  | f + 1, p, acc, h => by
    rw [lex]
    by_cases c : p < s.size
    · rw [if_pos c]
      have hb := bl_le s p c
      have ht := tok_le s p c
      by_cases c1 : 0 < bl s p
      · rw [if_pos c1]
        have := lex_len s f (p + (bl s p).toNat) acc (by omega)
        omega
      rw [if_neg c1]
      by_cases c2 : bl s p < 0
      · rw [if_pos c2]; simp only [List.length_nil]; omega
      rw [if_neg c2]
      by_cases c3 : (tok s p).2 = 0
      · rw [if_pos c3]; simp only [List.length_nil]; omega
      rw [if_neg c3]
      have := lex_len s f (p + (tok s p).2) (acc ++ [((tok s p).1, p, (tok s p).2)]) ht
      rw [List.length_append, List.length_singleton] at this
      omega
    · rw [if_neg c]; simp only; omega
theorem lexed_len (s : ByteArray) : (lexed s).1.length ≤ 5000 := by
  unfold lexed
  by_cases h : 5000 < s.size
  · rw [if_pos h]; simp
  · rw [if_neg h]
    by_cases hg : (chk s).1 = 0
    · rw [if_pos hg]
      have := lex_len s (s.size + 1) 0 [] (Nat.zero_le _)
      simp only [List.length_nil] at this
      omega
    · rw [if_neg hg]; simp

end Go.Proofs.YthoinjddamlapaaGreatDoor
