/-
  Plain facts: a literal that QuoteText writes is well-formed, and is one token. No run of the program stands in this text.
-/
import Derived.Test.YteojiblglbmmdaaGreatDoorJFTextsQX
namespace Go.Proofs.YteojiblglbmmdaaGreatDoor
open Go.RowKit

theorem vacc_congr {g g' : Nat → Nat} (v : Nat) : ∀ k, (∀ j, 1 ≤ j → j ≤ k → g j = g' j) → vacc g v k = vacc g' v k
  | 0, _ => rfl
  | k + 1, h => by rw [vacc, vacc, vacc_congr v k (fun j h1 h2 => h j h1 (by omega)), h (k + 1) (by omega) (by omega)]
theorem okc_copy {s q : ByteArray} {p P n v : Nat} (hn : 1 ≤ n) (he : ∀ j, j < n → bk q P j = bk s p j) (hP : P + n ≤ q.size) (h : okc s p n v) : okc q P n v := by
  have e : vacc (bk q P) v (n - 1) = vacc (bk s p) v (n - 1) := vacc_congr v _ (fun j _ h2 => he j (by omega))
  refine ⟨hP, fun j h1 h2 => ?_, ?_, ?_⟩
  · rw [he j h2]; exact h.2.1 j h1 h2
  · rw [e]; exact h.2.2.1
  · rw [e]; exact h.2.2.2
/-- A character beyond ASCII that stands elsewhere is the same. -/
theorem chr_copy {s q : ByteArray} {p P : Nat} (hp : p < s.size) (h0 : 128 ≤ bk s p 0) (h : (chr s p).1 ≠ 0) (he : ∀ j, j < (chr s p).1 → bk q P j = bk s p j) (hP : P + (chr s p).1 ≤ q.size) : chr q P = chr s p := by
  have b0 := bk_lt s p 0
  have hn : ¬ (bk s p 0 < 192 ∨ 248 ≤ bk s p 0) := fun g => h (by rw [chr_none s p h0 g])
  by_cases h2 : bk s p 0 < 224
  · have g := chr_two s p hp (by omega) h2
    by_cases ok : okc s p 2 (bk s p 0 - 192)
    · rw [g.1 ok] at he hP ⊢
      simp only at he hP
      have e0 := he 0 (by omega)
      have k := chr_two q P (by omega) (by omega) (by omega)
      rw [e0] at k
      rw [k.1 (okc_copy (by omega) he hP ok), vacc_congr _ 1 (fun j _ h2 => he j (by omega))]
    · exact absurd (by rw [g.2 ok]) h
  by_cases h3 : bk s p 0 < 240
  · have g := chr_three s p hp (by omega) h3
    by_cases ok : okc s p 3 (bk s p 0 - 224)
    · rw [g.1 ok] at he hP ⊢
      simp only at he hP
      have e0 := he 0 (by omega)
      have k := chr_three q P (by omega) (by omega) (by omega)
      rw [e0] at k
      rw [k.1 (okc_copy (by omega) he hP ok), vacc_congr _ 2 (fun j _ h2 => he j (by omega))]
    · exact absurd (by rw [g.2 ok]) h
  · have g := chr_four s p hp (by omega) (by omega)
    by_cases ok : okc s p 4 (bk s p 0 - 240)
    · rw [g.1 ok] at he hP ⊢
      simp only at he hP
      have e0 := he 0 (by omega)
      have k := chr_four q P (by omega) (by omega) (by omega)
      rw [e0] at k
      rw [k.1 (okc_copy (by omega) he hP ok), vacc_congr _ 3 (fun j _ h2 => he j (by omega))]
    · exact absurd (by rw [g.2 ok]) h

/-- The bytes of a character beyond ASCII are all beyond ASCII. -/
theorem chr_bytes {s : ByteArray} {p : Nat} (hp : p < s.size) (h0 : 128 ≤ bk s p 0) (h : (chr s p).1 ≠ 0) : p + (chr s p).1 ≤ s.size ∧ ∀ j, j < (chr s p).1 → 128 ≤ bk s p j := by
  have b0 := bk_lt s p 0
  have hn : ¬ (bk s p 0 < 192 ∨ 248 ≤ bk s p 0) := fun g => h (by rw [chr_none s p h0 g])
  have all : ∀ n v, okc s p n v → p + n ≤ s.size ∧ ∀ j, j < n → 128 ≤ bk s p j := fun n v ok => ⟨ok.1, fun j hj => by
    by_cases e : j = 0
    · rw [e]; exact h0
    · exact (ok.2.1 j (by omega) hj).1⟩
  by_cases h2 : bk s p 0 < 224
  · have g := chr_two s p hp (by omega) h2
    by_cases ok : okc s p 2 (bk s p 0 - 192)
    · rw [g.1 ok]; exact all 2 _ ok
    · exact absurd (by rw [g.2 ok]) h
  by_cases h3 : bk s p 0 < 240
  · have g := chr_three s p hp (by omega) h3
    by_cases ok : okc s p 3 (bk s p 0 - 224)
    · rw [g.1 ok]; exact all 3 _ ok
    · exact absurd (by rw [g.2 ok]) h
  · have g := chr_four s p hp (by omega) (by omega)
    by_cases ok : okc s p 4 (bk s p 0 - 240)
    · rw [g.1 ok]; exact all 4 _ ok
    · exact absurd (by rw [g.2 ok]) h

theorem chk_run {q : ByteArray} : ∀ n P g, (∀ j, j < n → P + j < q.size ∧ (q.get! (P + j)).toNat < 128) → q.size < P + g → ∃ g', q.size < P + n + g' ∧ chkAt q g P = chkAt q g' (P + n)
  | 0, P, g, _, hg => ⟨g, hg, rfl⟩
  | n + 1, P, g, h, hg => by
    have h0 := h 0 (by omega)
    rw [Nat.add_zero] at h0
    have e : chr q P = (1, bk q P 0) := chr_ascii q P (by unfold bk; rw [Nat.add_zero]; exact h0.2)
    obtain ⟨g1, rfl, e1⟩ := chkAt_good h0.1 hg (by rw [e]; simp)
    rw [e] at e1
    obtain ⟨g', h1, h2⟩ := chk_run n (P + 1) g1 (fun j hj => by rw [show P + 1 + j = P + (j + 1) by omega]; exact h (j + 1) (by omega)) (by omega)
    exact ⟨g', by omega, by rw [e1, show P + (n + 1) = P + 1 + n by omega]; exact h2⟩

theorem qb_low {c : Nat} (h : c < 128) : ∀ j, j < (qb c).length → (qb c).getD j 0 < 128 := by
  have d1 := dg_low (show c / 16 < 16 by omega)
  have d2 := dg_low (show c % 16 < 16 by omega)
  intro j hj
  have hm : (qb c).getD j 0 ∈ qb c := by
    rw [List.getD_eq_getElem?_getD, List.getElem?_eq_getElem hj]; exact List.getElem_mem hj
  generalize (qb c).getD j 0 = x at hm ⊢
  unfold qb hexL at hm
  split at hm
  · simp only [List.mem_cons, List.not_mem_nil, or_false] at hm; omega
  · split at hm
    · split at hm
      · have d3 := dg_low (show c < 16 by omega)
        simp only [List.cons_append, List.nil_append, List.mem_cons, List.not_mem_nil, or_false] at hm; omega
      · simp only [List.cons_append, List.nil_append, List.mem_cons, List.not_mem_nil, or_false] at hm; omega
    · simp only [List.mem_cons, List.not_mem_nil, or_false] at hm; omega

theorem pl_high {s : ByteArray} {p : Nat} : ∀ w, (∀ j, j < w → 128 ≤ bk s p j) → pl s (p + w) = pl s p + w
  | 0, _ => rfl
  | w + 1, h => by
    have e : qb (s.get! (p + w)).toNat = [(s.get! (p + w)).toNat] := qb_high (h w (by omega))
    rw [← Nat.add_assoc, pl_succ, pl_high w (fun j hj => h j (by omega)), e]; rfl

theorem chk_lit {s q : ByteArray} (h : QX s q) : ∀ f p, p ≤ s.size → s.size < p + f → (chkAt s f p).1 = 0 → ∀ g, q.size < pl s p + g → chkAt q g (pl s p) = (0, 0)
  | 0, p, hp, hf, _, _, _ => by omega
  | f + 1, p, hp, hf, hk, g, hg => by
    have hz := h.size
    by_cases he : p = s.size
    · subst he
      obtain ⟨g', h1, h2⟩ := chk_run 1 (pl s s.size) g (fun j hj => by
        have : j = 0 := by omega
        subst this
        rw [Nat.add_zero, h.lst]; omega) hg
      rw [h2]; exact chkAt_end (by omega)
    · have hlt : p < s.size := by omega
      have hle := pl_lt (s := s) hlt
      by_cases hw : (chr s p).1 = 0
      · rw [chkAt, if_pos hlt, if_pos hw] at hk; cases hk
      rw [chkAt, if_pos hlt, if_neg hw] at hk
      by_cases h0 : bk s p 0 < 128
      · have e := chr_ascii s p h0
        rw [e] at hk
        have hb : (s.get! p).toNat < 128 := h0
        obtain ⟨g', h1, h2⟩ := chk_run (qb (s.get! p).toNat).length (pl s p) g (fun j hj => ⟨by omega, by rw [h.at_ p hlt j hj]; exact qb_low hb j hj⟩) hg
        rw [h2, ← pl_succ]
        rw [← pl_succ] at h1
        exact chk_lit h f (p + 1) (by omega) (by omega) hk g' h1
      · obtain ⟨hin, hall⟩ := chr_bytes hlt (by omega) hw
        have hpl := pl_high _ hall
        have hmono : pl s (p + (chr s p).1) ≤ pl s s.size := by
          have := pl_mono s (p + (chr s p).1) (s.size - (p + (chr s p).1))
          rw [show p + (chr s p).1 + (s.size - (p + (chr s p).1)) = s.size by omega] at this; exact this
        have ec : chr q (pl s p) = chr s p := by
          refine chr_copy hlt (by omega) hw (fun j hj => ?_) (by omega)
          have hpj := pl_high j (fun i hi => hall i (by omega))
          have e1 : qb (s.get! (p + j)).toNat = [(s.get! (p + j)).toNat] := qb_high (hall j hj)
          have := h.at_ (p + j) (by omega) 0 (by rw [e1]; simp)
          rw [hpj, e1] at this
          exact this
        obtain ⟨g1, rfl, e1⟩ := chkAt_good (by omega : pl s p < q.size) hg (by rw [ec]; exact hw)
        rw [e1, ec, ← hpl]
        exact chk_lit h f (p + (chr s p).1) (by omega) (by omega) hk g1 (by omega)

theorem chk_back {s q : ByteArray} (h : QX s q) (hs : (chk s).1 = 0) : chk q = (0, 0) := by
  have hz := h.size
  obtain ⟨g', h1, h2⟩ := chk_run (q := q) 1 0 (q.size + 1) (fun j hj => by
    have : j = 0 := by omega
    subst this
    rw [Nat.add_zero, h.fst]; omega) (by omega)
  unfold chk at hs ⊢
  rw [h2]
  exact chk_lit h (s.size + 1) 0 (by omega) (by omega) hs g' h1

theorem unq_back {s q : ByteArray} (h : QX s q) (hs : (chk s).1 = 0) : unq q = (bys s 0 s.size, 0) := by
  have hz := h.size
  unfold unq
  rw [chk_back h hs, litRes_back h, if_pos ⟨rfl, by simp only; omega, rfl⟩]

theorem lexed_back {s q : ByteArray} (h : QX s q) (hs : (chk s).1 = 0) (hq : q.size ≤ 5000) : lexed q = ([(4, 0, q.size)], 0, 0) := by
  have hz := h.size
  have hf := h.fst
  have hbl : bl q 0 = 0 := by unfold bl; rw [hf, if_neg (by omega), if_pos (by omega)]
  have hrun : run q 0 = 0 := run_is (by omega) (fun j hj => absurd hj (Nat.not_lt_zero _)) (by rw [Nat.add_zero, hf]; rintro ⟨_, g⟩; exact absurd g (by decide))
  have htok : tok q 0 = (4, q.size) := by
    unfold tok
    rw [hf, if_neg (by decide), hrun, if_neg (by omega), if_pos rfl, litRes_back h]
  unfold lexed
  rw [if_neg (by omega), chk_back h hs, if_pos rfl, lex, if_pos (by omega), hbl, if_neg (by omega), if_neg (by omega), htok, if_neg (by simp only; omega)]
  obtain ⟨n, hn⟩ : ∃ n, q.size = n + 1 := ⟨pl s s.size, hz⟩
  have e : ∀ acc, lex q q.size (0 + q.size) acc = (acc, 0, 0) := fun acc => by
    rw [Nat.zero_add]
    obtain ⟨n, hn⟩ : ∃ n, n = q.size := ⟨_, rfl⟩
    rw [← hn]
    cases n with
    | zero => rw [lex]
    | succ n => rw [lex, if_neg (by omega)]
  exact e _
end Go.Proofs.YteojiblglbmmdaaGreatDoor
