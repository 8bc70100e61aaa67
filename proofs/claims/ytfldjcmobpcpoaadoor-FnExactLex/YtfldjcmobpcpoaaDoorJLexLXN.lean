/-
  Plainly: how many tokens there are at most.
-/
import Derived.Test.YtfldjcmobpcpoaaDoorJLexSL
namespace Go.Proofs.YtfldjcmobpcpoaaDoor

theorem lex_len (s : ByteArray) : ∀ f p acc, p ≤ s.size → (lex s f p acc).1.length + p ≤ acc.length + s.size
  | 0, p, acc, h => by simp only [lex]; omega
  | f + 1, p, acc, h => by
    rw [lex]
    by_cases c : p < s.size
    · rw [if_pos c]
      have hb := bl_le s p c
      have ht := tok_le s p c
      by_cases c1 : 0 < bl s p
      · rw [if_pos c1]
        have := lex_len s f (p + (bl s p).toNat) acc (by omega)
        omega
      rw [if_neg c1]
      by_cases c2 : bl s p < 0
      · rw [if_pos c2]; simp only [List.length_nil]; omega
      rw [if_neg c2]
      by_cases c3 : (tok s p).2 = 0
      · rw [if_pos c3]; simp only [List.length_nil]; omega
      rw [if_neg c3]
      have := lex_len s f (p + (tok s p).2) (acc ++ [((tok s p).1, p, (tok s p).2)]) ht
      rw [List.length_append, List.length_singleton] at this
      omega
    · rw [if_neg c]; simp only; omega
theorem lexed_len (s : ByteArray) : (lexed s).1.length ≤ 5000 := by
  unfold lexed
  by_cases h : 5000 < s.size
  · rw [if_pos h]; simp
  · rw [if_neg h]
    by_cases hg : (chk s).1 = 0
    · rw [if_pos hg]
      have := lex_len s (s.size + 1) 0 [] (Nat.zero_le _)
      simp only [List.length_nil] at this
      omega
    · rw [if_neg hg]; simp

end Go.Proofs.YtfldjcmobpcpoaaDoor
