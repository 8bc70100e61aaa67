/-
  Plainly: what an unquoted literal holds: how long it is, and that its numbers are bytes.
-/
import Derived.Test.YtfldjcmobpcpoaaDoorJUnquoteTextY
import Derived.Test.YtfldjcmobpcpoaaDoorJUnquoteTextBY
namespace Go.Proofs.YtfldjcmobpcpoaaDoor

theorem ubytes_lo {v : Nat} (h : pointB (v : Int) = true) : Lo (ubytes v) := by
  unfold pointB at h
  unfold ubytes
  intro x hx
  simp at h
  repeat' split at hx
  all_goals simp at hx
  all_goals omega
theorem esc_lo (s : ByteArray) (i : Nat) : Lo (esc s i).1 := by
  unfold esc
  repeat' split
  · exact Lo.nil
  · exact Lo.one (s.get! i).toNat_lt
  · exact Lo.nil
  · exact Lo.nil
  · rename_i h
    refine ubytes_lo ?_
    cases g : pointB ((hv s (i + 2) (kc s (i + 2) 7) : Nat) : Int) with
    | true => rfl
    | false => exact absurd (.inr (.inr (.inr (.inr g)))) h
theorem lit_lo (s : ByteArray) : ∀ f i acc l q, Lo acc → lit s f i acc = some (l, q) → Lo l
  | 0, _, _, _, _, _, h => by simp [lit] at h
  | f + 1, i, acc, l, q, ha, h => by
    rw [lit] at h
    repeat' split at h
    · cases h
    · injection h with h; injection h with h; rw [← h]; exact ha
    · cases h
    · cases h
    · exact lit_lo s f _ _ l q (ha.app (esc_lo s _)) h
    · exact lit_lo s f _ _ l q (ha.app (Lo.one (s.get! i).toNat_lt)) h
theorem unq_lo (s : ByteArray) : Lo (unq s).1 := by
  unfold unq
  split
  · unfold litRes litAt
    by_cases h : s.size ≤ 0 ∨ (s.get! 0).toNat ≠ 34
    · rw [if_pos h]; exact Lo.nil
    · rw [if_neg h]
      cases e : lit s (s.size + 1) (0 + 1) [] with
      | none => exact Lo.nil
      | some lq => exact lit_lo s _ _ _ lq.1 lq.2 Lo.nil e
  · exact Lo.nil
theorem lit_len (s : ByteArray) : ∀ f i acc l q, i ≤ s.size → lit s f i acc = some (l, q) → l.length + 4 * i ≤ acc.length + 4 * s.size
  | 0, _, _, _, _, _, h => by simp [lit] at h
  | f + 1, i, acc, l, q, hi, h => by
    rw [lit] at h
    by_cases h1 : s.size ≤ i
    · rw [if_pos h1] at h; cases h
    rw [if_neg h1] at h
    by_cases h2 : (s.get! i).toNat = 34
    · rw [if_pos h2] at h
      have e : acc = l := by injection h with h; injection h
      rw [e]; omega
    rw [if_neg h2] at h
    by_cases h3 : (s.get! i).toNat = 10
    · rw [if_pos h3] at h; cases h
    rw [if_neg h3] at h
    by_cases h4 : (s.get! i).toNat = 92
    · rw [if_pos h4] at h
      by_cases h5 : (esc s (i + 1)).2 = 0
      · rw [if_pos h5] at h; cases h
      · rw [if_neg h5] at h
        have he := esc_le s (i + 1)
        have := (he.2.2 h5).1
        have ih := lit_len s f _ _ l q (by omega) h
        rw [List.length_append] at ih
        omega
    · rw [if_neg h4] at h
      have ih := lit_len s f _ _ l q (by omega) h
      rw [List.length_append, List.length_singleton] at ih
      omega
theorem unq_le (s : ByteArray) : (unq s).1.length ≤ 4 * s.size := by
  unfold unq
  split
  · unfold litRes litAt
    by_cases h : s.size ≤ 0 ∨ (s.get! 0).toNat ≠ 34
    · rw [if_pos h]; simp
    · rw [if_neg h]
      cases e : lit s (s.size + 1) (0 + 1) [] with
      | none => simp
      | some lq =>
        obtain ⟨l, q⟩ := lq
        have := lit_len s _ _ _ l q (by omega) e
        simp only [List.length_nil] at this ⊢
        omega
  · simp

end Go.Proofs.YtfldjcmobpcpoaaDoor
