/-
  Plainly: the graph of some edges.
-/
import Derived.Test.YtohilccbfdienaaJCoSRM
import Derived.Test.YtohilccbfdienaaJCoGr0
namespace Go.Proofs.Ytohilccbfdienaa
open Go.RowKit

/-- Where the edges of cell c begin. -/
def stA (S : List Ed) (c : Nat) : Int := ((rowsN S c).length : Int)
theorem stA_zero (S : List Ed) : stA S 0 = 0 := rfl
theorem stA_succ (S : List Ed) (c : Nat) : stA S (c + 1) = stA S c + ((flt c S).length : Int) := by
  unfold stA
  show ((rowsN S c ++ flt c S).length : Int) = _
  rw [List.length_append]
  push_cast
  rfl
theorem flt_len_le (k : Int) (S : List Ed) : (flt k S).length ≤ S.length := List.length_filter_le ..
theorem flt_snoc_eq {k : Int} {P : List Ed} {e : Ed} (h : e.f = k) : (flt k (P ++ [e])).length = (flt k P).length + 1 := by
  rw [flt_append, List.length_append]
  unfold flt
  rw [List.filter_cons_of_pos (by rw [decide_eq_true_iff]; exact h)]
  rfl
theorem flt_snoc_ne {k : Int} {P : List Ed} {e : Ed} (h : e.f ≠ k) : (flt k (P ++ [e])).length = (flt k P).length := by
  rw [flt_append, List.length_append]
  unfold flt
  rw [List.filter_cons_of_neg (by rw [decide_eq_true_iff]; exact h)]
  rfl
/-- What the row of starts holds while edges are counted: at c + 1 those that leave c. -/
def cnA (P : List Ed) : Nat → Int
  | 0 => 0
  | c + 1 => ((flt c P).length : Int)
theorem cnA_nil (c : Nat) : cnA [] c = 0 := by cases c <;> rfl
theorem cnA_hit {P : List Ed} {e : Ed} {i : Nat} (h : e.f = i) : cnA (P ++ [e]) (i + 1) = cnA P (i + 1) + 1 := by
  show ((flt i (P ++ [e])).length : Int) = ((flt i P).length : Int) + 1
  rw [flt_snoc_eq h]
  push_cast
  rfl
theorem cnA_miss {P : List Ed} {e : Ed} {i c : Nat} (h : e.f = i) (hc : c ≠ i + 1) : cnA (P ++ [e]) c = cnA P c := by
  cases c with
  | zero => rfl
  | succ c =>
    show ((flt c (P ++ [e])).length : Int) = ((flt c P).length : Int)
    rw [flt_snoc_ne (by rw [h]; omega)]
/-- .. and while they are added up: up to k it is done. -/
def smA (S : List Ed) (k c : Nat) : Int := if c ≤ k then stA S c else cnA S c
theorem smA_zero (S : List Ed) (c : Nat) : smA S 0 c = cnA S c := by
  unfold smA
  by_cases h : c ≤ 0
  · obtain rfl : c = 0 := by omega
    rw [if_pos h]; rfl
  · rw [if_neg h]
theorem smA_step (S : List Ed) (k : Nat) : smA S k (k + 1) + smA S k k = smA S (k + 1) (k + 1) := by
  unfold smA
  rw [if_neg (by omega), if_pos (Nat.le_refl _), if_pos (Nat.le_refl _), stA_succ]
  show ((flt k S).length : Int) + _ = _
  omega
theorem smA_other (S : List Ed) {k c : Nat} (h : c ≠ k + 1) : smA S (k + 1) c = smA S k c := by
  unfold smA
  by_cases hc : c ≤ k
  · rw [if_pos hc, if_pos (by omega)]
  · rw [if_neg hc, if_neg (by omega)]
theorem smA_done (S : List Ed) {n c : Nat} (h : c ≤ n) : smA S n c = stA S c := by unfold smA; rw [if_pos h]
/-- The order of the edges of one cell is all that counts. -/
theorem cnA_stb {S C : List Ed} (h : Stb S C) (c : Nat) : cnA C c = cnA S c := by
  cases c with
  | zero => rfl
  | succ c =>
    show ((flt c C).length : Int) = ((flt c S).length : Int)
    rw [h.flt]
/-- The graph of some edges. -/
def grOf (n : Nat) (S : List Ed) : Gr := ⟨n, (List.range (n + 1)).map (stA S), (rowsN S n).map (·.t), (rowsN S n).map (·.d), (rowsN S n).map (·.c)⟩
/-- An edge turned. -/
def Ed.turn (e : Ed) : Ed := ⟨e.t, e.f, e.d, e.c⟩
end Go.Proofs.Ytohilccbfdienaa
