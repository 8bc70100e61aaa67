/-
  What Components answers, in plain words: each cell's least companion.
-/
import Derived.Test.YtohilccbfdienaaJCoRC
namespace Go.Proofs.Ytohilccbfdienaa

theorem Rch.trans {E : List Ed} {a b c : Int} (h : Rch E [a] b) (k : Rch E [b] c) : Rch E [a] c := by
  induction k with
  | base h1 => rw [List.mem_singleton.1 h1]; exact h
  | step h1 _ ih => exact Rch.step h1 ih
theorem Rch.self (E : List Ed) (a : Int) : Rch E [a] a := Rch.base (List.mem_singleton.2 rfl)
/-- One list has the other's edges, turned. -/
def Turn (E E' : List Ed) : Prop := ∀ e ∈ E', ∃ e2 ∈ E, e2.f = e.t ∧ e2.t = e.f
theorem Rch.turn {E E' : List Ed} (h : Turn E E') {a b : Int} (k : Rch E' [a] b) : Rch E [b] a := by
  induction k with
  | base h1 => rw [List.mem_singleton.1 h1]; exact Rch.self _ _
  | step h1 _ ih =>
    obtain ⟨e2, h2, hf, ht⟩ := h _ h1
    refine Rch.trans ?_ ih
    rw [← ht]
    exact Rch.step h2 (by rw [hf]; exact Rch.self _ _)
/-- Each reaches the other. -/
def Mut (E : List Ed) (a b : Int) : Prop := Rch E [a] b ∧ Rch E [b] a
theorem Mut.trans {E : List Ed} {a b c : Int} (h : Mut E a b) (k : Mut E b c) : Mut E a c := ⟨h.1.trans k.1, k.2.trans h.2⟩
theorem Mut.symm {E : List Ed} {a b : Int} (h : Mut E a b) : Mut E b a := ⟨h.2, h.1⟩
theorem Mut.self (E : List Ed) (a : Int) : Mut E a a := ⟨Rch.self _ _, Rch.self _ _⟩
open Classical in
/-- The least companion below k, if any. -/
noncomputable def coUp (E : List Ed) (v : Int) : Nat → Int
  | 0 => -1
  | k + 1 => if 0 ≤ coUp E v k then coUp E v k else if Mut E (k : Int) v then (k : Int) else -1
theorem coUp_cases (E : List Ed) (v : Int) : ∀ k, (coUp E v k = -1 ∧ ∀ c : Nat, c < k → ¬ Mut E (c : Int) v) ∨ ∃ c : Nat, c < k ∧ coUp E v k = (c : Int) ∧ Mut E (c : Int) v ∧ ∀ b : Nat, b < c → ¬ Mut E (b : Int) v
  | 0 => .inl ⟨rfl, fun c hc => absurd hc (Nat.not_lt_zero _)⟩
  | k + 1 => by
    unfold coUp
    rcases coUp_cases E v k with ⟨h1, h2⟩ | ⟨c, h1, h2, h3, h4⟩
    · rw [if_neg (by omega)]
      by_cases hm : Mut E (k : Int) v
      · rw [if_pos hm]
        exact .inr ⟨k, by omega, rfl, hm, h2⟩
      · rw [if_neg hm]
        refine .inl ⟨rfl, fun c hc => ?_⟩
        by_cases e : c = k
        · rw [e]; exact hm
        · exact h2 c (by omega)
    · rw [if_pos (by omega)]
      exact .inr ⟨c, by omega, h2, h3, h4⟩
open Classical in
/-- A cell that has its companion already: nothing is new. -/
theorem coUp_had {E : List Ed} {c : Nat} (h : 0 ≤ coUp E (c : Int) c) (v : Int) : coUp E v (c + 1) = coUp E v c := by
  show (if 0 ≤ coUp E v c then coUp E v c else if Mut E (c : Int) v then (c : Int) else -1) = coUp E v c
  rcases coUp_cases E v c with ⟨h1, h2⟩ | ⟨b, _, h2, _⟩
  · rw [if_neg (by omega), if_neg, h1]
    intro hm
    rcases coUp_cases E (c : Int) c with ⟨h3, _⟩ | ⟨b, h3, _, h4, _⟩
    · omega
    · exact h2 b h3 (h4.trans hm)
  · rw [if_pos (by omega)]
open Classical in
/-- A cell that has none: all its companions are new. -/
theorem coUp_new {E : List Ed} {c : Nat} (h : ¬ 0 ≤ coUp E (c : Int) c) {v : Int} (hm : Mut E (c : Int) v) : coUp E v (c + 1) = (c : Int) := by
  show (if 0 ≤ coUp E v c then coUp E v c else if Mut E (c : Int) v then (c : Int) else -1) = (c : Int)
  rcases coUp_cases E v c with ⟨h1, _⟩ | ⟨b, h1, h2, h3, _⟩
  · rw [if_neg (by omega), if_pos hm]
  · exfalso
    rcases coUp_cases E (c : Int) c with ⟨_, h4⟩ | ⟨b', _, h5, _⟩
    · exact h4 b h1 (h3.trans hm.symm)
    · omega
open Classical in
theorem coUp_off {E : List Ed} {c : Nat} {v : Int} (hm : ¬ Mut E (c : Int) v) : coUp E v (c + 1) = coUp E v c := by
  show (if 0 ≤ coUp E v c then coUp E v c else if Mut E (c : Int) v then (c : Int) else -1) = coUp E v c
  rcases coUp_cases E v c with ⟨h1, _⟩ | ⟨b, _, h2, _⟩
  · rw [if_neg (by omega), if_neg hm, h1]
  · rw [if_pos (by omega)]
/-- What Components answers for a valid graph. -/
noncomputable def coL (n : Nat) (E : List Ed) : List Int := (List.range n).map fun v : Nat => coUp E (v : Int) n
theorem coL_length (n : Nat) (E : List Ed) : (coL n E).length = n := by unfold coL; simp
/-- Read as the document says it: the least cell that reaches it and is reached from it. -/
theorem coL_getD {n : Nat} (E : List Ed) {v : Nat} (hv : v < n) : ∃ c : Nat, c ≤ v ∧ (coL n E).getD v 0 = (c : Int) ∧ Mut E (c : Int) (v : Int) ∧ ∀ b : Nat, b < c → ¬ Mut E (b : Int) (v : Int) := by
  have e : (coL n E).getD v 0 = coUp E (v : Int) n := by
    unfold coL
    rw [List.getD_eq_getElem?_getD, List.getElem?_map, List.getElem?_range hv]
    rfl
  rw [e]
  rcases coUp_cases E (v : Int) n with ⟨_, h2⟩ | ⟨c, _, h2, h3, h4⟩
  · exact absurd (Mut.self E v) (h2 v hv)
  · refine ⟨c, ?_, h2, h3, h4⟩
    by_cases q : c ≤ v
    · exact q
    · exact absurd (Mut.self E v) (h4 v (by omega))
end Go.Proofs.Ytohilccbfdienaa
