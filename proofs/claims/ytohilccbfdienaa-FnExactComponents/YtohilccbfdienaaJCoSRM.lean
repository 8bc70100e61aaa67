/-
  Plainly: edges in the order of their first cells, and merges that keep what is alike in its order.
-/
import Derived.Test.YtohilccbfdienaaJCoSG0
namespace Go.Proofs.Ytohilccbfdienaa
open Go.RowKit

/-- In order. -/
def Srtd (A : List Ed) : Prop := A.Pairwise fun x y => x.f ≤ y.f
/-- Those that leave one cell. -/
def flt (k : Int) (A : List Ed) : List Ed := A.filter fun e => decide (e.f = k)
theorem flt_append (k : Int) (A B : List Ed) : flt k (A ++ B) = flt k A ++ flt k B := List.filter_append ..
theorem flt_nil (k : Int) : flt k [] = [] := rfl
theorem mem_flt {k : Int} {A : List Ed} {e : Ed} : e ∈ flt k A ↔ e ∈ A ∧ e.f = k := by
  unfold flt
  rw [List.mem_filter, decide_eq_true_iff]
theorem flt_none {k : Int} {A : List Ed} (h : ∀ e ∈ A, e.f ≠ k) : flt k A = [] := by
  unfold flt
  rw [List.filter_eq_nil_iff]
  intro e he
  rw [decide_eq_true_iff]
  exact h e he
/-- C is A and B in order, what is alike as it stood. -/
structure Mg (A B C : List Ed) : Prop where
  srt : Srtd C
  flt : ∀ k, flt k C = flt k A ++ flt k B
  len : C.length = A.length + B.length
theorem Mg.mem {A B C : List Ed} (h : Mg A B C) {e : Ed} (he : e ∈ C) : e ∈ A ∨ e ∈ B := by
  have h1 : e ∈ Go.Proofs.Ytohilccbfdienaa.flt e.f C := mem_flt.2 ⟨he, rfl⟩
  rw [h.flt, List.mem_append] at h1
  rcases h1 with h1 | h1
  · exact .inl (mem_flt.1 h1).1
  · exact .inr (mem_flt.1 h1).1
theorem Mg.same {A B : List Ed} (h : Srtd (A ++ B)) : Mg A B (A ++ B) := ⟨h, fun k => flt_append k A B, List.length_append⟩
theorem Srtd.left {A B : List Ed} (h : Srtd (A ++ B)) : Srtd A := (List.pairwise_append.1 h).1
theorem Srtd.right {A B : List Ed} (h : Srtd (A ++ B)) : Srtd B := (List.pairwise_append.1 h).2.1
theorem Srtd.cross {A B : List Ed} (h : Srtd (A ++ B)) {x y : Ed} (hx : x ∈ A) (hy : y ∈ B) : x.f ≤ y.f := (List.pairwise_append.1 h).2.2 x hx y hy
theorem Mg.step {A1 U V B2 C1 C2 : List Ed} (hA : Srtd (A1 ++ U)) (hB : Srtd (V ++ B2)) (hUV : ∀ u ∈ U, ∀ v ∈ V, v.f < u.f) (hAB : ∀ x ∈ A1, ∀ y ∈ B2, x.f ≤ y.f) (h1 : Mg A1 V C1) (h2 : Mg U B2 C2) : Mg (A1 ++ U) (V ++ B2) (C1 ++ C2) := by
  refine ⟨List.pairwise_append.2 ⟨h1.srt, h2.srt, fun x hx y hy => ?_⟩, fun k => ?_, ?_⟩
  · rcases h1.mem hx with hx | hx <;> rcases h2.mem hy with hy | hy
    · exact hA.cross hx hy
    · exact hAB x hx y hy
    · exact Int.le_of_lt (hUV y hy x hx)
    · exact hB.cross hx hy
  · rw [flt_append, flt_append, flt_append, h1.flt, h2.flt]
    have key : Go.Proofs.Ytohilccbfdienaa.flt k V ++ Go.Proofs.Ytohilccbfdienaa.flt k U = Go.Proofs.Ytohilccbfdienaa.flt k U ++ Go.Proofs.Ytohilccbfdienaa.flt k V := by
      by_cases hu : ∃ u ∈ U, u.f = k
      · obtain ⟨u, hu, rfl⟩ := hu
        rw [flt_none (A := V) (fun v hv e => by have := hUV u hu v hv; omega), List.nil_append, List.append_nil]
      · rw [flt_none (A := U) (fun u hu' e => hu ⟨u, hu', e⟩), List.nil_append, List.append_nil]
    rw [List.append_assoc, List.append_assoc, ← List.append_assoc (Go.Proofs.Ytohilccbfdienaa.flt k V), key, List.append_assoc]
  · rw [List.length_append, List.length_append, List.length_append, h1.len, h2.len]
    omega
/-- One ahead of others. -/
theorem Mg.one_left {x : Ed} {V B2 : List Ed} (hB : Srtd (V ++ B2)) (hV : ∀ v ∈ V, v.f < x.f) (hB2 : ∀ y ∈ B2, x.f ≤ y.f) : Mg [x] (V ++ B2) (V ++ x :: B2) := by
  have h1 : Mg [] V V := ⟨hB.left, fun k => by rw [flt_nil, List.nil_append], by simp⟩
  have h2 : Mg [x] B2 (x :: B2) := Mg.same (A := [x]) (List.pairwise_cons.2 ⟨hB2, hB.right⟩)
  exact Mg.step (A1 := []) (U := [x]) (List.pairwise_singleton _ _) hB (fun u hu v hv => by obtain rfl := List.mem_singleton.1 hu; exact hV v hv) (fun x hx => by cases hx) h1 h2
/-- One behind others. -/
theorem Mg.one_right {y : Ed} {A1 U : List Ed} (hA : Srtd (A1 ++ U)) (hA1 : ∀ x ∈ A1, x.f ≤ y.f) (hU : ∀ u ∈ U, y.f < u.f) : Mg (A1 ++ U) [y] (A1 ++ y :: U) := by
  have h1 : Mg A1 [y] (A1 ++ [y]) := Mg.same (List.pairwise_append.2 ⟨hA.left, List.pairwise_singleton _ _, fun x hx z hz => by obtain rfl := List.mem_singleton.1 hz; exact hA1 x hx⟩)
  have h2 : Mg U [] U := ⟨hA.right, fun k => by rw [flt_nil, List.append_nil], by simp⟩
  have := Mg.step (V := [y]) (B2 := []) hA (by simp [Srtd]) (fun u hu v hv => by obtain rfl := List.mem_singleton.1 hv; exact hU u hu) (fun x _ y hy => by cases hy) h1 h2
  simpa using this
/-- C is A in order, what is alike as it stood. -/
structure Stb (A C : List Ed) : Prop where
  srt : Srtd C
  flt : ∀ k, flt k C = flt k A
  len : C.length = A.length
theorem Stb.merge {A B A' B' C : List Ed} (hA : Stb A A') (hB : Stb B B') (h : Mg A' B' C) : Stb (A ++ B) C :=
  ⟨h.srt, fun k => by rw [h.flt, hA.flt, hB.flt, flt_append], by rw [h.len, hA.len, hB.len, List.length_append]⟩
theorem Stb.nil : Stb [] [] := ⟨List.Pairwise.nil, fun _ => rfl, rfl⟩
theorem Stb.one (x : Ed) : Stb [x] [x] := ⟨List.pairwise_singleton _ _, fun _ => rfl, rfl⟩
/-- Rows by their cells. -/
def rowsN (A : List Ed) : Nat → List Ed
  | 0 => []
  | n + 1 => rowsN A n ++ flt n A
theorem srtd_split {C : List Ed} (h : Srtd C) (m : Int) : C.filter (fun e => decide (e.f < m + 1)) = C.filter (fun e => decide (e.f < m)) ++ flt m C := by
  induction C with
  | nil => rfl
  | cons a C ih =>
    have h1 := List.pairwise_cons.1 h
    have ih' := ih h1.2
    unfold flt at ih' ⊢
    by_cases q : a.f < m
    · rw [List.filter_cons_of_pos (by rw [decide_eq_true_iff]; omega), List.filter_cons_of_pos (by rw [decide_eq_true_iff]; omega), List.filter_cons_of_neg (by rw [decide_eq_true_iff]; omega), ih']
      rfl
    · have hz : C.filter (fun e => decide (e.f < m)) = [] := by
        rw [List.filter_eq_nil_iff]
        intro e he
        have := h1.1 e he
        rw [decide_eq_true_iff]
        omega
      rw [hz, List.nil_append] at ih'
      by_cases q2 : a.f = m
      · rw [List.filter_cons_of_pos (by rw [decide_eq_true_iff]; omega), List.filter_cons_of_neg (by rw [decide_eq_true_iff]; omega), List.filter_cons_of_pos (by rw [decide_eq_true_iff]; exact q2), hz, ih']
        rfl
      · rw [List.filter_cons_of_neg (by rw [decide_eq_true_iff]; omega), List.filter_cons_of_neg (by rw [decide_eq_true_iff]; omega), List.filter_cons_of_neg (by rw [decide_eq_true_iff]; exact q2), hz, ih']
        rfl
theorem Stb.rows {A C : List Ed} (h : Stb A C) {n : Nat} (hk : ∀ e ∈ A, 0 ≤ e.f ∧ e.f < n) : C = rowsN A n := by
  have hm : ∀ e ∈ C, 0 ≤ e.f ∧ e.f < n := fun e he => by
    have h1 : e ∈ Go.Proofs.Ytohilccbfdienaa.flt e.f C := mem_flt.2 ⟨he, rfl⟩
    rw [h.flt] at h1
    exact hk e (mem_flt.1 h1).1
  have key : ∀ m : Nat, C.filter (fun e => decide (e.f < (m : Int))) = rowsN A m := fun m => by
    induction m with
    | zero =>
      rw [List.filter_eq_nil_iff.2 (fun e he => by have := hm e he; rw [decide_eq_true_iff]; omega)]
      rfl
    | succ m ih =>
      have := srtd_split h.srt (m : Int)
      rw [ih, h.flt] at this
      exact this
  rw [← key n, List.filter_eq_self.2 (fun e he => by rw [decide_eq_true_iff]; exact (hm e he).2)]
end Go.Proofs.Ytohilccbfdienaa
