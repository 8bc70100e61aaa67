/-
  symMergeCmpFunc at any two parts; blocks in order, plainly.
-/
import Derived.Test.YtochfhoaiekioaaJRtSRG
namespace Go.Proofs.Ytochfhoaiekioaa
open Go.RowKit

theorem sym_all (v : Value) (D k : Nat) : SymIH v D k := by
  induction k with
  | zero => intro X A B Y a m b w hk; omega
  | succ k ih =>
    intro X A B Y a m b w hk hA0 hB0 hA hB hn h ha hm hb
    subst ha hm hb
    by_cases q1 : A.length = 1
    · obtain ⟨x, rfl⟩ := List.length_eq_one_iff.1 q1
      exact sym_left v D x X B Y w hB0 hB hn h
    · by_cases q2 : B.length = 1
      · obtain ⟨y, rfl⟩ := List.length_eq_one_iff.1 q2
        exact sym_right v D y X A Y w (by omega) hA hn h
      · exact sym_gen v D X A B Y w (by omega) (by omega) hA hB hn h fun X' A' B' Y' a' m' b' w' hk' => ih X' A' B' Y' a' m' b' w' (by omega)
theorem sym_at (v : Value) (D : Nat) (X A B Y : List Ed) (a m b : Int) (w : World) (hA0 : 0 < A.length) (hB0 : 0 < B.length) (hA : Srtd A) (hB : Srtd B) (hn : (X ++ A ++ B ++ Y).length ≤ 1048576) (h : EdR w D v (X ++ A ++ B ++ Y)) (ha : a = X.length) (hm : m = (X.length + A.length : Nat)) (hb : b = (X.length + A.length + B.length : Nat)) :
    Calls Try.prog 53 #[v, .int .i64 a, .int .i64 m, .int .i64 b, cfV] w fun e w' => e = .returned (.tuple #[]) ∧ SymP w w' D v X A B Y :=
  sym_all v D (A.length + B.length + 1) X A B Y a m b w (by omega) hA0 hB0 hA hB hn h ha hm hb
theorem insSort_at (v : Value) (D : Nat) (X S Y : List Ed) (a b : Int) (w : World) (hn : (X ++ S ++ Y).length ≤ 1048576) (h : EdR w D v (X ++ S ++ Y)) (ha : a = X.length) (hb : b = (X.length + S.length : Nat)) :
    Calls Try.prog 52 #[v, .int .i64 a, .int .i64 b, cfV] w fun e w' => e = .returned (.tuple #[]) ∧ InsP w w' D v X S Y := by
  subst ha hb
  exact insSort_any v D X S Y w hn h

/-- Full blocks of n, each in order. -/
inductive Fb (n : Nat) : List Ed → List Ed → Prop
  | nil : Fb n [] []
  | snoc {S C S1 C1 : List Ed} : Fb n S C → S1.length = n → Stb S1 C1 → Fb n (S ++ S1) (C ++ C1)
/-- Blocks of n, each in order, the last one perhaps shorter. -/
inductive Bk (n : Nat) : List Ed → List Ed → Prop
  | last {S C : List Ed} : S.length ≤ n → Stb S C → Bk n S C
  | cons {S C S1 C1 : List Ed} : S1.length = n → Stb S1 C1 → Bk n S C → Bk n (S1 ++ S) (C1 ++ C)
theorem Fb.len {n : Nat} {S C : List Ed} (h : Fb n S C) : C.length = S.length := by
  induction h with
  | nil => rfl
  | snoc _ _ h2 ih => rw [List.length_append, List.length_append, ih, h2.len]
theorem Bk.len {n : Nat} {S C : List Ed} (h : Bk n S C) : C.length = S.length := by
  induction h with
  | last _ h2 => exact h2.len
  | cons _ h2 _ ih => rw [List.length_append, List.length_append, ih, h2.len]
theorem Fb.bk {n : Nat} {S C : List Ed} (h : Fb n S C) : ∀ {S2 C2 : List Ed}, Bk n S2 C2 → Bk n (S ++ S2) (C ++ C2) := by
  induction h with
  | nil => intro S2 C2 h; exact h
  | snoc _ h1 h2 ih =>
    intro S2 C2 h
    rw [List.append_assoc, List.append_assoc]
    exact ih (.cons h1 h2 h)
/-- The first block. -/
theorem Bk.first {n : Nat} {S C : List Ed} (h : Bk n S C) (hl : n ≤ S.length) : ∃ S1 C1 S2 C2, S = S1 ++ S2 ∧ C = C1 ++ C2 ∧ S1.length = n ∧ Stb S1 C1 ∧ Bk n S2 C2 := by
  cases h with
  | last h1 h2 => exact ⟨S, C, [], [], by simp, by simp, by omega, h2, .last (by simp) Stb.nil⟩
  | cons h1 h2 h3 => exact ⟨_, _, _, _, rfl, rfl, h1, h2, h3⟩
theorem Bk.short {n : Nat} {S C : List Ed} (h : Bk n S C) (hl : S.length ≤ n) : Stb S C := by
  cases h with
  | last h1 h2 => exact h2
  | cons h1 h2 h3 =>
    rename_i S C S1 C1
    rw [List.length_append] at hl
    have h4 := h3.len
    obtain rfl : S = [] := List.length_eq_zero_iff.1 (by omega)
    obtain rfl : C = [] := List.length_eq_zero_iff.1 (by simpa using h4)
    simpa using h2
end Go.Proofs.Ytochfhoaiekioaa
