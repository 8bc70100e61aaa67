/-
  Plainly: bytes as hops.
-/
import Derived.Test.YtonhehndoifipaaJFHopsPH
namespace Go.Proofs.Ytonhehndoifipaa
open Go.RowKit

/-- Bit m of the bytes. -/
def bbit (b : ByteArray) (m : Nat) : Nat := (b.get! (m / 8)).toNat / 2 ^ (m % 8) % 2
theorem bbit_le (b : ByteArray) (m : Nat) : bbit b m ≤ 1 := by unfold bbit; omega
/-- Three bits as a number. -/
def upv (b : ByteArray) (i : Nat) : Nat := bbit b (3 * i) + 2 * bbit b (3 * i + 1) + 4 * bbit b (3 * i + 2)
/-- .. and as a hop. -/
def uph (b : ByteArray) (i : Nat) : Int := if upv b i = 4 then -1 else (upv b i : Nat)
def upL (b : ByteArray) (n : Nat) : List Int := (List.range n).map fun i => uph b i
theorem upL_len (b : ByteArray) (n : Nat) : (upL b n).length = n := by unfold upL; simp
theorem upL_succ (b : ByteArray) (n : Nat) : upL b (n + 1) = upL b n ++ [uph b n] := by unfold upL; rw [List.range_succ, List.map_append]; rfl
/-- The upper bits of hop i, j of them. -/
def uvp (b : ByteArray) (i : Nat) : Nat → Nat
  | 0 => 0
  | j + 1 => uvp b i j * 2 + bbit b (3 * i + (2 - j))
theorem uvp_three (b : ByteArray) (i : Nat) : uvp b i 3 = upv b i := by
  show ((0 * 2 + bbit b (3 * i + 2)) * 2 + bbit b (3 * i + 1)) * 2 + bbit b (3 * i) = _
  unfold upv
  omega
theorem uvp_le (b : ByteArray) (i : Nat) : ∀ j, uvp b i j < 2 ^ j
  | 0 => by unfold uvp; decide
  | j + 1 => by
    have h1 := uvp_le b i j
    have h2 := bbit_le b (3 * i + (2 - j))
    unfold uvp
    rw [Nat.pow_succ]
    omega
/-- These bytes are those of n hops. -/
def upOk (b : ByteArray) (n : Nat) : Bool := decide ((3 * n + 7) / 8 = b.size) && (hGood (upL b n) && decide (pkF (upL b n) = b))
/-- What UnpackHops answers. -/
def upF (b : ByteArray) (n : Int) : List Int := if 0 ≤ n ∧ upOk b n.toNat = true then upL b n.toNat else []
def upC (b : ByteArray) (n : Int) : Int := if n < 0 then 1 else if upOk b n.toNat = true then 0 else 9
theorem upF_neg {b : ByteArray} {n : Int} (h : n < 0) : upF b n = [] := if_neg (fun q => by omega)
theorem upC_neg {b : ByteArray} {n : Int} (h : n < 0) : upC b n = 1 := if_pos h
theorem upF_no {b : ByteArray} {n : Int} (h : ¬ upOk b n.toNat = true) : upF b n = [] := if_neg (fun q => h q.2)
theorem upC_no {b : ByteArray} {n : Int} (h0 : 0 ≤ n) (h : ¬ upOk b n.toNat = true) : upC b n = 9 := by unfold upC; rw [if_neg (by omega), if_neg h]
theorem upF_yes {b : ByteArray} {n : Int} (h0 : 0 ≤ n) (h : upOk b n.toNat = true) : upF b n = upL b n.toNat := if_pos ⟨h0, h⟩
theorem upC_yes {b : ByteArray} {n : Int} (h0 : 0 ≤ n) (h : upOk b n.toNat = true) : upC b n = 0 := by unfold upC; rw [if_neg (by omega), if_pos h]
theorem upOk_size {b : ByteArray} {n : Nat} (h : upOk b n = true) : (3 * n + 7) / 8 = b.size := by
  unfold upOk at h
  rw [Bool.and_eq_true, decide_eq_true_iff] at h
  exact h.1
theorem upF_size (b : ByteArray) (n : Int) (h : b.size ≤ 1048576) : (upF b n).length ≤ 100000000 := by
  unfold upF
  split
  · rename_i q
    have := upOk_size q.2
    rw [upL_len]
    omega
  · exact Nat.zero_le _
end Go.Proofs.Ytonhehndoifipaa
