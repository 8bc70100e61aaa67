/-
  Plainly: hops as bits of bytes.
-/
import Derived.Test.YtonhehndoifipaaJUnpackHopsBY
namespace Go.Proofs.Ytonhehndoifipaa
open Go.RowKit

/-- A hop's three bits as a number. -/
def hpv (v : Int) : Nat := if v < 0 then 4 else v.toNat
/-- Bit m of all hops. -/
def hbit (L : List Int) (m : Nat) : Bool := hpv (L.getD (m / 3) 0) / 2 ^ (m % 3) % 2 == 1
/-- Byte j, of the first m bits. -/
def pb (L : List Int) : Nat → Nat → Nat
  | 0, _ => 0
  | m + 1, j => pb L m j + (if m / 8 = j ∧ hbit L m = true then 2 ^ (m % 8) else 0)
theorem pb_lt (L : List Int) (j : Nat) : ∀ m, pb L m j < 2 ^ (min 8 (m - 8 * j))
  | 0 => by unfold pb; exact Nat.pow_pos (by decide)
  | m + 1 => by
    have ih := pb_lt L j m
    unfold pb
    by_cases q : m / 8 = j ∧ hbit L m = true
    · rw [if_pos q]
      have e1 : min 8 (m - 8 * j) = m % 8 := by omega
      have e2 : min 8 (m + 1 - 8 * j) = m % 8 + 1 := by omega
      rw [e1] at ih
      rw [e2, Nat.pow_succ]
      omega
    · rw [if_neg q, Nat.add_zero]
      exact Nat.lt_of_lt_of_le ih (Nat.pow_le_pow_right (by decide) (by omega))
theorem pb_byte (L : List Int) (j m : Nat) : pb L m j < 256 := by
  have h := pb_lt L j m
  have : 2 ^ (min 8 (m - 8 * j)) ≤ 2 ^ 8 := Nat.pow_le_pow_right (by decide) (by omega)
  omega
theorem pb_room (L : List Int) (m : Nat) : pb L m (m / 8) < 2 ^ (m % 8) := by
  have h := pb_lt L (m / 8) m
  have e : min 8 (m - 8 * (m / 8)) = m % 8 := by omega
  rw [e] at h
  exact h
/-- All are hops. -/
def hGood (L : List Int) : Bool := L.all fun v => decide (-1 ≤ v) && decide (v ≤ 3)
theorem hGood_iff (L : List Int) : hGood L = true ↔ ∀ i, i < L.length → -1 ≤ L.getD i 0 ∧ L.getD i 0 ≤ 3 := by
  unfold hGood
  rw [List.all_eq_true]
  constructor
  · intro h i hi
    have := h (L.getD i 0) (by rw [List.getD_eq_getElem?_getD, List.getElem?_eq_getElem hi]; exact List.getElem_mem hi)
    rw [Bool.and_eq_true, decide_eq_true_iff, decide_eq_true_iff] at this
    exact this
  · intro h x hx
    obtain ⟨i, hi, rfl⟩ := List.getElem_of_mem hx
    have := h i hi
    rw [List.getD_eq_getElem?_getD, List.getElem?_eq_getElem hi] at this
    rw [Bool.and_eq_true, decide_eq_true_iff, decide_eq_true_iff]
    exact this
/-- The number of bytes. -/
def pkN (L : List Int) : Nat := (3 * L.length + 7) / 8
/-- The bytes, of the first m bits. -/
def pkL (L : List Int) (m : Nat) : List Nat := (List.range (pkN L)).map fun j => pb L m j
theorem pkL_len (L : List Int) (m : Nat) : (pkL L m).length = pkN L := by unfold pkL; simp
theorem pkL_at (L : List Int) (m : Nat) {j : Nat} (h : j < pkN L) : (pkL L m).getD j 0 = pb L m j := by
  unfold pkL
  rw [List.getD_eq_getElem?_getD, List.getElem?_map, List.getElem?_range h]
  rfl
theorem pkL_lo (L : List Int) (m : Nat) : Lo (pkL L m) := fun x hx => by
  unfold pkL at hx
  obtain ⟨j, _, rfl⟩ := List.mem_map.1 hx
  exact pb_byte L j m
/-- What PackHops answers. -/
def pkF (L : List Int) : ByteArray := if hGood L = true then byt (pkL L (3 * L.length)) else ByteArray.empty
def pkC (L : List Int) : Int := if hGood L = true then 0 else 1
theorem pkF_no {L : List Int} (h : ¬ hGood L = true) : pkF L = ByteArray.empty := if_neg h
theorem pkC_no {L : List Int} (h : ¬ hGood L = true) : pkC L = 1 := if_neg h
theorem pkF_yes {L : List Int} (h : hGood L = true) : pkF L = byt (pkL L (3 * L.length)) := if_pos h
theorem pkC_yes {L : List Int} (h : hGood L = true) : pkC L = 0 := if_pos h
theorem pkF_size (L : List Int) (h : L.length ≤ 1048576) : (pkF L).size ≤ 1048576 := by
  unfold pkF
  split
  · rw [byt_size, pkL_len]; unfold pkN; omega
  · exact Nat.zero_le _
theorem bs_nil (w : World) (c : Nat) : BS w (.slice none 0 c) ByteArray.empty := ⟨none, 0, 0, c, rfl, fun h => absurd h (by decide), fun j hj => absurd hj (Nat.not_lt_zero _)⟩
/-- A text in new blocks. -/
def BNw (w w' : World) (v : Value) (s : ByteArray) : Prop := ∃ bl, BF w' v s bl ∧ Fr w w' bl
theorem bf_nil (w : World) (c : Nat) : BF w (.slice none 0 c) ByteArray.empty [] := ⟨none, 0, 0, c, rfl, fun h => absurd h (by decide), rfl, fun j hj => absurd hj (Nat.not_lt_zero _)⟩
/-- A made row that holds the bytes of a list reads as its text. -/
theorem row_bs {w : World} {B n c : Nat} {l : List Nat} (hl : l.length = n) (hlo : Lo l) (h : w.rowIs B 5 n (fun j => .int .u8 (l.getD j 0 : Nat))) : BS w (.slice (some ⟨B, 0, none⟩) n c) (byt l) :=
  ⟨_, B, 0, c, by rw [byt_size, hl], fun _ => rfl, fun j hj => by rw [byt_size] at hj; rw [Nat.zero_add, byt_bts hlo hj]; exact h.cell (by omega)⟩
theorem row_bf {w w0 : World} {B n c : Nat} {l : List Nat} (hl : l.length = n) (hlo : Lo l) (h : w.rowIs B 5 n (fun j => .int .u8 (l.getD j 0 : Nat))) (hB : w0.heap.size ≤ B) (hlt : B < w.heap.size) : ∃ bl, BF w (.slice (some ⟨B, 0, none⟩) n c) (byt l) bl ∧ Fr w0 w bl := by
  by_cases h0 : 0 < l.length
  · exact ⟨[B], ⟨_, B, 0, c, by rw [byt_size, hl], fun _ => rfl, by rw [byt_size, if_pos h0], fun j hj => by rw [byt_size] at hj; rw [Nat.zero_add, byt_bts hlo hj]; exact ⟨h.cell (by omega), h.frozen j⟩⟩, Fr.one hB hlt true⟩
  · exact ⟨[], ⟨_, B, 0, c, by rw [byt_size, hl], fun _ => rfl, by rw [byt_size, if_neg h0], fun j hj => by rw [byt_size] at hj; omega⟩, ⟨List.nodup_nil, (fun x hx => nomatch hx), (fun x hx => nomatch hx)⟩⟩
end Go.Proofs.Ytonhehndoifipaa
