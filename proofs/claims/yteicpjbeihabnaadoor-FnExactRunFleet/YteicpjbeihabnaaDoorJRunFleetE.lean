/-
  Plain facts on literals: what a byte is written as. No run of the program stands in this text.
  Appends of bytes onto rows of the call's own.
-/
import Derived.Test.YteicpjbeihabnaaDoorJRunFleetT
import Derived.Lib.RuneBytes
import Derived.Test.YteicpjbeihabnaaDoorJRunFleetB0
import Derived.Deep.RegionLaw
namespace Go.Proofs.YteicpjbeihabnaaDoor
open Go.RowKit

def dg (k : Nat) : Nat := if k < 10 then 48 + k else 87 + k
def hexL (c : Nat) : List Nat := if c < 16 then [dg c] else [dg (c / 16), dg (c % 16)]
/-- What a byte is written as in a literal. -/
def qb (c : Nat) : List Nat := if c = 34 ∨ c = 92 then [92, c] else if c < 32 ∨ c = 127 then [92, 117, 123] ++ hexL c ++ [125] else [c]
/-- Numbers as cells. -/
def cv (l : List Nat) : List Value := l.map fun n : Nat => Value.int .u8 (n : Int)
def qTo (s : ByteArray) : Nat → List Nat
  | 0 => [34]
  | k + 1 => qTo s k ++ qb (s.get! k).toNat

theorem cv_length (l : List Nat) : (cv l).length = l.length := by simp [cv]
theorem cv_append (a b : List Nat) : cv (a ++ b) = cv a ++ cv b := by simp [cv]
theorem hexL_le (c : Nat) : (hexL c).length ≤ 2 := by unfold hexL; split <;> simp
theorem qb_le (c : Nat) : (qb c).length ≤ 6 := by
  have := hexL_le c
  unfold qb
  split
  · simp
  · split
    · simp; omega
    · simp
theorem qTo_le (s : ByteArray) (k : Nat) : (qTo s k).length ≤ 6 * k + 1 := by
  induction k with
  | zero => simp [qTo]
  | succ k ih => have := qb_le (s.get! k).toNat; rw [qTo, List.length_append]; omega
theorem cv_one (l : List Nat) : ∀ u ∈ cv l, u.oneCell' = true := by
  intro u hu
  simp only [cv, List.mem_map] at hu
  obtain ⟨n, _, rfl⟩ := hu
  rfl

theorem qb_high {c : Nat} (h : 128 ≤ c) : qb c = [c] := by unfold qb; rw [if_neg (by omega), if_neg (by omega)]
theorem qTo_two (s : ByteArray) (p : Nat) (h0 : 128 ≤ bk s p 0) (h1 : 128 ≤ bk s p 1) : qTo s (p + 2) = qTo s p ++ [bk s p 0, bk s p 1] := by
  show qTo s p ++ qb (bk s p 0) ++ qb (bk s p 1) = _
  rw [qb_high h0, qb_high h1]; simp
theorem qTo_three (s : ByteArray) (p : Nat) (h0 : 128 ≤ bk s p 0) (h1 : 128 ≤ bk s p 1) (h2 : 128 ≤ bk s p 2) : qTo s (p + 3) = qTo s p ++ [bk s p 0, bk s p 1, bk s p 2] := by
  show qTo s p ++ qb (bk s p 0) ++ qb (bk s p 1) ++ qb (bk s p 2) = _
  rw [qb_high h0, qb_high h1, qb_high h2]; simp
theorem qTo_four (s : ByteArray) (p : Nat) (h0 : 128 ≤ bk s p 0) (h1 : 128 ≤ bk s p 1) (h2 : 128 ≤ bk s p 2) (h3 : 128 ≤ bk s p 3) : qTo s (p + 4) = qTo s p ++ [bk s p 0, bk s p 1, bk s p 2, bk s p 3] := by
  show qTo s p ++ qb (bk s p 0) ++ qb (bk s p 1) ++ qb (bk s p 2) ++ qb (bk s p 3) = _
  rw [qb_high h0, qb_high h1, qb_high h2, qb_high h3]; simp

/-- A character beyond ASCII: its bytes are its shortest form, and stand as they are in a literal. -/
theorem qTo_rune (s : ByteArray) (p : Nat) (hp : p < s.size) (h : (chr s p).1 ≠ 0) (h0 : 128 ≤ bk s p 0) :
    ∃ ys, qTo s (p + (chr s p).1) = qTo s p ++ ys ∧ cv ys = Lib.runeCells ((chr s p).2 : Int) ∧ 128 ≤ (chr s p).2 ∧ (chr s p).2 ≤ 1114111 ∧ p + (chr s p).1 ≤ s.size := by
  have b0 := bk_lt s p 0
  have b1 := bk_lt s p 1
  have b2 := bk_lt s p 2
  have b3 := bk_lt s p 3
  have hn : ¬ (bk s p 0 < 192 ∨ 248 ≤ bk s p 0) := fun g => h (by rw [chr_none s p h0 g])
  by_cases h2 : bk s p 0 < 224
  · have g := chr_two s p hp (by omega) h2
    by_cases ok : okc s p 2 (bk s p 0 - 192)
    · rw [g.1 ok]
      have hc := (conts_two _).1 ok.2.1
      have hu := (ulen_two _).1 ok.2.2.2
      simp only [vacc, Nat.zero_add, Nat.add_one_sub_one] at hu ⊢
      obtain ⟨V, hV⟩ : ∃ V, (bk s p 0 - 192) * 64 + bk s p 1 % 64 = V := ⟨_, rfl⟩
      rw [hV] at hu ⊢
      refine ⟨_, qTo_two s p h0 hc.1, ?_, hu.1, by omega, ok.1⟩
      have e0 : ((bk s p 0 : Nat) : Int) = 192 + (V : Int) / 64 := by omega
      have e1 : ((bk s p 1 : Nat) : Int) = 128 + (V : Int) % 64 := by omega
      simp only [Lib.runeCells]
      rw [Lib.encodeRuneZ_two (by omega) (by omega), ← e0, ← e1]
      rfl
    · exact absurd (by rw [g.2 ok]) h
  by_cases h3 : bk s p 0 < 240
  · have g := chr_three s p hp (by omega) h3
    by_cases ok : okc s p 3 (bk s p 0 - 224)
    · rw [g.1 ok]
      have hc := (conts_three _).1 ok.2.1
      have hu := (ulen_three _).1 ok.2.2.2
      have hpt := (pointB_nat _).1 ok.2.2.1
      simp only [vacc, Nat.zero_add, Nat.add_one_sub_one, Nat.reduceAdd] at hu hpt ⊢
      obtain ⟨V, hV⟩ : ∃ V, ((bk s p 0 - 224) * 64 + bk s p 1 % 64) * 64 + bk s p 2 % 64 = V := ⟨_, rfl⟩
      rw [hV] at hu hpt ⊢
      refine ⟨_, qTo_three s p h0 hc.1.1 hc.2.1, ?_, by omega, by omega, ok.1⟩
      have e0 : ((bk s p 0 : Nat) : Int) = 224 + (V : Int) / 4096 := by omega
      have e1 : ((bk s p 1 : Nat) : Int) = 128 + (V : Int) / 64 % 64 := by omega
      have e2 : ((bk s p 2 : Nat) : Int) = 128 + (V : Int) % 64 := by omega
      simp only [Lib.runeCells]
      rw [Lib.encodeRuneZ_three (by omega), ← e0, ← e1, ← e2]
      rfl
    · exact absurd (by rw [g.2 ok]) h
  · have g := chr_four s p hp (by omega) (by omega)
    by_cases ok : okc s p 4 (bk s p 0 - 240)
    · rw [g.1 ok]
      have hc := (conts_four _).1 ok.2.1
      have hu := (ulen_four _).1 ok.2.2.2
      have hpt := (pointB_nat _).1 ok.2.2.1
      simp only [vacc, Nat.zero_add, Nat.add_one_sub_one, Nat.reduceAdd] at hu hpt ⊢
      obtain ⟨V, hV⟩ : ∃ V, (((bk s p 0 - 240) * 64 + bk s p 1 % 64) * 64 + bk s p 2 % 64) * 64 + bk s p 3 % 64 = V := ⟨_, rfl⟩
      rw [hV] at hu hpt ⊢
      refine ⟨_, qTo_four s p h0 hc.1.1 hc.2.1.1 hc.2.2.1, ?_, by omega, by omega, ok.1⟩
      have e0 : ((bk s p 0 : Nat) : Int) = 240 + (V : Int) / 262144 := by omega
      have e1 : ((bk s p 1 : Nat) : Int) = 128 + (V : Int) / 4096 % 64 := by omega
      have e2 : ((bk s p 2 : Nat) : Int) = 128 + (V : Int) / 64 % 64 := by omega
      have e3 : ((bk s p 3 : Nat) : Int) = 128 + (V : Int) % 64 := by omega
      simp only [Lib.runeCells]
      rw [Lib.encodeRuneZ_four (by omega) (by omega), ← e0, ← e1, ← e2, ← e3]
      rfl
    · exact absurd (by rw [g.2 ok]) h
/-- What QuoteText answers. -/
def quoted (s : ByteArray) : List Nat := if (chk s).1 = 0 then qTo s s.size ++ [34] else []
end Go.Proofs.YteicpjbeihabnaaDoor

namespace Go.Proofs.YteicpjbeihabnaaDoor
open Go.RowKit

/-- append of bytes, wherever they lie, onto a row of the call's own. -/
theorem wp_app_at {ops : Array Oper} {rest : List Oper} {o : Oper} {a : Act} {Q : Exit → Act → World → Prop} {w : World} (hgd : o.guard = none) (s x : Operand)
    (ho : o.op = .call { callee := .builtin .append, args := #[s, x], argTypes := #[26, 26] }) (B : Nat) (v : Value) (xs : List Nat) (hs : a.eval s = v) (hown : w.ownsRow B 5 1 v xs.length (cv xs))
    (g f c : Nat) (ys : List Nat) (hx : a.eval x = .slice (some ⟨g, f, none⟩) ys.length c) (hnews : ∀ j, j < ys.length → w.cell? ⟨g, f + j, none⟩ = some (.int .u8 (ys.getD j 0 : Nat))) (hlen : xs.length + ys.length ≤ 100000000) (hbase : B ≤ w.heap.size)
    (h : ∀ v' w' l, Hid (l = xs ++ ys) → w'.ownsRow B 5 1 v' l.length (cv l) → w.grownBy w' v.ownBlock → wpList Tryd.prog ops Q rest (a.put o.dst v') w') : wpList Tryd.prog ops Q (o :: rest) a w := by
  obtain ⟨i0, hi, hz0, hz1, hz2⟩ := info_parts Tryd.info5
  refine wpList_append_own _ hgd s x 26 ho B 5 i0 (.int .u8 0) 1 1 Tryd.underlying26 hi hz0 hz1 hz2 rfl (by decide) v xs.length (cv xs) hs hown ⟨g, f, none⟩ ys.length c (cv ys) hx (by rw [cv_length, Nat.mul_one]) (fun j u hj => ?_) (cv_one ys) (by unfold maxLen; omega) (by omega) hbase (fun v' w' h1 h2 _ => ?_)
  · have hjl : j < ys.length := by
      rcases Nat.lt_or_ge j ys.length with h | h
      · exact h
      · rw [List.getElem?_eq_none (by rw [cv_length]; exact h)] at hj; cases hj
    have e : (⟨g, f, none⟩ : Addr).add j = ⟨g, f + j, none⟩ := by unfold Addr.add; split <;> simp_all
    rw [e, hnews j hjl, ← hj]
    simp [cv, List.getD, hjl]
  · refine h v' w' (xs ++ ys) rfl ?_ h2
    rw [List.length_append, cv_append]
    exact h1

/-- append of bytes onto a row of the call's own. -/
theorem wp_app {ops : Array Oper} {rest : List Oper} {o : Oper} {a : Act} {Q : Exit → Act → World → Prop} {w : World} (hgd : o.guard = none) (s x : Operand)
    (ho : o.op = .call { callee := .builtin .append, args := #[s, x], argTypes := #[26, 26] }) (B : Nat) (v : Value) (xs : List Nat) (hs : a.eval s = v) (hown : w.ownsRow B 5 1 v xs.length (cv xs))
    (g c : Nat) (ys : List Nat) (hx : a.eval x = .slice (some ⟨g, 0, none⟩) ys.length c) (hnews : ∀ j, j < ys.length → w.cell? ⟨g, j, none⟩ = some (.int .u8 (ys.getD j 0 : Nat))) (hlen : xs.length + ys.length ≤ 100000000) (hbase : B ≤ w.heap.size)
    (h : ∀ v' w' l, Hid (l = xs ++ ys) → w'.ownsRow B 5 1 v' l.length (cv l) → w.grownBy w' v.ownBlock → wpList Tryd.prog ops Q rest (a.put o.dst v') w') : wpList Tryd.prog ops Q (o :: rest) a w :=
  wp_app_at hgd s x ho B v xs hs hown g 0 c ys hx (fun j hj => by rw [Nat.zero_add]; exact hnews j hj) hlen hbase h

/-- The world behind an append is as it was below the row's base. -/
theorem app_below {B : Nat} {w0 w w' : World} {v : Value} {n : Nat} {xs : List Value} (h : Below B w0 w) (hown : w.ownsRow B 5 1 v n xs) (hB : B ≤ w.heap.size) (hg : w.grownBy w' v.ownBlock) : Below B w0 w' :=
  h.grown hg hB (fun k hk => (hown.lt k hk).1)

theorem own_fix {w : World} {B : Nat} {v : Value} {n : Nat} {l : List Nat} (h : w.ownsRow B 5 1 v n (cv l)) : w.ownsRow B 5 1 v l.length (cv l) := by
  have e : n = l.length := by have := h.1; rw [cv_length] at this; omega
  subst e; exact h
theorem kept_below {w w' : World} {B : Nat} {v : Value} {n : Nat} {xs : List Value} (h : w.ownsRow B 5 1 v n xs) (hb : Below w.heap.size w w') : w'.ownsRow B 5 1 v n xs :=
  h.kept (row := none) ⟨hb.os, hb.tape, hb.output, hb.size, fun k hk _ => hb.block k hk⟩ (by cases v.ownBlock <;> simp)

/-- The slice that owns some bytes, written out. -/
theorem own_slice {w : World} {B : Nat} {v : Value} {l : List Nat} (h : w.ownsRow B 5 1 v l.length (cv l)) (hl : 0 < l.length) :
    ∃ g c, v = .slice (some ⟨g, 0, none⟩) l.length c ∧ B ≤ g ∧ g < w.heap.size ∧ (∀ j, j < l.length → w.cell? ⟨g, j, none⟩ = some (.int .u8 (l.getD j 0 : Nat))) ∧ ∀ j, w.frozen? ⟨g, j, none⟩ = false := by
  rcases h.2 with ⟨_, h0⟩ | ⟨g, c, cur, hv, hb, hg, _⟩
  · omega
  · refine ⟨g, c, hv, hb, (Array.getElem?_eq_some_iff.1 hg).1, fun j hj => ?_, fun j => ?_⟩
    · rw [hv] at h
      rw [h.cellAt j (by omega)]
      simp [cv, List.getD, hj]
    · rw [hv] at h
      exact h.frozenAt j
theorem ret_vi {k : IntKind} {v : Value} {a b : Int} (h : a = b) : Ending.returned (.tuple #[v, .int k a]) = .returned (.tuple #[v, .int k b]) := by rw [h]
theorem cell_fresh (w : World) (cs : Array Value) (t : TypeId) (j : Nat) : (w.alloc (.cells cs t)).cell? ⟨w.heap.size, j, none⟩ = cs[j]? := by
  have h : (w.alloc (.cells cs t)).heap[w.heap.size]? = some (.cells cs t) := by
    show (w.heap.push _)[w.heap.size]? = _
    rw [Array.getElem?_push_size]
  unfold World.cell?
  rw [h]
  rfl
end Go.Proofs.YteicpjbeihabnaaDoor
