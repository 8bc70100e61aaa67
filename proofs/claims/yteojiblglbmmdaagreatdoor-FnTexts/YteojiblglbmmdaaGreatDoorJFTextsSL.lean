/-
  Rows of tokens; how far blanks and tokens reach.
-/
import Derived.Test.YteojiblglbmmdaaGreatDoorJFTextsLX
import Derived.Test.YteojiblglbmmdaaGreatDoorJFTextsAP
namespace Go.Proofs.YteojiblglbmmdaaGreatDoor
open Go.RowKit

/-- Tokens as cells. -/
def tcv : List (Nat × Nat × Nat) → List Value
  | [] => []
  | t :: r => .int .i64 (t.1 : Nat) :: .int .i64 (t.2.1 : Nat) :: .int .i64 (t.2.2 : Nat) :: tcv r
theorem tcv_length : ∀ l, (tcv l).length = l.length * 3
  | [] => rfl
  | _ :: r => by simp only [tcv, List.length_cons, tcv_length r]; omega
theorem tcv_append : ∀ a b, tcv (a ++ b) = tcv a ++ tcv b
  | [], _ => rfl
  | t :: r, b => by simp only [List.cons_append, tcv, tcv_append r b]
theorem tcv_one : ∀ l, ∀ u ∈ tcv l, u.oneCell' = true
  | [], _, h => by cases h
  | t :: r, u, h => by
    simp only [tcv, List.mem_cons] at h
    rcases h with rfl | rfl | rfl | h
    · rfl
    · rfl
    · rfl
    · exact tcv_one r u h

theorem Tryz.infoTok : (Tryz.prog.info? 33).map (fun i => (i.zero, i.size, i.bytes)) = some (some (.agg #[.int .i64 0, .int .i64 0, .int .i64 0]), 3, 24) := by kernel_rfl

/-- append of a token onto a row of the call's own. -/
theorem wp_tok {ops : Array Oper} {rest : List Oper} {o : Oper} {a : Act} {Q : Exit → Act → World → Prop} {w : World} (hgd : o.guard = none) (s x : Operand)
    (ho : o.op = .call { callee := .builtin .append, args := #[s, x], argTypes := #[28, 28] }) (B : Nat) (v : Value) (xs : List (Nat × Nat × Nat)) (hs : a.eval s = v) (hown : w.ownsRow B 33 3 v xs.length (tcv xs))
    (g c : Nat) (t : Nat × Nat × Nat) (hx : a.eval x = .slice (some ⟨g, 0, none⟩) 1 c) (hnews : ∀ j u, (tcv [t])[j]? = some u → w.cell? ⟨g, j, none⟩ = some u) (hlen : xs.length ≤ 100000000) (hbase : B ≤ w.heap.size)
    (h : ∀ v' w' l, Hid (l = xs ++ [t]) → w'.ownsRow B 33 3 v' l.length (tcv l) → w.grownBy w' v.ownBlock → wpList Tryz.prog ops Q rest (a.put o.dst v') w') : wpList Tryz.prog ops Q (o :: rest) a w := by
  obtain ⟨i0, hi, hz0, hz1, hz2⟩ := info_parts Tryz.infoTok
  refine wpList_append_own _ hgd s x 28 ho B 33 i0 _ 3 24 Tryz.underlying28 hi hz0 hz1 hz2 rfl (by decide) v xs.length (tcv xs) hs hown ⟨g, 0, none⟩ 1 c (tcv [t]) hx rfl (fun j u hj => ?_) (tcv_one [t]) (by unfold maxLen; omega) (by omega) hbase (fun v' w' h1 h2 _ => ?_)
  · have e : (⟨g, 0, none⟩ : Addr).add j = ⟨g, j, none⟩ := by unfold Addr.add; split <;> simp_all
    rw [e]; exact hnews j u hj
  · refine h v' w' (xs ++ [t]) rfl ?_ h2
    rw [List.length_append, tcv_append]
    exact h1
theorem tok_below {B : Nat} {w0 w w' : World} {v : Value} {n : Nat} {xs : List Value} {e k : Nat} (h : Below B w0 w) (hown : w.ownsRow B e k v n xs) (hB : B ≤ w.heap.size) (hg : w.grownBy w' v.ownBlock) : Below B w0 w' :=
  h.grown hg hB (fun k hk => (hown.lt k hk).1)
theorem own_below {w w' : World} {B e k : Nat} {v : Value} {n : Nat} {xs : List Value} (h : w.ownsRow B e k v n xs) (hb : Below w.heap.size w w') : w'.ownsRow B e k v n xs :=
  h.kept (row := none) ⟨hb.os, hb.tape, hb.output, hb.size, fun k hk _ => hb.block k hk⟩ (by cases v.ownBlock <;> simp)

theorem lex_end {s : ByteArray} {f p : Nat} {acc : List (Nat × Nat × Nat)} (h : ¬ p < s.size) : lex s f p acc = (acc, 0, 0) := by cases f <;> simp [lex, h]
theorem lex_step {s : ByteArray} {f p : Nat} {acc : List (Nat × Nat × Nat)} (hf : s.size < p + f) (h : p < s.size) : ∃ g, f = g + 1 ∧ lex s f p acc =
      (if 0 < bl s p then lex s g (p + (bl s p).toNat) acc
      else if bl s p < 0 then ([], 2, p)
      else if (tok s p).2 = 0 then ([], 2, p)
      else lex s g (p + (tok s p).2) (acc ++ [((tok s p).1, p, (tok s p).2)])) := by
  cases f with
  | zero => omega
  | succ f => exact ⟨f, rfl, by rw [lex, if_pos h]⟩

theorem ln_le (s : ByteArray) (q : Nat) (h : q ≤ s.size) : q + ln s q ≤ s.size := by
  unfold ln
  rcases Nat.eq_zero_or_pos (cw (fun c => c != 10) s q s.size) with g | g
  · omega
  · have := (cw_all (fun c => c != 10) s s.size q (cw (fun c => c != 10) s q s.size - 1) (by omega)).1
    omega
theorem bc_le (s : ByteArray) : ∀ f q r, bc s q f = some r → q ≤ r ∧ r + 1 < s.size
  | 0, _, _, h => by cases h
  | f + 1, q, r, h => by
    rw [bc] at h
    by_cases c : q + 1 < s.size
    · rw [if_pos c] at h
      by_cases d : (s.get! q).toNat = 42 ∧ (s.get! (q + 1)).toNat = 47
      · rw [if_pos d] at h
        have e := Option.some.inj h
        omega
      · rw [if_neg d] at h
        have := bc_le s f (q + 1) r h
        omega
    · rw [if_neg c] at h; cases h
theorem bl_le (s : ByteArray) (p : Nat) (hp : p < s.size) : -1 ≤ bl s p ∧ (p : Int) + bl s p ≤ (s.size : Int) := by
  unfold bl
  by_cases h1 : (s.get! p).toNat = 32 ∨ (s.get! p).toNat = 9 ∨ (s.get! p).toNat = 13 ∨ (s.get! p).toNat = 10
  · rw [if_pos h1]; omega
  rw [if_neg h1]
  by_cases h2 : (s.get! p).toNat ≠ 47 ∨ s.size ≤ p + 1
  · rw [if_pos h2]; omega
  rw [if_neg h2]
  by_cases h3 : (s.get! (p + 1)).toNat = 47
  · rw [if_pos h3]
    have := ln_le s (p + 2) (by omega)
    omega
  rw [if_neg h3]
  by_cases h4 : (s.get! (p + 1)).toNat ≠ 42
  · rw [if_pos h4]; omega
  rw [if_neg h4]
  cases e : bc s (p + 2) s.size with
  | none => show -1 ≤ (-1 : Int) ∧ (p : Int) + -1 ≤ _; omega
  | some q =>
    have := bc_le s _ _ _ e
    show -1 ≤ ((q - p + 2 : Nat) : Int) ∧ (p : Int) + ((q - p + 2 : Nat) : Int) ≤ _
    omega
theorem lit_in (s : ByteArray) : ∀ f i acc l q, i ≤ s.size → lit s f i acc = some (l, q) → i < q ∧ q ≤ s.size
  | 0, _, _, _, _, _, h => by simp [lit] at h
  | f + 1, i, acc, l, q, hi, h => by
    rw [lit] at h
    by_cases h1 : s.size ≤ i
    · rw [if_pos h1] at h; cases h
    rw [if_neg h1] at h
    by_cases h2 : (s.get! i).toNat = 34
    · rw [if_pos h2] at h
      have e : i + 1 = q := by injection h with h; injection h
      omega
    rw [if_neg h2] at h
    by_cases h3 : (s.get! i).toNat = 10
    · rw [if_pos h3] at h; cases h
    rw [if_neg h3] at h
    by_cases h4 : (s.get! i).toNat = 92
    · rw [if_pos h4] at h
      by_cases h5 : (esc s (i + 1)).2 = 0
      · rw [if_pos h5] at h; cases h
      · rw [if_neg h5] at h
        have he := ((esc_le s (i + 1)).2.2 h5).1
        have ih := lit_in s f _ _ l q (by omega) h
        omega
    · rw [if_neg h4] at h
      have ih := lit_in s f _ _ l q (by omega) h
      omega
theorem litRes_le (s : ByteArray) (p : Nat) (hp : p < s.size) : p + (litRes s p).2 ≤ s.size := by
  unfold litRes litAt
  by_cases h : s.size ≤ p ∨ (s.get! p).toNat ≠ 34
  · rw [if_pos h]; show p + 0 ≤ _; omega
  · rw [if_neg h]
    cases e : lit s (s.size + 1) (p + 1) [] with
    | none => show p + 0 ≤ _; omega
    | some lq =>
      obtain ⟨l, q⟩ := lq
      have := lit_in s _ _ _ l q (by omega) e
      show p + (q - p) ≤ _
      omega
theorem sg_le (s : ByteArray) (p : Nat) (hp : p < s.size) : p + sg s p ≤ s.size := by
  unfold sg
  by_cases h : p + 2 ≤ s.size ∧ sl2.contains [s.get! p, s.get! (p + 1)] = true
  · rw [if_pos h]; omega
  · rw [if_neg h]; split <;> omega
theorem tok_le (s : ByteArray) (p : Nat) (hp : p < s.size) : p + (tok s p).2 ≤ s.size := by
  have hr := run_le s p (by omega)
  have hl := litRes_le s p hp
  have hg := sg_le s p hp
  unfold tok
  split
  · exact hr
  · split
    · split
      · show p + 0 ≤ _; omega
      · exact hr
    · split
      · exact hl
      · split
        · show p + 0 ≤ _; omega
        · exact hg
/-- Tokens and two numbers, as an answer. -/
def LexGives (w w' : World) (e : Ending) (r : List (Nat × Nat × Nat) × Nat × Nat) : Prop :=
  ∃ v', e = .returned (.tuple #[v', .int .i64 (r.2.1 : Nat), .int .i64 (r.2.2 : Nat)]) ∧ w'.ownsRow w.heap.size 33 3 v' r.1.length (tcv r.1) ∧ Below w.heap.size w w'
theorem lexGives_nil {w w' : World} {r : List (Nat × Nat × Nat) × Nat × Nat} {a c : Nat} (h : r = ([], a, c)) (hb : Below w.heap.size w w') : LexGives w w' (.returned (.tuple #[.slice none 0 0, .int .i64 a, .int .i64 c])) r := by
  rw [h]; exact ⟨_, rfl, World.ownsRow_nil _ _ _ _, hb⟩
end Go.Proofs.YteojiblglbmmdaaGreatDoor
