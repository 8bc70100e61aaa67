/-
  Rows and boxes told apart by their types.
  Rows of tokens; how far blanks and tokens reach.
  Tokens in memory.
  The reader of trees in memory; what it reads now.
  The reader of trees: what it reads now, words, names.
  The reader of trees: words, faults, names; signs and ways.
  Variables in memory; spec.l3first, l3find.
-/
import Derived.Test.YtdlahabeegmjiaaDoorJCkMK
import Derived.Test.YtdlahabeegmjiaaDoorJCkZ
import Derived.Test.YtdlahabeegmjiaaDoorJCkAP
import Derived.Test.YtdlahabeegmjiaaDoorJCkGN0
import Derived.Test.YtdlahabeegmjiaaDoorJCkC
import Derived.BigQuiet
import Derived.Deep.QuietTactic
import Derived.Test.YtdlahabeegmjiaaDoorJCkCV
import Derived.Deep.RegionHeld3
import Derived.Lib.ConvBytes
import Derived.Test.YtdlahabeegmjiaaDoorJCkCKV
import Derived.Test.YtdlahabeegmjiaaDoorJCkPNS
namespace Go.Proofs.YtdlahabeegmjiaaDoor
open Go.RowKit

/-- A row of the call's own stays where its block stays. -/
theorem own_typed {w w' : World} {B e sz n : Nat} {v : Value} {xs : List Value} (h : w.ownsRow B e sz v n xs) (hk : ∀ g cur, Blk w g e cur → Blk w' g e cur) : w'.ownsRow B e sz v n xs := by
  refine ⟨h.1, ?_⟩
  rcases h.2 with hn | ⟨g, cap, cur, hv, hb, hgg, rest⟩
  · exact .inl hn
  · exact .inr ⟨g, cap, cur, hv, hb, hk g cur hgg, rest⟩
/-- Behind an append the blocks of other types are as they were. -/
theorem app_typed {w w' : World} {B b e sz n : Nat} {v : Value} {xs : List Value} {t : TypeId} {cs : Array Value} (h : Blk w b t cs) (ht : t ≠ e) (hown : w.ownsRow B e sz v n xs) (hg : w.grownBy w' v.ownBlock) : Blk w' b t cs := by
  refine (hg.block b h.lt (fun q => ht ?_)).trans h
  rcases hown.2 with ⟨rfl, _⟩ | ⟨g, cap, cur, rfl, _, hgg, _⟩
  · simp [Value.ownBlock] at q
  · simp only [Value.ownBlock, Option.some.injEq] at q
    subst q
    unfold Blk at h
    rw [h] at hgg
    injection hgg with h1
    injection h1 with _ h2
theorem set_typed {w : World} {M k g : Nat} {v : Value} {t T : TypeId} {cs cs0 : Array Value} (hM : Blk w M T cs0) (h : Blk w g t cs) (ht : t ≠ T) : Blk (w.setCell ⟨M, k, none⟩ v) g t cs :=
  h.other k v (fun e => by
    subst e
    unfold Blk at h hM
    rw [h] at hM
    injection hM with h1
    injection h1 with _ h2
    exact ht h2)
theorem wrs_new {bl : List Nat} {w w' : World} {M k : Nat} {v : Value} (h : Wrs bl w w') (hM : w.heap.size ≤ M) : Wrs bl w (w'.setCell ⟨M, k, none⟩ v) :=
  ⟨h.os, h.tape, h.output, by rw [World.size_setCell]; exact h.size, fun g hg hb => (Below.heap_setCell _ _ _ _ (by show g ≠ M; omega)).trans (h.blk g hg hb)⟩
theorem own_base {w : World} {B B' e sz n : Nat} {v : Value} {xs : List Value} (h : w.ownsRow B e sz v n xs) (hB : B' ≤ B) : w.ownsRow B' e sz v n xs := by
  refine ⟨h.1, ?_⟩
  rcases h.2 with h | ⟨g, cap, cur, h1, h2, h3⟩
  · exact .inl h
  · exact .inr ⟨g, cap, cur, h1, Nat.le_trans hB h2, h3⟩
theorem wrs_blk {w w' : World} {g k : Nat} {t : TypeId} {cs : Array Value} (hw : Wrs [g] w w') (h : Blk w k t cs) (hk : k ≠ g) : Blk w' k t cs := (hw.blk k h.lt (by simp; exact hk)).trans h
theorem wrs_far {bl : List Nat} {w0 w w' : World} {B e sz n : Nat} {v : Value} {xs : List Value} (h : Wrs bl w0 w) (hB : w0.heap.size ≤ B) (hown : w.ownsRow B e sz v n xs) (hg : w.grownBy w' v.ownBlock) : Wrs bl w0 w' := by
  have h1 : Below w0.heap.size w w' := (Below.refl _ w).grown hg h.size (fun k hk => by have := (hown.lt k hk).1; omega)
  exact ⟨h1.os.trans h.os, h1.tape.trans h.tape, h1.output.trans h.output, Nat.le_trans h.size h1.size, fun g hg hb => (h1.block g hg).trans (h.blk g hg hb)⟩
end Go.Proofs.YtdlahabeegmjiaaDoor

namespace Go.Proofs.YtdlahabeegmjiaaDoor
open Go.RowKit

/-- Tokens as cells. -/
def tcv : List (Nat × Nat × Nat) → List Value
  | [] => []
  | t :: r => .int .i64 (t.1 : Nat) :: .int .i64 (t.2.1 : Nat) :: .int .i64 (t.2.2 : Nat) :: tcv r
theorem tcv_length : ∀ l, (tcv l).length = l.length * 3
  | [] => rfl
  | _ :: r => by simp only [tcv, List.length_cons, tcv_length r]; omega
theorem tcv_append : ∀ a b, tcv (a ++ b) = tcv a ++ tcv b
  | [], _ => rfl
  | t :: r, b => by simp only [List.cons_append, tcv, tcv_append r b]
theorem tcv_one : ∀ l, ∀ u ∈ tcv l, u.oneCell' = true
  | [], _, h => by cases h
  | t :: r, u, h => by
    simp only [tcv, List.mem_cons] at h
    rcases h with rfl | rfl | rfl | h
    · rfl
    · rfl
    · rfl
    · exact tcv_one r u h

theorem tok_below {B : Nat} {w0 w w' : World} {v : Value} {n : Nat} {xs : List Value} {e k : Nat} (h : Below B w0 w) (hown : w.ownsRow B e k v n xs) (hB : B ≤ w.heap.size) (hg : w.grownBy w' v.ownBlock) : Below B w0 w' :=
  h.grown hg hB (fun k hk => (hown.lt k hk).1)
theorem own_below {w w' : World} {B e k : Nat} {v : Value} {n : Nat} {xs : List Value} (h : w.ownsRow B e k v n xs) (hb : Below w.heap.size w w') : w'.ownsRow B e k v n xs :=
  h.kept (row := none) ⟨hb.os, hb.tape, hb.output, hb.size, fun k hk _ => hb.block k hk⟩ (by cases v.ownBlock <;> simp)

theorem lex_end {s : ByteArray} {f p : Nat} {acc : List (Nat × Nat × Nat)} (h : ¬ p < s.size) : lex s f p acc = (acc, 0, 0) := by cases f <;> simp [lex, h]
theorem lex_step {s : ByteArray} {f p : Nat} {acc : List (Nat × Nat × Nat)} (hf : s.size < p + f) (h : p < s.size) : ∃ g, f = g + 1 ∧ lex s f p acc =
      (if 0 < bl s p then lex s g (p + (bl s p).toNat) acc
      else if bl s p < 0 then ([], 2, p)
      else if (tok s p).2 = 0 then ([], 2, p)
      else lex s g (p + (tok s p).2) (acc ++ [((tok s p).1, p, (tok s p).2)])) := by
  cases f with
  | zero => omega
  | succ f => exact ⟨f, rfl, by rw [lex, if_pos h]⟩

theorem ln_le (s : ByteArray) (q : Nat) (h : q ≤ s.size) : q + ln s q ≤ s.size := by
  unfold ln
  rcases Nat.eq_zero_or_pos (cw (fun c => c != 10) s q s.size) with g | g
  · omega
  · have := (cw_all (fun c => c != 10) s s.size q (cw (fun c => c != 10) s q s.size - 1) (by omega)).1
    omega
theorem bc_le (s : ByteArray) : ∀ f q r, bc s q f = some r → q ≤ r ∧ r + 1 < s.size
  | 0, _, _, h => by cases h
  | f + 1, q, r, h => by
    rw [bc] at h
    by_cases c : q + 1 < s.size
    · rw [if_pos c] at h
      by_cases d : (s.get! q).toNat = 42 ∧ (s.get! (q + 1)).toNat = 47
      · rw [if_pos d] at h
        have e := Option.some.inj h
        omega
      · rw [if_neg d] at h
        have := bc_le s f (q + 1) r h
        omega
    · rw [if_neg c] at h; cases h
theorem bl_le (s : ByteArray) (p : Nat) (hp : p < s.size) : -1 ≤ bl s p ∧ (p : Int) + bl s p ≤ (s.size : Int) := by
  unfold bl
  by_cases h1 : (s.get! p).toNat = 32 ∨ (s.get! p).toNat = 9 ∨ (s.get! p).toNat = 13 ∨ (s.get! p).toNat = 10
  · rw [if_pos h1]; omega
  rw [if_neg h1]
  by_cases h2 : (s.get! p).toNat ≠ 47 ∨ s.size ≤ p + 1
  · rw [if_pos h2]; omega
  rw [if_neg h2]
  by_cases h3 : (s.get! (p + 1)).toNat = 47
  · rw [if_pos h3]
    have := ln_le s (p + 2) (by omega)
    omega
  rw [if_neg h3]
  by_cases h4 : (s.get! (p + 1)).toNat ≠ 42
  · rw [if_pos h4]; omega
  rw [if_neg h4]
  cases e : bc s (p + 2) s.size with
  | none => show -1 ≤ (-1 : Int) ∧ (p : Int) + -1 ≤ _; omega
  | some q =>
    have := bc_le s _ _ _ e
    show -1 ≤ ((q - p + 2 : Nat) : Int) ∧ (p : Int) + ((q - p + 2 : Nat) : Int) ≤ _
    omega
theorem lit_in (s : ByteArray) : ∀ f i acc l q, i ≤ s.size → lit s f i acc = some (l, q) → i < q ∧ q ≤ s.size
  | 0, _, _, _, _, _, h => by simp [lit] at h
  | f + 1, i, acc, l, q, hi, h => by
    rw [lit] at h
    by_cases h1 : s.size ≤ i
    · rw [if_pos h1] at h; cases h
    rw [if_neg h1] at h
    by_cases h2 : (s.get! i).toNat = 34
    · rw [if_pos h2] at h
      have e : i + 1 = q := by injection h with h; injection h
      omega
    rw [if_neg h2] at h
    by_cases h3 : (s.get! i).toNat = 10
    · rw [if_pos h3] at h; cases h
    rw [if_neg h3] at h
    by_cases h4 : (s.get! i).toNat = 92
    · rw [if_pos h4] at h
      by_cases h5 : (esc s (i + 1)).2 = 0
      · rw [if_pos h5] at h; cases h
      · rw [if_neg h5] at h
        have he := ((esc_le s (i + 1)).2.2 h5).1
        have ih := lit_in s f _ _ l q (by omega) h
        omega
    · rw [if_neg h4] at h
      have ih := lit_in s f _ _ l q (by omega) h
      omega
theorem litRes_le (s : ByteArray) (p : Nat) (hp : p < s.size) : p + (litRes s p).2 ≤ s.size := by
  unfold litRes litAt
  by_cases h : s.size ≤ p ∨ (s.get! p).toNat ≠ 34
  · rw [if_pos h]; show p + 0 ≤ _; omega
  · rw [if_neg h]
    cases e : lit s (s.size + 1) (p + 1) [] with
    | none => show p + 0 ≤ _; omega
    | some lq =>
      obtain ⟨l, q⟩ := lq
      have := lit_in s _ _ _ l q (by omega) e
      show p + (q - p) ≤ _
      omega
theorem sg_le (s : ByteArray) (p : Nat) (hp : p < s.size) : p + sg s p ≤ s.size := by
  unfold sg
  by_cases h : p + 2 ≤ s.size ∧ sl2.contains [s.get! p, s.get! (p + 1)] = true
  · rw [if_pos h]; omega
  · rw [if_neg h]; split <;> omega
theorem tok_le (s : ByteArray) (p : Nat) (hp : p < s.size) : p + (tok s p).2 ≤ s.size := by
  have hr := run_le s p (by omega)
  have hl := litRes_le s p hp
  have hg := sg_le s p hp
  unfold tok
  split
  · exact hr
  · split
    · split
      · show p + 0 ≤ _; omega
      · exact hr
    · split
      · exact hl
      · split
        · show p + 0 ≤ _; omega
        · exact hg
end Go.Proofs.YtdlahabeegmjiaaDoor

namespace Go.Proofs.YtdlahabeegmjiaaDoor
open Go.RowKit

/-- Tokens that lie at the head of a block. -/
def TCells (w : World) (g : Nat) (l : List (Nat × Nat × Nat)) : Prop := ∀ i, i < l.length → w.cell? ⟨g, i * 3, none⟩ = some (.int .i64 ((l.getD i (0, 0, 0)).1 : Nat)) ∧ w.cell? ⟨g, i * 3 + 1, none⟩ = some (.int .i64 ((l.getD i (0, 0, 0)).2.1 : Nat)) ∧ w.cell? ⟨g, i * 3 + 2, none⟩ = some (.int .i64 ((l.getD i (0, 0, 0)).2.2 : Nat))
theorem tcv_at : ∀ (l : List (Nat × Nat × Nat)) i, i < l.length → (tcv l)[i * 3]? = some (.int .i64 ((l.getD i (0, 0, 0)).1 : Nat)) ∧ (tcv l)[i * 3 + 1]? = some (.int .i64 ((l.getD i (0, 0, 0)).2.1 : Nat)) ∧ (tcv l)[i * 3 + 2]? = some (.int .i64 ((l.getD i (0, 0, 0)).2.2 : Nat))
  | [], i, h => absurd h (Nat.not_lt_zero _)
  | t :: r, 0, _ => ⟨rfl, rfl, rfl⟩
  | t :: r, i + 1, h => by
    have ih := tcv_at r i (by simpa using h)
    rw [show (i + 1) * 3 = i * 3 + 3 by omega]
    exact ih
end Go.Proofs.YtdlahabeegmjiaaDoor

namespace Go.Proofs.YtdlahabeegmjiaaDoor
open Go.RowKit

/-- Where the reader, the source and the tokens lie. -/
structure PsC where
  P : Nat
  a0 : Option Addr
  b : Nat
  o : Nat
  cap : Nat
  ta : Option Addr
  tb : Nat
  tc : Nat
end Go.Proofs.YtdlahabeegmjiaaDoor

namespace Go.Proofs.YtdlahabeegmjiaaDoor
open Go.RowKit

end Go.Proofs.YtdlahabeegmjiaaDoor

namespace Go.Proofs.YtdlahabeegmjiaaDoor
open Go.RowKit

theorem str_dec (a b : ByteArray) : (a.toList == b.toList) = decide (a = b) := by
  by_cases h : a = b
  · rw [h, decide_eq_true rfl, beq_iff_eq]
  · rw [decide_eq_false h, beq_eq_false_iff_ne]
    intro g
    rw [ByteArray.toList_eq, ByteArray.toList_eq] at g
    exact h (ByteArray.ext (Array.toList_inj.1 g))

end Go.Proofs.YtdlahabeegmjiaaDoor

namespace Go.Proofs.YtdlahabeegmjiaaDoor
open Go.RowKit

/-- A variable: its name, its type, its value. -/
structure Vr where
  name : ByteArray
  typ : Int
  vt : Int
  vn : Int
  vs : ByteArray
def Vr.cs (x : Vr) (u : Value) : List Value := [u, .int .i64 x.typ, .int .i64 x.vt, .int .i64 x.vn, .string x.vs]
def vrcs : List Value → List Vr → List Value
  | u :: U, x :: vs => x.cs u ++ vrcs U vs
  | _, _ => []
theorem vrcs_len : ∀ (U : List Value) (vs : List Vr), U.length = vs.length → (vrcs U vs).length = vs.length * 5
  | [], [], _ => rfl
  | u :: U, x :: vs, h => by
    rw [vrcs, List.length_append, vrcs_len U vs (by simpa using h), List.length_cons]
    show 5 + _ = _
    omega
  | [], _ :: _, h => by simp at h
  | _ :: _, [], h => by simp at h
theorem vrcs_app : ∀ (U : List Value) (vs : List Vr) (U' : List Value) (vs' : List Vr), U.length = vs.length → vrcs (U ++ U') (vs ++ vs') = vrcs U vs ++ vrcs U' vs'
  | [], [], _, _, _ => rfl
  | u :: U, x :: vs, U', vs', h => by
    show x.cs u ++ vrcs (U ++ U') (vs ++ vs') = (x.cs u ++ vrcs U vs) ++ vrcs U' vs'
    rw [vrcs_app U vs U' vs' (by simpa using h), List.append_assoc]
  | [], _ :: _, _, _, h => by simp at h
  | _ :: _, [], _, _, h => by simp at h
theorem vrcs_at : ∀ (U : List Value) (vs : List Vr), U.length = vs.length → ∀ (j : Nat) (x : Vr) (u : Value), vs[j]? = some x → U[j]? = some u → ∀ i, i < 5 → (vrcs U vs)[j * 5 + i]? = (x.cs u)[i]?
  | [], [], _, j, x, u, h, _, _, _ => by simp at h
  | a :: U, y :: vs, hl, 0, x, u, h, hu, i, hi => by
    obtain rfl : y = x := by simpa using h
    obtain rfl : a = u := by simpa using hu
    show (y.cs a ++ vrcs U vs)[0 * 5 + i]? = _
    rw [Nat.zero_mul, Nat.zero_add, List.getElem?_append_left (by show i < 5; exact hi)]
  | a :: U, y :: vs, hl, j + 1, x, u, h, hu, i, hi => by
    show (y.cs a ++ vrcs U vs)[(j + 1) * 5 + i]? = _
    rw [List.getElem?_append_right (by show 5 ≤ _; omega)]
    rw [show (j + 1) * 5 + i - (y.cs a).length = j * 5 + i by show _ - 5 = _; omega]
    exact vrcs_at U vs (by simpa using hl) j x u (by simpa using h) (by simpa using hu) i hi
  | [], _ :: _, h, _, _, _, _, _, _, _ => by simp at h
  | _ :: _, [], h, _, _, _, _, _, _, _ => by simp at h
/-- A row of variables of the call's own; their names lie in the memory of w0. -/
structure VO (w0 V : World) (B : Nat) (vv : Value) (vs : List Vr) (U : List Value) : Prop where
  own : V.ownsRow B 67 5 vv vs.length (vrcs U vs)
  len : U.length = vs.length
  nam : ∀ (j : Nat) (x : Vr), vs[j]? = some x → ∃ u, U[j]? = some u ∧ BS w0 u x.name ∧ x.name.size ≤ 1048576
theorem VO.nil (w0 V : World) (B : Nat) : VO w0 V B (.slice none 0 0) [] [] := ⟨World.ownsRow_nil _ _ _ _, rfl, fun j x h => by simp at h⟩
theorem VO.gw {w0 V V' : World} {B : Nat} {vv : Value} {vs : List Vr} {U : List Value} {P : Nat → Prop} (h : VO w0 V B vv vs U) (hg : Gw P V V') (hp : ∀ k, vv.ownBlock = some k → ¬ P k) : VO w0 V' B vv vs U := ⟨hg.own h.own hp, h.len, h.nam⟩
/-- The last variable with a name, or -1. -/
def fdI (vs : List Vr) (nm : ByteArray) : Nat → Int
  | 0 => -1
  | k + 1 => if (vs.getD k ⟨.empty, 0, 0, 0, .empty⟩).name = nm then (k : Int) else fdI vs nm k
theorem fdI_rng (vs : List Vr) (nm : ByteArray) : ∀ k, -1 ≤ fdI vs nm k ∧ fdI vs nm k < k
  | 0 => by rw [fdI]; omega
  | k + 1 => by have := fdI_rng vs nm k; rw [fdI]; split <;> omega

set_option maxHeartbeats 1000000 in
set_option maxRecDepth 1000000 in
theorem l3first_any (a : Int) (i : Nat) (w : World) : Calls Tryd.prog 27 #[.int .i64 a, .int .i64 (i : Nat)] w fun r w' => r = .returned (.int .i64 (fstI a i)) ∧ w' = w := by
  by_cases h1 : a < 0
  · have d1 : decide (a < 0) = true := decide_eq_true h1
    have HF : Hid (fstI a i = i) := by show _ = _; unfold fstI; rw [if_pos (.inl h1)]
    go_enter Tryd.func27, Tryd.ntmps27
    go_wp2
    go_ret
    exact ⟨by rw [HF.out]; rfl, rfl⟩
  · have d1 : decide (a < 0) = false := decide_eq_false h1
    by_cases h2 : (i : Int) < a
    · have d2 : decide ((i : Int) < a) = true := decide_eq_true h2
      have HF : Hid (fstI a i = i) := by show _ = _; unfold fstI; rw [if_pos (.inr h2)]
      go_enter Tryd.func27, Tryd.ntmps27
      go_wp2
      go_ret
      exact ⟨by rw [HF.out]; rfl, rfl⟩
    · have d2 : decide ((i : Int) < a) = false := decide_eq_false h2
      have HF : Hid (fstI a i = a) := by show _ = _; unfold fstI; rw [if_neg (by omega)]
      go_enter Tryd.func27, Tryd.ntmps27
      go_wp2
      go_ret
      exact ⟨by rw [HF.out]; rfl, rfl⟩

set_option maxHeartbeats 2000000 in
set_option maxRecDepth 1000000 in
theorem l3find_any {w0 w : World} {B : Nat} {vv u : Value} {vs : List Vr} {U : List Value} {nm : ByteArray} (hb : Below w0.heap.size w0 w) (h : VO w0 w B vv vs U) (hu : BS w0 u nm) (hl : vs.length ≤ 1048576) :
    Calls Tryd.prog 28 #[vv, u] w fun r w' => r = .returned (.int .i64 (fdI vs nm vs.length)) ∧ ∃ m, w' = w.drewN m := by
  obtain ⟨va, vc, rfl⟩ := own_sl h.own
  obtain ⟨a1, b1, o1, c1, rfl, hua, huc⟩ := hu
  have HU : Hid (BS w0 (.slice a1 nm.size c1) nm) := ⟨a1, b1, o1, c1, rfl, hua, huc⟩
  have HV := hide h
  have HB := hide hb
  obtain ⟨F, hF⟩ : ∃ F, fdI vs nm vs.length = F := ⟨_, rfl⟩
  have HF := hide hF
  rw [hF]
  clear h hb hua huc hF
  go_enter Tryd.func28, Tryd.ntmps28
  go_wp2_with fail
  go_loopw [5] (fun ix wr => ∃ (k m : Nat), k ≤ vs.length ∧ ix = .int .i64 ((k : Int) - 1) ∧ fdI vs nm k = F ∧ wr = w.drewN m) (fun ix _ => (intOf ix + 1).toNat)
  case atStart => exact ⟨vs.length, 0, Nat.le_refl _, by go_num, HF.out, rfl⟩
  case round =>
    obtain ⟨k, m, hk, rfl, hR, rfl⟩ := hrel
    cases k with
    | zero =>
      rw [fdI] at hR
      subst hR
      go_wp2
      go_ret
      exact ⟨rfl, _, rfl⟩
    | succ k =>
      obtain ⟨x, hx⟩ : ∃ x, vs[k]? = some x := ⟨vs[k], List.getElem?_eq_getElem (by omega)⟩
      obtain ⟨n, hn, hbs, hns⟩ := HV.out.nam k x hx
      have hd : vs.getD k ⟨.empty, 0, 0, 0, .empty⟩ = x := by rw [List.getD_eq_getElem?_getD, hx]; rfl
      rw [fdI, hd] at hR
      obtain ⟨vg, hva⟩ : ∃ g, va = some ⟨g, 0, none⟩ := by
        rcases HV.out.own.2 with ⟨hv, _⟩ | ⟨g, cap, cur, hv, _⟩
        · injection hv with _ e2 _; omega
        · injection hv with e1 _ _; exact ⟨g, e1⟩
      subst hva
      have hcell : w.cell? ⟨vg, k * 5, none⟩ = some n := by
        have h1 := RwG.of_own (G := fun _ => True) HV.out.own (fun _ _ => trivial)
        obtain ⟨a', g', c', e1, e2, e3⟩ := h1
        injection e1 with e1 _ _
        have e4 := (e2 (by omega)).1
        rw [← e1] at e4
        injection e4 with e4
        injection e4 with e4
        subst e4
        refine e3 (by omega) _ _ ?_
        have := vrcs_at U vs HV.out.len k x n hx hn 0 (by omega)
        rw [Nat.add_zero] at this
        rw [this]; rfl
      have hki : ((k : Int) + 1 - 1) = (k : Int) := by omega
      obtain ⟨na, nb, no, nc, rfl, hna, hnc⟩ := hbs
      have hc1 : ∀ j, (convert 31 9 (.slice na x.name.size nc)).run Tryd.prog (w.drewN j) = .ok (.string x.name) (w.drewN j) := fun j => toStr_bs (BS.below ⟨na, nb, no, nc, rfl, hna, hnc⟩ (below_drewN HB.out j))
      have hc2 : ∀ j, (convert 31 9 (.slice a1 nm.size c1)).run Tryd.prog (w.drewN j) = .ok (.string nm) (w.drewN j) := fun j => toStr_bs (HU.out.below (below_drewN HB.out j))
      have hsd := str_dec x.name nm
      have hge : (0 : Int) ≤ (k : Int) := by omega
      have hlt : k < vs.length := by omega
      clear hna hnc hn hns hx hd
      obtain ⟨y, hy⟩ : ∃ y, x.name = y := ⟨_, rfl⟩
      rw [hy] at hR hcell hc1 hsd
      clear hy
      rw [show (((k + 1 : Nat) : Int) - 1) = (k : Int) by omega]
      by_cases q : y = nm
      · rw [if_pos q] at hR
        rw [decide_eq_true q] at hsd
        subst hR
        clear q
        go_wp2_with fail
        go_quiet (fail)
        go_wp2
        go_ret
        exact ⟨rfl, _, World.drewN_drewN _ _ _⟩
      · rw [if_neg q] at hR
        rw [decide_eq_false q] at hsd
        clear q
        go_wp2_with fail
        go_quiet (fail)
        go_wp2
        go_roundw
        case rel => exact ⟨k, _, by omega, by go_num, hR, rfl⟩
        case measure => simp [intOf]

/-- A kid's cell. -/
theorem kid_at {w : World} {B : Nat} {u : Value} {X : List Nat} (h : w.ownsRow B 3 1 u X.length (ci (X.map fun (k : Nat) => (k : Int)))) (hn : 0 < X.length) : ∃ g c, u = .slice (some ⟨g, 0, none⟩) X.length c ∧ B ≤ g ∧ ∀ (j k : Nat), X[j]? = some k → w.cell? ⟨g, j, none⟩ = some (.int .i64 (k : Nat)) := by
  obtain ⟨a, g, c, h1, h2, h3⟩ := RwG.of_own (G := fun g => B ≤ g) h (fun _ h => h)
  obtain ⟨h4, h5⟩ := h2 hn
  refine ⟨g, c, by rw [h1, h4], h5, fun j k hj => h3 hn j _ ?_⟩
  unfold ci
  rw [List.getElem?_map, List.getElem?_map, hj]
  rfl
end Go.Proofs.YtdlahabeegmjiaaDoor
