/-
  The walk of SortStableFunc.
  The walks of slices.Collect and slices.SortedStableFunc, at edges.
  Plainly: the graph of some edges.
  append of numbers onto a row of the call's own.
-/
import Derived.Test.YtochfhoaiekioaaJRtSRZ
import Derived.Test.YtochfhoaiekioaaJRtIAS
import Derived.Test.YtochfhoaiekioaaJRtSRM
import Derived.Test.YtochfhoaiekioaaJRtGr0
import Derived.Test.YtochfhoaiekioaaJRtB0
import Derived.Test.YtochfhoaiekioaaJRtMK
import Derived.Maps.AppendAt
namespace Go.Proofs.Ytochfhoaiekioaa
open Go.RowKit

set_option maxHeartbeats 2000000 in
set_option maxRecDepth 1000000 in
theorem sortStable_any (v : Value) (D : Nat) (S : List Ed) (w : World) (hn : S.length ≤ 1048576) (h : EdR w D v S) :
    Calls Try.prog 44 #[v, cfV] w fun e w' => e = .returned (.tuple #[]) ∧ StbP w w' D v S := by
  have HST := hide (stable_any v D S w hn h)
  generalize cfV = cf at HST ⊢
  obtain ⟨a0, c0, hv, -⟩ := h.slc
  subst hv
  obtain ⟨N, hN⟩ : ∃ N, S.length = N := ⟨_, rfl⟩
  rw [hN] at HST ⊢
  clear h hN hn
  go_enter Try.func44, Try.ntmps44
  go_wp2_with fail
  refine HST.out.mono ?_
  rintro e w2 ⟨rfl, hP⟩
  have HP := hide hP
  clear hP
  go_wp2
  go_end0
  exact ⟨rfl, HP.out⟩
end Go.Proofs.Ytochfhoaiekioaa

namespace Go.Proofs.Ytochfhoaiekioaa
open Go.RowKit

theorem ed_of_own {w : World} {B : Nat} {v : Value} {L : List Ed} (h : EiOw w B v L) : ∃ D, B ≤ D ∧ EdR w D v L := by
  rcases h.2 with ⟨h1, h0⟩ | ⟨g, c, cur, h1, hb, hg, hn, _, hcz, ht⟩
  · exact ⟨B, Nat.le_refl _, ⟨none, 0, by rw [h1, h0], fun h => absurd h (by omega)⟩, fun h => absurd h (by omega), fun j hj => absurd hj (by omega)⟩
  · refine ⟨g, hb, ⟨_, c, h1, fun _ => rfl⟩, fun _ => ⟨cur, hg, ?_⟩, fun j hj => ?_⟩
    · rw [hcz]; exact Nat.mul_le_mul_right _ hn
    · have hp : L[j]? = some (L.getD j .nul) := by rw [List.getD_eq_getElem?_getD, List.getElem?_eq_getElem hj]; rfl
      have key : ∀ i, i < 4 → w.cell? ⟨g, j * 4 + i, none⟩ = (edc (L.getD j .nul))[i]? := by
        intro i hi
        rw [← edcs_at L j _ hp i hi, ← ht]
        have hlt : j * 4 + i < L.length * 4 := by
          have : (j + 1) * 4 ≤ L.length * 4 := Nat.mul_le_mul_right _ hj
          omega
        rw [List.getElem?_take, if_pos hlt, Array.getElem?_toList]
        simp [World.cell?, hg]
      exact ⟨key 0 (by omega), key 1 (by omega), key 2 (by omega), key 3 (by omega)⟩

set_option maxRecDepth 1000000 in
set_option maxHeartbeats 1000000 in
theorem collect_any (B1 D c : Nat) (S : List Ed) (a : Option Addr) (hm : S.length ≤ 1048576) (ha : 0 < S.length → a = some ⟨D, 0, none⟩) (w : World) (hD : D < w.heap.size)
    (hB1 : w.cell? ⟨B1, 0, none⟩ = some (.slice a S.length c)) (hE : ∀ j, j < S.length → EdC w D (j * 4) (S.getD j .nul)) :
    Calls Try.prog 43 #[.func (.func 45) #[] #[.pointer (some ⟨B1, 0, none⟩)]] w fun e w' => ∃ v, e = .returned v ∧ EiOw w' w.heap.size v S ∧ Below w.heap.size w w' := by
  have HAS := hide (appendSeq_any B1 D c S a hm ha w hD hB1 hE)
  clear hm ha hD hB1 hE
  go_enter Try.func43, Try.ntmps43
  go_wp2_with fail
  refine HAS.out.mono ?_
  rintro e w2 ⟨v, rfl, h1, h2⟩
  have H1 := hide h1
  have H2 := hide h2
  obtain ⟨a2, c2, rfl⟩ := own_slc h1
  clear h1 h2
  go_wp2
  go_ret
  exact ⟨_, rfl, H1.out, H2.out⟩

set_option maxRecDepth 1000000 in
set_option maxHeartbeats 1000000 in
theorem sortedStable_any (B1 D c : Nat) (S : List Ed) (a : Option Addr) (hm : S.length ≤ 1048576) (ha : 0 < S.length → a = some ⟨D, 0, none⟩) (w : World) (hD : D < w.heap.size)
    (hB1 : w.cell? ⟨B1, 0, none⟩ = some (.slice a S.length c)) (hE : ∀ j, j < S.length → EdC w D (j * 4) (S.getD j .nul)) :
    Calls Try.prog 33 #[.func (.func 45) #[] #[.pointer (some ⟨B1, 0, none⟩)], cfV] w fun e w' => ∃ v C g, e = .returned v ∧ Stb S C ∧ w.heap.size ≤ g ∧ EdR w' g v C ∧ Below w.heap.size w w' := by
  have HCO := hide (collect_any B1 D c S a hm ha w hD hB1 hE)
  have HSO := hide (fun v D w' h => sortStable_any v D S w' hm h)
  generalize cfV = cf at HSO ⊢
  clear hm ha hD hB1 hE
  go_enter Try.func33, Try.ntmps33
  go_wp2_with fail
  refine HCO.out.mono ?_
  rintro e w2 ⟨v, rfl, h1, h2⟩
  obtain ⟨g, hg, h3⟩ := ed_of_own h1
  have HG := hide hg
  have H2 := hide h2
  have H3 := hide h3
  obtain ⟨a2, c2, rfl⟩ := own_slc h1
  clear h1 h2 h3 hg
  go_wp2_with fail
  refine (HSO.out _ g w2 H3.out).mono ?_
  rintro e w3 ⟨rfl, C, hC, hr, hw⟩
  have HP : Hid (Stb S C ∧ w.heap.size ≤ g ∧ EdR w3 g (.slice a2 S.length c2) C ∧ Below w.heap.size w w3) := by
    refine ⟨hC, HG.out, hr, ?_⟩
    have hb := H2.out
    exact hb.trans ⟨hw.os, hw.tape, hw.output, hw.size, fun k hk => hw.blk k (Nat.lt_of_lt_of_le hk hb.size) (by have := HG.out; simp; omega)⟩
  clear hC hr hw
  go_wp2
  go_ret
  exact ⟨_, C, g, rfl, HP.out⟩
end Go.Proofs.Ytochfhoaiekioaa

namespace Go.Proofs.Ytochfhoaiekioaa
open Go.RowKit

/-- Where the edges of cell c begin. -/
def stA (S : List Ed) (c : Nat) : Int := ((rowsN S c).length : Int)
theorem stA_zero (S : List Ed) : stA S 0 = 0 := rfl
theorem stA_succ (S : List Ed) (c : Nat) : stA S (c + 1) = stA S c + ((flt c S).length : Int) := by
  unfold stA
  show ((rowsN S c ++ flt c S).length : Int) = _
  rw [List.length_append]
  push_cast
  rfl
theorem flt_len_le (k : Int) (S : List Ed) : (flt k S).length ≤ S.length := List.length_filter_le ..
theorem flt_snoc_eq {k : Int} {P : List Ed} {e : Ed} (h : e.f = k) : (flt k (P ++ [e])).length = (flt k P).length + 1 := by
  rw [flt_append, List.length_append]
  unfold flt
  rw [List.filter_cons_of_pos (by rw [decide_eq_true_iff]; exact h)]
  rfl
theorem flt_snoc_ne {k : Int} {P : List Ed} {e : Ed} (h : e.f ≠ k) : (flt k (P ++ [e])).length = (flt k P).length := by
  rw [flt_append, List.length_append]
  unfold flt
  rw [List.filter_cons_of_neg (by rw [decide_eq_true_iff]; exact h)]
  rfl
/-- What the row of starts holds while edges are counted: at c + 1 those that leave c. -/
def cnA (P : List Ed) : Nat → Int
  | 0 => 0
  | c + 1 => ((flt c P).length : Int)
theorem cnA_nil (c : Nat) : cnA [] c = 0 := by cases c <;> rfl
theorem cnA_hit {P : List Ed} {e : Ed} {i : Nat} (h : e.f = i) : cnA (P ++ [e]) (i + 1) = cnA P (i + 1) + 1 := by
  show ((flt i (P ++ [e])).length : Int) = ((flt i P).length : Int) + 1
  rw [flt_snoc_eq h]
  push_cast
  rfl
theorem cnA_miss {P : List Ed} {e : Ed} {i c : Nat} (h : e.f = i) (hc : c ≠ i + 1) : cnA (P ++ [e]) c = cnA P c := by
  cases c with
  | zero => rfl
  | succ c =>
    show ((flt c (P ++ [e])).length : Int) = ((flt c P).length : Int)
    rw [flt_snoc_ne (by rw [h]; omega)]
/-- .. and while they are added up: up to k it is done. -/
def smA (S : List Ed) (k c : Nat) : Int := if c ≤ k then stA S c else cnA S c
theorem smA_zero (S : List Ed) (c : Nat) : smA S 0 c = cnA S c := by
  unfold smA
  by_cases h : c ≤ 0
  · obtain rfl : c = 0 := by omega
    rw [if_pos h]; rfl
  · rw [if_neg h]
theorem smA_step (S : List Ed) (k : Nat) : smA S k (k + 1) + smA S k k = smA S (k + 1) (k + 1) := by
  unfold smA
  rw [if_neg (by omega), if_pos (Nat.le_refl _), if_pos (Nat.le_refl _), stA_succ]
  show ((flt k S).length : Int) + _ = _
  omega
theorem smA_other (S : List Ed) {k c : Nat} (h : c ≠ k + 1) : smA S (k + 1) c = smA S k c := by
  unfold smA
  by_cases hc : c ≤ k
  · rw [if_pos hc, if_pos (by omega)]
  · rw [if_neg hc, if_neg (by omega)]
theorem smA_done (S : List Ed) {n c : Nat} (h : c ≤ n) : smA S n c = stA S c := by unfold smA; rw [if_pos h]
/-- The order of the edges of one cell is all that counts. -/
theorem cnA_stb {S C : List Ed} (h : Stb S C) (c : Nat) : cnA C c = cnA S c := by
  cases c with
  | zero => rfl
  | succ c =>
    show ((flt c C).length : Int) = ((flt c S).length : Int)
    rw [h.flt]
/-- The graph of some edges. -/
def grOf (n : Nat) (S : List Ed) : Gr := ⟨n, (List.range (n + 1)).map (stA S), (rowsN S n).map (·.t), (rowsN S n).map (·.d), (rowsN S n).map (·.c)⟩
/-- An edge turned. -/
def Ed.turn (e : Ed) : Ed := ⟨e.t, e.f, e.d, e.c⟩
end Go.Proofs.Ytochfhoaiekioaa

namespace Go.Proofs.Ytochfhoaiekioaa
open Go.RowKit

/-- Numbers in cells. -/
def ci (l : List Int) : List Value := l.map fun n => Value.int .i64 n
theorem ci_length (l : List Int) : (ci l).length = l.length := by simp [ci]
theorem ci_append (a b : List Int) : ci (a ++ b) = ci a ++ ci b := by simp [ci]
theorem ci_one (l : List Int) : ∀ u ∈ ci l, u.oneCell' = true := by
  intro u hu
  obtain ⟨n, _, rfl⟩ := List.mem_map.1 hu
  rfl
theorem Try.info3 : (Try.prog.info? 3).map (fun i => (i.zero, i.size, i.bytes)) = some (some (.int .i64 0), 1, 8) := by kernel_rfl

theorem info_partsI {P : Program} {t : TypeId} {z : Value} {a b : Nat} (h : (P.info? t).map (fun i => (i.zero, i.size, i.bytes)) = some (some z, a, b)) : ∃ i, P.info? t = some i ∧ i.zero = some z ∧ i.size = a ∧ i.bytes = b := by
  cases hi : P.info? t with
  | none => rw [hi] at h; cases h
  | some i => rw [hi] at h; simp at h; exact ⟨i, rfl, h.1, h.2.1, h.2.2⟩
/-- append of numbers onto a row of the call's own. -/
theorem wp_app_i {ops : Array Oper} {rest : List Oper} {o : Oper} {a : Act} {Q : Exit → Act → World → Prop} {w : World} (hgd : o.guard = none) (s x : Operand)
    (ho : o.op = .call { callee := .builtin .append, args := #[s, x], argTypes := #[22, 22] }) (B : Nat) (v : Value) (xs : List Int) (hs : a.eval s = v) (hown : w.ownsRow B 3 1 v xs.length (ci xs))
    (g c : Nat) (ys : List Int) (hx : a.eval x = .slice (some ⟨g, 0, none⟩) ys.length c) (hnews : ∀ j, j < ys.length → w.cell? ⟨g, j, none⟩ = some (.int .i64 (ys.getD j 0))) (hlen : xs.length + ys.length ≤ 100000000) (hbase : B ≤ w.heap.size)
    (h : ∀ v' w' l, Hid (l = xs ++ ys) → w'.ownsRow B 3 1 v' l.length (ci l) → w.grownBy w' v.ownBlock → wpList Try.prog ops Q rest (a.put o.dst v') w') : wpList Try.prog ops Q (o :: rest) a w := by
  obtain ⟨i0, hi, hz0, hz1, hz2⟩ := info_partsI Try.info3
  refine wpList_append_own _ hgd s x 22 ho B 3 i0 (.int .i64 0) 1 8 Try.underlying22 hi hz0 hz1 hz2 rfl (by decide) v xs.length (ci xs) hs hown ⟨g, 0, none⟩ ys.length c (ci ys) hx (by rw [ci_length, Nat.mul_one]) (fun j u hj => ?_) (ci_one ys) (by unfold maxLen; omega) (by omega) hbase (fun v' w' h1 h2 _ => ?_)
  · have hjl : j < ys.length := by
      rcases Nat.lt_or_ge j ys.length with h | h
      · exact h
      · rw [List.getElem?_eq_none (by rw [ci_length]; exact h)] at hj; cases hj
    have e : (⟨g, 0, none⟩ : Addr).add j = ⟨g, 0 + j, none⟩ := by unfold Addr.add; split <;> simp_all
    rw [e, Nat.zero_add, hnews j hjl, ← hj]
    simp [ci, List.getD, hjl]
  · refine h v' w' (xs ++ ys) rfl ?_ h2
    rw [List.length_append, ci_append]
    exact h1
theorem app_below_i {B : Nat} {w0 w w' : World} {v : Value} {n : Nat} {xs : List Value} (h : Below B w0 w) (hown : w.ownsRow B 3 1 v n xs) (hB : B ≤ w.heap.size) (hg : w.grownBy w' v.ownBlock) : Below B w0 w' :=
  h.grown hg hB (fun k hk => (hown.lt k hk).1)
theorem kept_i {w w' : World} {B : Nat} {v : Value} {n : Nat} {xs : List Value} (h : w.ownsRow B 3 1 v n xs) (hb : Below w.heap.size w w') : w'.ownsRow B 3 1 v n xs :=
  h.kept (row := none) ⟨hb.os, hb.tape, hb.output, hb.size, fun k hk _ => hb.block k hk⟩ (by cases v.ownBlock <;> simp)
theorem own_is {w : World} {B : Nat} {v : Value} {l : List Int} (h : w.ownsRow B 3 1 v l.length (ci l)) : IS w v l := by
  rcases h.2 with ⟨hv, h0⟩ | ⟨g, c, cur, hv, hb, hg, _⟩
  · have e : l = [] := List.length_eq_zero_iff.1 h0
    subst e
    exact ⟨none, 0, 0, 0, hv, fun h => absurd h (Nat.not_lt_zero _), fun j hj => absurd hj (Nat.not_lt_zero _)⟩
  · refine ⟨some ⟨g, 0, none⟩, g, 0, c, hv, fun _ => rfl, fun j hj => ?_⟩
    rw [hv] at h
    rw [Nat.zero_add, h.cellAt j (by omega)]
    simp [ci, List.getD, hj]
theorem is_nil (w : World) (c : Nat) : IS w (.slice none 0 c) [] := ⟨none, 0, 0, c, rfl, fun h => absurd h (by decide), fun j hj => absurd hj (Nat.not_lt_zero _)⟩
theorem if_nil (w : World) (c : Nat) : IF w (.slice none 0 c) [] [] := ⟨none, 0, 0, c, rfl, fun h => absurd h (by decide), rfl, fun j hj => absurd hj (Nat.not_lt_zero _)⟩
end Go.Proofs.Ytochfhoaiekioaa
