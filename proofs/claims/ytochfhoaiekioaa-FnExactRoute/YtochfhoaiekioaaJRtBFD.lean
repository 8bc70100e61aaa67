/-
  Plainly: distances that fall along edges.
  Rows of loop.example/s02126/spec.l5edge of the call's own; appends onto them.
-/
import Derived.Test.YtochfhoaiekioaaJRtRTD
import Derived.Test.YtochfhoaiekioaaJRtKP
namespace Go.Proofs.Ytochfhoaiekioaa
open Go.RowKit

/-- How far it has come. -/
structure Bf (n : Nat) (E : List Ed) (s : Nat) (M : Nat → Int) : Prop where
  none : ∀ c, c < n → M c < 0 → M c = -1
  way : ∀ c : Nat, c < n → 0 ≤ M c → Way E (s : Int) (c : Int) (M c)
  base : 0 ≤ M s ∧ M s ≤ 0
  bnd : ∀ c, c < n → M c ≤ 9 * ((n : Int) - cntN M n)
theorem Bf.first {n : Nat} {E : List Ed} {s : Nat} (hs : s < n) : Bf n E s (updI (fun _ => -1) s 0) := by
  have hc := cntN_upd (M := fun _ => -1) (t := s) (v := 0) (by decide) (by decide) hs
  rw [cntN_all] at hc
  refine ⟨fun c _ h => ?_, fun c _ h => ?_, ?_, fun c _ => ?_⟩
  · by_cases e : c = s
    · subst e; rw [updI_same] at h; omega
    · rw [updI_ne e]
  · by_cases e : c = s
    · subst e; rw [updI_same]; exact Way.base
    · rw [updI_ne e] at h; omega
  · rw [updI_same]; omega
  · by_cases e : c = s
    · subst e; rw [updI_same]; omega
    · rw [updI_ne e]; omega
theorem Bf.rng {n : Nat} {E : List Ed} {s : Nat} {M : Nat → Int} (h : Bf n E s M) {c : Nat} (hc : c < n) : -1 ≤ M c ∧ M c ≤ 9 * (n : Int) := by
  have h1 := h.bnd c hc
  have h2 := cntN_le M n
  refine ⟨?_, by omega⟩
  rcases Int.lt_or_le (M c) 0 with h3 | h3
  · have := h.none c hc h3; omega
  · omega
theorem Bf.step {n : Nat} {E : List Ed} {s : Nat} {M : Nat → Int} (hE : Ec n E) (h : Bf n E s M) {e : Ed} (he : e ∈ E) {x y : Nat} (hx : e.f = x) (hy : e.t = y) (h0 : 0 ≤ M y) (h1 : M x < 0 ∨ M y + e.c < M x) : Bf n E s (updI M x (M y + e.c)) := by
  have hf := hE.ff e he
  have ht := hE.tt e he
  have hc := hE.cc e he
  have hw : Way E (s : Int) (x : Int) (M y + e.c) := by
    rw [← hx]
    refine .step he ?_
    rw [hy]
    exact h.way y (by omega) h0
  have hby := h.bnd y (by omega)
  refine ⟨fun c hcn hl => ?_, fun c hcn hl => ?_, ?_, fun c hcn => ?_⟩
  · by_cases q : c = x
    · subst q; rw [updI_same] at hl; omega
    · rw [updI_ne q] at hl ⊢; exact h.none c hcn hl
  · by_cases q : c = x
    · subst q; rw [updI_same]; exact hw
    · rw [updI_ne q] at hl ⊢; exact h.way c hcn hl
  · have hb := h.base
    by_cases q : s = x
    · subst q; omega
    · rw [updI_ne q]; exact hb
  · have hcn0 := h.bnd c hcn
    by_cases q0 : M x < 0
    · have hcnt := cntN_upd (M := M) (t := x) (v := M y + e.c) q0 (by omega) (n := n) (by omega)
      by_cases q : c = x
      · subst q; rw [updI_same]; omega
      · rw [updI_ne q]; omega
    · have hcnt := cntN_same (M := M) (t := x) (v := M y + e.c) (by omega) (by omega) (n := n)
      rw [hcnt]
      have hbx := h.bnd x (by omega)
      by_cases q : c = x
      · subst q; rw [updI_same]; omega
      · rw [updI_ne q]; exact hcn0
theorem Bf.less {n : Nat} {E : List Ed} {s : Nat} {M : Nat → Int} (hE : Ec n E) (h : Bf n E s M) {e : Ed} (he : e ∈ E) {x y : Nat} (hx : e.f = x) (hy : e.t = y) (h0 : 0 ≤ M y) (h1 : M x < 0 ∨ M y + e.c < M x) : msN (9 * n + 10) (updI M x (M y + e.c)) n + 1 ≤ msN (9 * n + 10) M n := by
  have hf := hE.ff e he
  have ht := hE.tt e he
  have hc := hE.cc e he
  have hb := (h.rng (c := y) (by omega)).2
  refine msN_upd (by omega) ?_ (by omega)
  rcases h1 with h1 | h1
  · exact .inl ⟨h1, by omega⟩
  · exact .inr h1
theorem Bf.done {n : Nat} {E : List Ed} {s : Nat} {M : Nat → Int} (hE : Ec n E) (h : Bf n E s M) (hc : ∀ e ∈ E, 0 ≤ M e.t.toNat → 0 ≤ M e.f.toNat ∧ M e.f.toNat ≤ M e.t.toNat + e.c) (c : Nat) (hcn : c < n) : M c = dsF E (s : Int) c :=
  ds_done hE h.none h.way h.base hc c hcn
end Go.Proofs.Ytochfhoaiekioaa

namespace Go.Proofs.Ytochfhoaiekioaa
open Go.RowKit

/-- A slice of the call's own holds them. -/
def EsOw (w : World) (B : Nat) (v : Value) (L : List Ed) : Prop := w.ownsRow B 42 4 v L.length (edcs L)
theorem EsOw.nil (w : World) (B : Nat) : EsOw w B (.slice none 0 0) [] := World.ownsRow_nil _ _ _ _
theorem EsOw.kept {w w' : World} {B : Nat} {v : Value} {L : List Ed} (h : EsOw w B v L) (hb : Below w.heap.size w w') : EsOw w' B v L :=
  World.ownsRow.kept h (row := none) ⟨hb.os, hb.tape, hb.output, hb.size, fun k hk _ => hb.block k hk⟩ (by cases v.ownBlock <;> simp)
theorem EsOw.below {B : Nat} {w0 w w' : World} {v : Value} {L : List Ed} (h : EsOw w B v L) (hb : Below B w0 w) (hB : B ≤ w.heap.size) (hg : w.grownBy w' v.ownBlock) : Below B w0 w' :=
  hb.grown hg hB (fun k hk => (World.ownsRow.lt h k hk).1)
theorem EsOw.rd {w : World} {B : Nat} {v : Value} {L : List Ed} (h : EsOw w B v L) : EdS w v L := by
  obtain ⟨hl, h⟩ := h
  rcases h with ⟨rfl, h0⟩ | ⟨g, c, cur, rfl, hb, hg, hn, _, hcz, ht⟩
  · exact ⟨none, 0, 0, 0, by rw [h0], fun h => absurd h (by omega), fun j hj => absurd hj (by omega)⟩
  · refine ⟨_, g, 0, c, rfl, fun _ => rfl, fun j hj p hp => ?_⟩
    have key : ∀ i, i < 4 → w.cell? ⟨g, 0 + j * 4 + i, none⟩ = (edc p)[i]? := by
      intro i hi
      rw [← edcs_at L j p hp i hi, ← ht]
      have hlt : j * 4 + i < L.length * 4 := by
        have : (j + 1) * 4 ≤ L.length * 4 := Nat.mul_le_mul_right _ hj
        omega
      rw [List.getElem?_take, if_pos hlt, Array.getElem?_toList, Nat.zero_add]
      simp [World.cell?, hg]
    exact ⟨key 0 (by omega), key 1 (by omega), key 2 (by omega), key 3 (by omega)⟩

theorem Try.infoEsOw : (Try.prog.info? 42).map (fun i => (i.zero, i.size, i.bytes)) = some (some (.agg #[.int .i64 0, .int .i64 0, .int .i64 0, .int .i64 0]), 4, 32) := by kernel_rfl
theorem info_partsEsOw {P : Program} {t : TypeId} {z : Value} {a b : Nat} (h : (P.info? t).map (fun i => (i.zero, i.size, i.bytes)) = some (some z, a, b)) : ∃ i, P.info? t = some i ∧ i.zero = some z ∧ i.size = a ∧ i.bytes = b := by
  cases hi : P.info? t with
  | none => rw [hi] at h; cases h
  | some i => rw [hi] at h; simp at h; exact ⟨i, rfl, h.1, h.2.1, h.2.2⟩
/-- append of one onto a row of the call's own. -/
theorem wp_appEsOw {ops : Array Oper} {rest : List Oper} {o : Oper} {a : Act} {Q : Exit → Act → World → Prop} {w : World} (hgd : o.guard = none) (s x : Operand)
    (ho : o.op = .call { callee := .builtin .append, args := #[s, x], argTypes := #[39, 39] }) (B : Nat) (v : Value) (xs : List Ed) (hs : a.eval s = v) (hown : EsOw w B v xs)
    (g c : Nat) (y : Ed) (hx : a.eval x = .slice (some ⟨g, 0, none⟩) 1 c) (hnews : ∀ i, i < 4 → w.cell? ⟨g, i, none⟩ = (edc y)[i]?) (hlen : xs.length ≤ 10000000) (hbase : B ≤ w.heap.size)
    (h : ∀ v' w' l, Hid (l = xs ++ [y]) → EsOw w' B v' l → w.grownBy w' v.ownBlock → wpList Try.prog ops Q rest (a.put o.dst v') w') : wpList Try.prog ops Q (o :: rest) a w := by
  obtain ⟨i0, hi, hz0, hz1, hz2⟩ := info_partsEsOw Try.infoEsOw
  refine wpList_append_own_at _ hgd s x 39 ho B 42 i0 _ 4 32 Try.underlying39 hi hz0 hz1 hz2 rfl (by decide) v xs.length (edcs xs) hs hown ⟨g, 0, none⟩ 1 c (edcs [y]) hx (edcs_length [y]) (fun j u hj => ?_) (edcs_one _) (by unfold maxLen; omega) (by omega) hbase (fun v' w' h1 h2 _ h4 => ?_)
  · have hjl : j < 4 := by
      rcases Nat.lt_or_ge j 4 with h | h
      · exact h
      · rw [List.getElem?_eq_none (by rw [edcs_length]; exact h)] at hj; cases hj
    have e : (⟨g, 0, none⟩ : Addr).add j = ⟨g, j, none⟩ := by unfold Addr.add; split <;> simp_all
    rw [e, hnews j hjl]
    have := edcs_at [y] 0 y rfl j hjl
    rw [Nat.zero_mul, Nat.zero_add] at this
    rw [← this]
    exact hj
  · refine h v' w' (xs ++ [y]) rfl ?_ h2
    unfold EsOw
    rw [List.length_append, edcs_append]
    exact h1
/-- .. as one step of a region that draws. -/
theorem step_appEsOw {ops : Array Oper} {o : Oper} {a : Act} {w : World} {K : Act → World → Prop} {Q : Exit → Act → World → Prop} {E : Prop} (hgd : o.guard = none) (s x : Operand)
    (ho : o.op = .call { callee := .builtin .append, args := #[s, x], argTypes := #[39, 39] }) (B : Nat) (v : Value) (xs : List Ed) (hs : a.eval s = v) (hown : EsOw w B v xs)
    (g c : Nat) (y : Ed) (hx : a.eval x = .slice (some ⟨g, 0, none⟩) 1 c) (hnews : ∀ i, i < 4 → w.cell? ⟨g, i, none⟩ = (edc y)[i]?) (hlen : xs.length ≤ 10000000) (hbase : B ≤ w.heap.size)
    (h : ∀ v' w' l, Hid (l = xs ++ [y]) → EsOw w' B v' l → w.grownBy w' v.ownBlock → K (a.put o.dst v') w') :
    if Region.wanted o (yielded ops a.tmps) = true then Oper.wp Try.prog o a w K Q else E := by
  have hw : Region.wanted o (yielded ops a.tmps) = true := by simp [Region.wanted, hgd]
  rw [if_pos hw]
  obtain ⟨i0, hi, hz0, hz1, hz2⟩ := info_partsEsOw Try.infoEsOw
  refine wp_append_own w s x 39 ho B 42 i0 _ 4 32 Try.underlying39 hi hz0 hz1 hz2 rfl (by decide) v xs.length (edcs xs) hs hown ⟨g, 0, none⟩ 1 c (edcs [y]) hx (edcs_length [y]) (fun j u hj => ?_) (edcs_one _) (by unfold maxLen; omega) (by omega) hbase (fun v' w' h1 h2 _ => ?_)
  · have hjl : j < 4 := by
      rcases Nat.lt_or_ge j 4 with h | h
      · exact h
      · rw [List.getElem?_eq_none (by rw [edcs_length]; exact h)] at hj; cases hj
    have e : (⟨g, 0, none⟩ : Addr).add j = ⟨g, j, none⟩ := by unfold Addr.add; split <;> simp_all
    rw [e, hnews j hjl]
    have := edcs_at [y] 0 y rfl j hjl
    rw [Nat.zero_mul, Nat.zero_add] at this
    rw [← this]
    exact hj
  · refine h v' w' (xs ++ [y]) rfl ?_ h2
    unfold EsOw
    rw [List.length_append, edcs_append]
    exact h1
end Go.Proofs.Ytochfhoaiekioaa
