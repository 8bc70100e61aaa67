/-
  Plainly: the graph of a layout.
  Rows of loop.example/s02126/spec.l5edge of the call's own; appends onto them.
-/
import Derived.Test.YtpoanbpgpgflcaaDoorJBgRVD
import Derived.Test.YtpoanbpgpgflcaaDoorJBgSLY
import Derived.Test.YtpoanbpgpgflcaaDoorJBgIL1
import Derived.Test.YtpoanbpgpgflcaaDoorJBgKP
namespace Go.Proofs.YtpoanbpgpgflcaaDoor
open Go.RowKit

/-- The edge of the cell c by the way k. -/
def bgE (d : Ly) (c k : Nat) : Ed := ⟨c, toC d.w d.h c k, k, d.cost.getD (toC d.w d.h c k).toNat 0⟩
/-- The edges of the cell c by its first k ways. -/
def bgK (d : Ly) (c : Nat) : Nat → List Ed
  | 0 => []
  | k + 1 => bgK d c k ++ (if bitAt (d.exits.getD c 0) k then [bgE d c k] else [])
/-- .. by some ways. -/
def bgW (d : Ly) (c : Nat) (l : List (Fin 4)) : List Ed := l.map fun x => bgE d c x.1
theorem bgW_snoc (d : Ly) (c : Nat) (l : List (Fin 4)) (x : Fin 4) : bgW d c (l ++ [x]) = bgW d c l ++ [bgE d c x.1] := by unfold bgW; rw [List.map_append]; rfl
theorem bgW_all (d : Ly) (c : Nat) : bgW d c (wyr (bitAt (d.exits.getD c 0)) 0) = bgK d c 4 := by
  have hB : ∀ e : Int, (wyr (bitAt e) 0).map (fun x : Fin 4 => bgE d c x.1) = ((([] ++ (if bitAt e 0 then [bgE d c 0] else [])) ++ (if bitAt e 1 then [bgE d c 1] else [])) ++ (if bitAt e 2 then [bgE d c 2] else [])) ++ (if bitAt e 3 then [bgE d c 3] else []) := fun e => by
    show (wy1 (bitAt e) 0 ++ (wy1 (bitAt e) 1 ++ (wy1 (bitAt e) 2 ++ (wy1 (bitAt e) 3 ++ [])))).map (fun x : Fin 4 => bgE d c x.1) = _
    have k : ∀ x : Fin 4, (wy1 (bitAt e) x).map (fun x : Fin 4 => bgE d c x.1) = if bitAt e x.1 then [bgE d c x.1] else [] := fun x => by
      unfold wy1
      split <;> rfl
    rw [List.map_append, List.map_append, List.map_append, List.map_append, k, k, k, k]
    simp only [List.nil_append, List.append_assoc, List.map_nil, List.append_nil]
    rfl
  exact hB _
/-- The edges of the first m cells. -/
def bgS (d : Ly) : Nat → List Ed
  | 0 => []
  | m + 1 => bgS d m ++ bgK d m 4
theorem bgK_le (d : Ly) (c : Nat) : ∀ k, (bgK d c k).length ≤ k
  | 0 => Nat.le_refl _
  | k + 1 => by
    have := bgK_le d c k
    show (bgK d c k ++ _).length ≤ _
    rw [List.length_append]
    split <;> simp <;> omega
theorem bgS_le (d : Ly) : ∀ m, (bgS d m).length ≤ 4 * m
  | 0 => Nat.le_refl _
  | m + 1 => by
    have h1 := bgS_le d m
    have h2 := bgK_le d m 4
    show (bgS d m ++ _).length ≤ _
    rw [List.length_append]
    omega
theorem bgK_from (d : Ly) (c : Nat) : ∀ k, ∀ e ∈ bgK d c k, e.f = (c : Int)
  | 0, e, h => by cases h
  | k + 1, e, h => by
    rcases List.mem_append.1 (show e ∈ bgK d c k ++ _ from h) with h | h
    · exact bgK_from d c k e h
    · split at h
      · rw [List.mem_singleton.1 h]; rfl
      · cases h
theorem bgS_from (d : Ly) : ∀ m, ∀ e ∈ bgS d m, 0 ≤ e.f ∧ e.f < (m : Int)
  | 0, e, h => by cases h
  | m + 1, e, h => by
    rcases List.mem_append.1 (show e ∈ bgS d m ++ _ from h) with h | h
    · have := bgS_from d m e h; omega
    · have := bgK_from d m 4 e h; omega
theorem LyOk.cells16 {d : Ly} (h : LyOk d) : d.w * d.h ≤ 1600 ∧ 1 ≤ d.w * d.h := by
  have h2 : d.w * d.h ≤ 40 * 40 := Int.mul_le_mul h.w1 h.h1 (by have := h.h0; omega) (by decide)
  have h3 : 1 * 1 ≤ d.w * d.h := Int.mul_le_mul h.w0 h.h0 (by decide) (by have := h.w0; omega)
  omega
open Classical in
/-- What BuildGraph answers. -/
noncomputable def bgF (d : Ly) : Gr := if LyOk d then grOf d.exits.length (bgS d d.exits.length) else ⟨0, [], [], [], []⟩
open Classical in
noncomputable def bgC (d : Ly) : Int := if LyOk d then 0 else 1
theorem bgF_yes {d : Ly} (h : LyOk d) : bgF d = grOf d.exits.length (bgS d d.exits.length) := by unfold bgF; rw [if_pos h]
theorem bgF_no {d : Ly} (h : ¬ LyOk d) : bgF d = ⟨0, [], [], [], []⟩ := by unfold bgF; rw [if_neg h]
theorem bgC_yes {d : Ly} (h : LyOk d) : bgC d = 0 := by unfold bgC; rw [if_pos h]
theorem bgC_no {d : Ly} (h : ¬ LyOk d) : bgC d = 1 := by unfold bgC; rw [if_neg h]
theorem LyOk.el16 {d : Ly} (h : LyOk d) : d.exits.length ≤ 1600 := by have h1 := h.el; have h2 := h.cells16; omega
theorem bgF_b (d : Ly) : GrB (bgF d) := by
  by_cases h : LyOk d
  · rw [bgF_yes h]
    have h1 := h.el16
    have h2 := bgS_le d d.exits.length
    exact grOf_b h1 (by omega)
  · rw [bgF_no h]
    exact ⟨by simp, by simp, by simp, by simp⟩
theorem bits_way : ∀ E : Fin 16, (bits .and .i64 ((E.1 : Nat) : Int) 1 != 0) = bitAt ((E.1 : Nat) : Int) 0 ∧ (bits .and .i64 ((E.1 : Nat) : Int) 2 != 0) = bitAt ((E.1 : Nat) : Int) 1 ∧ (bits .and .i64 ((E.1 : Nat) : Int) 4 != 0) = bitAt ((E.1 : Nat) : Int) 2 ∧ (bits .and .i64 ((E.1 : Nat) : Int) 8 != 0) = bitAt ((E.1 : Nat) : Int) 3 := by decide +kernel
theorem bits_ex {e : Int} (h0 : 0 ≤ e) (h1 : e ≤ 15) : (bits .and .i64 e 1 != 0) = bitAt e 0 ∧ (bits .and .i64 e 2 != 0) = bitAt e 1 ∧ (bits .and .i64 e 4 != 0) = bitAt e 2 ∧ (bits .and .i64 e 8 != 0) = bitAt e 3 := by
  have := bits_way ⟨e.toNat, by omega⟩
  simp only [Int.toNat_of_nonneg h0] at this
  exact this
end Go.Proofs.YtpoanbpgpgflcaaDoor

namespace Go.Proofs.YtpoanbpgpgflcaaDoor
open Go.RowKit

/-- A slice of the call's own holds them. -/
def EsOw (w : World) (B : Nat) (v : Value) (L : List Ed) : Prop := w.ownsRow B 48 4 v L.length (edcs L)
theorem EsOw.nil (w : World) (B : Nat) : EsOw w B (.slice none 0 0) [] := World.ownsRow_nil _ _ _ _
theorem EsOw.kept {w w' : World} {B : Nat} {v : Value} {L : List Ed} (h : EsOw w B v L) (hb : Below w.heap.size w w') : EsOw w' B v L :=
  World.ownsRow.kept h (row := none) ⟨hb.os, hb.tape, hb.output, hb.size, fun k hk _ => hb.block k hk⟩ (by cases v.ownBlock <;> simp)
theorem EsOw.below {B : Nat} {w0 w w' : World} {v : Value} {L : List Ed} (h : EsOw w B v L) (hb : Below B w0 w) (hB : B ≤ w.heap.size) (hg : w.grownBy w' v.ownBlock) : Below B w0 w' :=
  hb.grown hg hB (fun k hk => (World.ownsRow.lt h k hk).1)
theorem EsOw.rd {w : World} {B : Nat} {v : Value} {L : List Ed} (h : EsOw w B v L) : EdS w v L := by
  obtain ⟨hl, h⟩ := h
  rcases h with ⟨rfl, h0⟩ | ⟨g, c, cur, rfl, hb, hg, hn, _, hcz, ht⟩
  · exact ⟨none, 0, 0, 0, by rw [h0], fun h => absurd h (by omega), fun j hj => absurd hj (by omega)⟩
  · refine ⟨_, g, 0, c, rfl, fun _ => rfl, fun j hj p hp => ?_⟩
    have key : ∀ i, i < 4 → w.cell? ⟨g, 0 + j * 4 + i, none⟩ = (edc p)[i]? := by
      intro i hi
      rw [← edcs_at L j p hp i hi, ← ht]
      have hlt : j * 4 + i < L.length * 4 := by
        have : (j + 1) * 4 ≤ L.length * 4 := Nat.mul_le_mul_right _ hj
        omega
      rw [List.getElem?_take, if_pos hlt, Array.getElem?_toList, Nat.zero_add]
      simp [World.cell?, hg]
    exact ⟨key 0 (by omega), key 1 (by omega), key 2 (by omega), key 3 (by omega)⟩

theorem Tryd.infoEsOw : (Tryd.prog.info? 48).map (fun i => (i.zero, i.size, i.bytes)) = some (some (.agg #[.int .i64 0, .int .i64 0, .int .i64 0, .int .i64 0]), 4, 32) := by kernel_rfl
theorem info_partsEsOw {P : Program} {t : TypeId} {z : Value} {a b : Nat} (h : (P.info? t).map (fun i => (i.zero, i.size, i.bytes)) = some (some z, a, b)) : ∃ i, P.info? t = some i ∧ i.zero = some z ∧ i.size = a ∧ i.bytes = b := by
  cases hi : P.info? t with
  | none => rw [hi] at h; cases h
  | some i => rw [hi] at h; simp at h; exact ⟨i, rfl, h.1, h.2.1, h.2.2⟩
/-- append of one onto a row of the call's own. -/
theorem wp_appEsOw {ops : Array Oper} {rest : List Oper} {o : Oper} {a : Act} {Q : Exit → Act → World → Prop} {w : World} (hgd : o.guard = none) (s x : Operand)
    (ho : o.op = .call { callee := .builtin .append, args := #[s, x], argTypes := #[43, 43] }) (B : Nat) (v : Value) (xs : List Ed) (hs : a.eval s = v) (hown : EsOw w B v xs)
    (g c : Nat) (y : Ed) (hx : a.eval x = .slice (some ⟨g, 0, none⟩) 1 c) (hnews : ∀ i, i < 4 → w.cell? ⟨g, i, none⟩ = (edc y)[i]?) (hlen : xs.length ≤ 10000000) (hbase : B ≤ w.heap.size)
    (h : ∀ v' w' l, Hid (l = xs ++ [y]) → EsOw w' B v' l → w.grownBy w' v.ownBlock → wpList Tryd.prog ops Q rest (a.put o.dst v') w') : wpList Tryd.prog ops Q (o :: rest) a w := by
  obtain ⟨i0, hi, hz0, hz1, hz2⟩ := info_partsEsOw Tryd.infoEsOw
  refine wpList_append_own_at _ hgd s x 43 ho B 48 i0 _ 4 32 Tryd.underlying43 hi hz0 hz1 hz2 rfl (by decide) v xs.length (edcs xs) hs hown ⟨g, 0, none⟩ 1 c (edcs [y]) hx (edcs_length [y]) (fun j u hj => ?_) (edcs_one _) (by unfold maxLen; omega) (by omega) hbase (fun v' w' h1 h2 _ h4 => ?_)
  · have hjl : j < 4 := by
      rcases Nat.lt_or_ge j 4 with h | h
      · exact h
      · rw [List.getElem?_eq_none (by rw [edcs_length]; exact h)] at hj; cases hj
    have e : (⟨g, 0, none⟩ : Addr).add j = ⟨g, j, none⟩ := by unfold Addr.add; split <;> simp_all
    rw [e, hnews j hjl]
    have := edcs_at [y] 0 y rfl j hjl
    rw [Nat.zero_mul, Nat.zero_add] at this
    rw [← this]
    exact hj
  · refine h v' w' (xs ++ [y]) rfl ?_ h2
    unfold EsOw
    rw [List.length_append, edcs_append]
    exact h1
/-- .. as one step of a region that draws. -/
theorem step_appEsOw {ops : Array Oper} {o : Oper} {a : Act} {w : World} {K : Act → World → Prop} {Q : Exit → Act → World → Prop} {E : Prop} (hgd : o.guard = none) (s x : Operand)
    (ho : o.op = .call { callee := .builtin .append, args := #[s, x], argTypes := #[43, 43] }) (B : Nat) (v : Value) (xs : List Ed) (hs : a.eval s = v) (hown : EsOw w B v xs)
    (g c : Nat) (y : Ed) (hx : a.eval x = .slice (some ⟨g, 0, none⟩) 1 c) (hnews : ∀ i, i < 4 → w.cell? ⟨g, i, none⟩ = (edc y)[i]?) (hlen : xs.length ≤ 10000000) (hbase : B ≤ w.heap.size)
    (h : ∀ v' w' l, Hid (l = xs ++ [y]) → EsOw w' B v' l → w.grownBy w' v.ownBlock → K (a.put o.dst v') w') :
    if Region.wanted o (yielded ops a.tmps) = true then Oper.wp Tryd.prog o a w K Q else E := by
  have hw : Region.wanted o (yielded ops a.tmps) = true := by simp [Region.wanted, hgd]
  rw [if_pos hw]
  obtain ⟨i0, hi, hz0, hz1, hz2⟩ := info_partsEsOw Tryd.infoEsOw
  refine wp_append_own w s x 43 ho B 48 i0 _ 4 32 Tryd.underlying43 hi hz0 hz1 hz2 rfl (by decide) v xs.length (edcs xs) hs hown ⟨g, 0, none⟩ 1 c (edcs [y]) hx (edcs_length [y]) (fun j u hj => ?_) (edcs_one _) (by unfold maxLen; omega) (by omega) hbase (fun v' w' h1 h2 _ => ?_)
  · have hjl : j < 4 := by
      rcases Nat.lt_or_ge j 4 with h | h
      · exact h
      · rw [List.getElem?_eq_none (by rw [edcs_length]; exact h)] at hj; cases hj
    have e : (⟨g, 0, none⟩ : Addr).add j = ⟨g, j, none⟩ := by unfold Addr.add; split <;> simp_all
    rw [e, hnews j hjl]
    have := edcs_at [y] 0 y rfl j hjl
    rw [Nat.zero_mul, Nat.zero_add] at this
    rw [← this]
    exact hj
  · refine h v' w' (xs ++ [y]) rfl ?_ h2
    unfold EsOw
    rw [List.length_append, edcs_append]
    exact h1
end Go.Proofs.YtpoanbpgpgflcaaDoor
