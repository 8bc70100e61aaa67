/-
  Appends of bytes onto rows of the call's own.
  Numbers of bytes as a text; rows of the call's own as one.
-/
import Derived.Test.YtpnocklldlacjaaDoorJEncodeImageB0
import Derived.Test.YtpnocklldlacjaaDoorJEncodeImageTK
import Derived.Deep.RegionLaw
import Derived.Test.YtpnocklldlacjaaDoorJEncodeImageMK
import Derived.Test.YtpnocklldlacjaaDoorJEncodeImageK
import Derived.Lib.AppendStr
namespace Go.Proofs.YtpnocklldlacjaaDoor
open Go.RowKit

/-- append of bytes, wherever they lie, onto a row of the call's own. -/
theorem wp_app_at {ops : Array Oper} {rest : List Oper} {o : Oper} {a : Act} {Q : Exit → Act → World → Prop} {w : World} (hgd : o.guard = none) (s x : Operand)
    (ho : o.op = .call { callee := .builtin .append, args := #[s, x], argTypes := #[37, 37] }) (B : Nat) (v : Value) (xs : List Nat) (hs : a.eval s = v) (hown : w.ownsRow B 5 1 v xs.length (cv xs))
    (g f c : Nat) (ys : List Nat) (hx : a.eval x = .slice (some ⟨g, f, none⟩) ys.length c) (hnews : ∀ j, j < ys.length → w.cell? ⟨g, f + j, none⟩ = some (.int .u8 (ys.getD j 0 : Nat))) (hlen : xs.length + ys.length ≤ 100000000) (hbase : B ≤ w.heap.size)
    (h : ∀ v' w' l, Hid (l = xs ++ ys) → w'.ownsRow B 5 1 v' l.length (cv l) → w.grownBy w' v.ownBlock → wpList Tryd.prog ops Q rest (a.put o.dst v') w') : wpList Tryd.prog ops Q (o :: rest) a w := by
  obtain ⟨i0, hi, hz0, hz1, hz2⟩ := info_parts Tryd.info5
  refine wpList_append_own _ hgd s x 37 ho B 5 i0 (.int .u8 0) 1 1 Tryd.underlying37 hi hz0 hz1 hz2 rfl (by decide) v xs.length (cv xs) hs hown ⟨g, f, none⟩ ys.length c (cv ys) hx (by rw [cv_length, Nat.mul_one]) (fun j u hj => ?_) (cv_one ys) (by unfold maxLen; omega) (by omega) hbase (fun v' w' h1 h2 _ => ?_)
  · have hjl : j < ys.length := by
      rcases Nat.lt_or_ge j ys.length with h | h
      · exact h
      · rw [List.getElem?_eq_none (by rw [cv_length]; exact h)] at hj; cases hj
    have e : (⟨g, f, none⟩ : Addr).add j = ⟨g, f + j, none⟩ := by unfold Addr.add; split <;> simp_all
    rw [e, hnews j hjl, ← hj]
    simp [cv, List.getD, hjl]
  · refine h v' w' (xs ++ ys) rfl ?_ h2
    rw [List.length_append, cv_append]
    exact h1

/-- append of bytes onto a row of the call's own. -/
theorem wp_app {ops : Array Oper} {rest : List Oper} {o : Oper} {a : Act} {Q : Exit → Act → World → Prop} {w : World} (hgd : o.guard = none) (s x : Operand)
    (ho : o.op = .call { callee := .builtin .append, args := #[s, x], argTypes := #[37, 37] }) (B : Nat) (v : Value) (xs : List Nat) (hs : a.eval s = v) (hown : w.ownsRow B 5 1 v xs.length (cv xs))
    (g c : Nat) (ys : List Nat) (hx : a.eval x = .slice (some ⟨g, 0, none⟩) ys.length c) (hnews : ∀ j, j < ys.length → w.cell? ⟨g, j, none⟩ = some (.int .u8 (ys.getD j 0 : Nat))) (hlen : xs.length + ys.length ≤ 100000000) (hbase : B ≤ w.heap.size)
    (h : ∀ v' w' l, Hid (l = xs ++ ys) → w'.ownsRow B 5 1 v' l.length (cv l) → w.grownBy w' v.ownBlock → wpList Tryd.prog ops Q rest (a.put o.dst v') w') : wpList Tryd.prog ops Q (o :: rest) a w :=
  wp_app_at hgd s x ho B v xs hs hown g 0 c ys hx (fun j hj => by rw [Nat.zero_add]; exact hnews j hj) hlen hbase h

/-- The world behind an append is as it was below the row's base. -/
theorem app_below {B : Nat} {w0 w w' : World} {v : Value} {n : Nat} {xs : List Value} (h : Below B w0 w) (hown : w.ownsRow B 5 1 v n xs) (hB : B ≤ w.heap.size) (hg : w.grownBy w' v.ownBlock) : Below B w0 w' :=
  h.grown hg hB (fun k hk => (hown.lt k hk).1)

theorem own_fix {w : World} {B : Nat} {v : Value} {n : Nat} {l : List Nat} (h : w.ownsRow B 5 1 v n (cv l)) : w.ownsRow B 5 1 v l.length (cv l) := by
  have e : n = l.length := by have := h.1; rw [cv_length] at this; omega
  subst e; exact h
theorem kept_below {w w' : World} {B : Nat} {v : Value} {n : Nat} {xs : List Value} (h : w.ownsRow B 5 1 v n xs) (hb : Below w.heap.size w w') : w'.ownsRow B 5 1 v n xs :=
  h.kept (row := none) ⟨hb.os, hb.tape, hb.output, hb.size, fun k hk _ => hb.block k hk⟩ (by cases v.ownBlock <;> simp)

/-- The slice that owns some bytes, written out. -/
theorem own_slice {w : World} {B : Nat} {v : Value} {l : List Nat} (h : w.ownsRow B 5 1 v l.length (cv l)) (hl : 0 < l.length) :
    ∃ g c, v = .slice (some ⟨g, 0, none⟩) l.length c ∧ B ≤ g ∧ g < w.heap.size ∧ (∀ j, j < l.length → w.cell? ⟨g, j, none⟩ = some (.int .u8 (l.getD j 0 : Nat))) ∧ ∀ j, w.frozen? ⟨g, j, none⟩ = false := by
  rcases h.2 with ⟨_, h0⟩ | ⟨g, c, cur, hv, hb, hg, _⟩
  · omega
  · refine ⟨g, c, hv, hb, (Array.getElem?_eq_some_iff.1 hg).1, fun j hj => ?_, fun j => ?_⟩
    · rw [hv] at h
      rw [h.cellAt j (by omega)]
      simp [cv, List.getD, hj]
    · rw [hv] at h
      exact h.frozenAt j
theorem ret_vi {k : IntKind} {v : Value} {a b : Int} (h : a = b) : Ending.returned (.tuple #[v, .int k a]) = .returned (.tuple #[v, .int k b]) := by rw [h]
theorem cell_fresh (w : World) (cs : Array Value) (t : TypeId) (j : Nat) : (w.alloc (.cells cs t)).cell? ⟨w.heap.size, j, none⟩ = cs[j]? := by
  have h : (w.alloc (.cells cs t)).heap[w.heap.size]? = some (.cells cs t) := by
    show (w.heap.push _)[w.heap.size]? = _
    rw [Array.getElem?_push_size]
  unfold World.cell?
  rw [h]
  rfl
end Go.Proofs.YtpnocklldlacjaaDoor

namespace Go.Proofs.YtpnocklldlacjaaDoor
open Go.RowKit

/-- Numbers of bytes as a text. -/
def byt (l : List Nat) : ByteArray := ⟨(l.map fun n => UInt8.ofNat n).toArray⟩
/-- All are numbers of bytes. -/
def Lo (l : List Nat) : Prop := ∀ x ∈ l, x < 256
theorem Lo.nil : Lo [] := fun _ h => nomatch h
theorem Lo.app {a b : List Nat} (h : Lo a) (k : Lo b) : Lo (a ++ b) := fun x hx => (List.mem_append.1 hx).elim (h x) (k x)
theorem Lo.one {n : Nat} (h : n < 256) : Lo [n] := fun x hx => by rw [List.mem_singleton.1 hx]; exact h
theorem Lo.cons {n : Nat} {l : List Nat} (h : n < 256) (k : Lo l) : Lo (n :: l) := fun x hx => (List.mem_cons.1 hx).elim (fun e => e ▸ h) (k x)
theorem byt_size (l : List Nat) : (byt l).size = l.length := by show (byt l).data.size = _; unfold byt; simp
theorem byt_append (a b : List Nat) : byt (a ++ b) = byt a ++ byt b := by
  apply ByteArray.ext
  show _ = (byt a ++ byt b).data
  rw [ByteArray.data_append]
  unfold byt
  simp
theorem byt_cells {l : List Nat} (h : Lo l) : Lib.strCells (byt l) = cv l := by
  unfold Lib.strCells byt cv
  rw [List.toList_toArray, List.map_map]
  refine List.map_congr_left fun x hx => ?_
  have := h x hx
  show Value.int .u8 ((UInt8.ofNat x).toNat : Int) = _
  rw [UInt8.toNat_ofNat_of_lt' (by exact this)]
theorem byt_bts {l : List Nat} (h : Lo l) {j : Nat} (hj : j < l.length) : bts (byt l) j = .int .u8 (l.getD j 0 : Nat) := by
  unfold bts
  rw [Utf8W.get!_of_lt _ j (by rw [byt_size]; exact hj)]
  have hx : l[j] < 256 := h _ (List.getElem_mem hj)
  have e : (byt l)[j]'(by rw [byt_size]; exact hj) = UInt8.ofNat l[j] := by
    show (byt l).data[j]'_ = _
    unfold byt
    simp
  rw [e, UInt8.toNat_ofNat_of_lt' (by exact hx)]
  simp [List.getD, hj]
/-- A row of bytes of the call's own reads as a text. -/
theorem own_bs {w : World} {B : Nat} {v : Value} {l : List Nat} (h : w.ownsRow B 5 1 v l.length (cv l)) (hl : Lo l) : BS w v (byt l) := by
  by_cases h0 : 0 < l.length
  · obtain ⟨g, c, rfl, _, _, hc, _⟩ := own_slice h h0
    refine ⟨_, g, 0, c, by rw [byt_size], fun _ => rfl, fun j hj => ?_⟩
    rw [byt_size] at hj
    rw [Nat.zero_add, hc j hj, byt_bts hl hj]
  · have e : l = [] := List.length_eq_zero_iff.1 (by omega)
    subst e
    rcases h.2 with ⟨hv, _⟩ | ⟨g, c, cur, hv, _⟩
    · exact ⟨_, 0, 0, _, hv, fun h => absurd h (by decide), fun j hj => absurd hj (Nat.not_lt_zero _)⟩
    · exact ⟨_, g, 0, _, hv, fun _ => rfl, fun j hj => absurd hj (Nat.not_lt_zero _)⟩
/-- .. and lies in a new block. -/
theorem own_bf {w0 w : World} {B : Nat} {v : Value} {l : List Nat} (h : w.ownsRow B 5 1 v l.length (cv l)) (hl : Lo l) (hB : w0.heap.size ≤ B) : ∃ bl, BF w v (byt l) bl ∧ Fr w0 w bl := by
  by_cases h0 : 0 < l.length
  · obtain ⟨g, c, rfl, hg, hlt, hc, hf⟩ := own_slice h h0
    refine ⟨[g], ⟨_, g, 0, c, by rw [byt_size], fun _ => rfl, by rw [byt_size, if_pos h0], fun j hj => ?_⟩, ⟨by simp, fun x hx => ?_, fun x hx => ?_⟩⟩
    · rw [byt_size] at hj
      rw [Nat.zero_add, hc j hj, byt_bts hl hj]
      exact ⟨rfl, hf j⟩
    · rw [List.mem_singleton.1 hx]; omega
    · rw [List.mem_singleton.1 hx]; exact hlt
  · have e : l = [] := List.length_eq_zero_iff.1 (by omega)
    subst e
    refine ⟨[], ?_, ⟨List.nodup_nil, (fun x hx => nomatch hx), (fun x hx => nomatch hx)⟩⟩
    rcases h.2 with ⟨hv, _⟩ | ⟨g, c, cur, hv, _⟩
    · exact ⟨_, 0, 0, _, hv, fun h => absurd h (by decide), rfl, fun j hj => absurd hj (Nat.not_lt_zero _)⟩
    · exact ⟨_, g, 0, _, hv, fun _ => rfl, rfl, fun j hj => absurd hj (Nat.not_lt_zero _)⟩
theorem blk_app {w w' : World} {B b n : Nat} {v : Value} {xs : List Value} {t : TypeId} {cs : Array Value} (h : Blk w b t cs) (ht : t ≠ 5) (hown : w.ownsRow B 5 1 v n xs) (hg : w.grownBy w' v.ownBlock) : Blk w' b t cs := by
  refine (hg.block b h.lt fun e => ?_).trans h
  rcases hown.2 with ⟨rfl, _⟩ | ⟨g, c, cur, rfl, _, hgc, _⟩
  · cases e
  · cases e
    have h' : w.heap[g]? = some (.cells cs t (0, 0)) := h
    rw [hgc] at h'
    cases h'
    exact ht rfl
end Go.Proofs.YtpnocklldlacjaaDoor
