/-
  Numbers of bytes as a text; rows of the call's own as one.
-/
import Derived.Test.YtfldjcmobpcpoaaDoorJUnquoteTextAP
import Derived.Test.YtfldjcmobpcpoaaDoorJUnquoteTextMK
import Derived.Test.YtfldjcmobpcpoaaDoorJUnquoteTextCV
import Derived.Lib.AppendStr
namespace Go.Proofs.YtfldjcmobpcpoaaDoor
open Go.RowKit

/-- Numbers of bytes as a text. -/
def byt (l : List Nat) : ByteArray := ⟨(l.map fun n => UInt8.ofNat n).toArray⟩
/-- All are numbers of bytes. -/
def Lo (l : List Nat) : Prop := ∀ x ∈ l, x < 256
theorem Lo.nil : Lo [] := fun _ h => nomatch h
theorem Lo.app {a b : List Nat} (h : Lo a) (k : Lo b) : Lo (a ++ b) := fun x hx => (List.mem_append.1 hx).elim (h x) (k x)
theorem Lo.one {n : Nat} (h : n < 256) : Lo [n] := fun x hx => by rw [List.mem_singleton.1 hx]; exact h
theorem Lo.cons {n : Nat} {l : List Nat} (h : n < 256) (k : Lo l) : Lo (n :: l) := fun x hx => (List.mem_cons.1 hx).elim (fun e => e ▸ h) (k x)
theorem byt_size (l : List Nat) : (byt l).size = l.length := by show (byt l).data.size = _; unfold byt; simp
theorem byt_append (a b : List Nat) : byt (a ++ b) = byt a ++ byt b := by
  apply ByteArray.ext
  show _ = (byt a ++ byt b).data
  rw [ByteArray.data_append]
  unfold byt
  simp
theorem byt_cells {l : List Nat} (h : Lo l) : Lib.strCells (byt l) = cv l := by
  unfold Lib.strCells byt cv
  rw [List.toList_toArray, List.map_map]
  refine List.map_congr_left fun x hx => ?_
  have := h x hx
  show Value.int .u8 ((UInt8.ofNat x).toNat : Int) = _
  rw [UInt8.toNat_ofNat_of_lt' (by exact this)]
theorem byt_bts {l : List Nat} (h : Lo l) {j : Nat} (hj : j < l.length) : bts (byt l) j = .int .u8 (l.getD j 0 : Nat) := by
  unfold bts
  rw [Utf8W.get!_of_lt _ j (by rw [byt_size]; exact hj)]
  have hx : l[j] < 256 := h _ (List.getElem_mem hj)
  have e : (byt l)[j]'(by rw [byt_size]; exact hj) = UInt8.ofNat l[j] := by
    show (byt l).data[j]'_ = _
    unfold byt
    simp
  rw [e, UInt8.toNat_ofNat_of_lt' (by exact hx)]
  simp [List.getD, hj]
/-- A row of bytes of the call's own reads as a text. -/
theorem own_bs {w : World} {B : Nat} {v : Value} {l : List Nat} (h : w.ownsRow B 5 1 v l.length (cv l)) (hl : Lo l) : BS w v (byt l) := by
  by_cases h0 : 0 < l.length
  · obtain ⟨g, c, rfl, _, _, hc, _⟩ := own_slice h h0
    refine ⟨_, g, 0, c, by rw [byt_size], fun _ => rfl, fun j hj => ?_⟩
    rw [byt_size] at hj
    rw [Nat.zero_add, hc j hj, byt_bts hl hj]
  · have e : l = [] := List.length_eq_zero_iff.1 (by omega)
    subst e
    rcases h.2 with ⟨hv, _⟩ | ⟨g, c, cur, hv, _⟩
    · exact ⟨_, 0, 0, _, hv, fun h => absurd h (by decide), fun j hj => absurd hj (Nat.not_lt_zero _)⟩
    · exact ⟨_, g, 0, _, hv, fun _ => rfl, fun j hj => absurd hj (Nat.not_lt_zero _)⟩
/-- .. and lies in a new block. -/
theorem own_bf {w0 w : World} {B : Nat} {v : Value} {l : List Nat} (h : w.ownsRow B 5 1 v l.length (cv l)) (hl : Lo l) (hB : w0.heap.size ≤ B) : ∃ bl, BF w v (byt l) bl ∧ Fr w0 w bl := by
  by_cases h0 : 0 < l.length
  · obtain ⟨g, c, rfl, hg, hlt, hc, hf⟩ := own_slice h h0
    refine ⟨[g], ⟨_, g, 0, c, by rw [byt_size], fun _ => rfl, by rw [byt_size, if_pos h0], fun j hj => ?_⟩, ⟨by simp, fun x hx => ?_, fun x hx => ?_⟩⟩
    · rw [byt_size] at hj
      rw [Nat.zero_add, hc j hj, byt_bts hl hj]
      exact ⟨rfl, hf j⟩
    · rw [List.mem_singleton.1 hx]; omega
    · rw [List.mem_singleton.1 hx]; exact hlt
  · have e : l = [] := List.length_eq_zero_iff.1 (by omega)
    subst e
    refine ⟨[], ?_, ⟨List.nodup_nil, (fun x hx => nomatch hx), (fun x hx => nomatch hx)⟩⟩
    rcases h.2 with ⟨hv, _⟩ | ⟨g, c, cur, hv, _⟩
    · exact ⟨_, 0, 0, _, hv, fun h => absurd h (by decide), rfl, fun j hj => absurd hj (Nat.not_lt_zero _)⟩
    · exact ⟨_, g, 0, _, hv, fun _ => rfl, rfl, fun j hj => absurd hj (Nat.not_lt_zero _)⟩
theorem blk_app {w w' : World} {B b n : Nat} {v : Value} {xs : List Value} {t : TypeId} {cs : Array Value} (h : Blk w b t cs) (ht : t ≠ 5) (hown : w.ownsRow B 5 1 v n xs) (hg : w.grownBy w' v.ownBlock) : Blk w' b t cs := by
  refine (hg.block b h.lt fun e => ?_).trans h
  rcases hown.2 with ⟨rfl, _⟩ | ⟨g, c, cur, rfl, _, hgc, _⟩
  · cases e
  · cases e
    have h' : w.heap[g]? = some (.cells cs t (0, 0)) := h
    rw [hgc] at h'
    cases h'
    exact ht rfl
end Go.Proofs.YtfldjcmobpcpoaaDoor
