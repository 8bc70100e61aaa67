/-
  Plainly: what is known of the nodes of a valid tree.
  A node's kids and cells in memory.
  Numbers of bytes as a text; rows of the call's own as one.
  Signs, how tightly they bind, ways.
-/
import Derived.Test.YtdlahabeegmjiaaDoorJCkND0
import Derived.Test.YtdlahabeegmjiaaDoorJCkIN2
import Derived.Test.YtdlahabeegmjiaaDoorJCkAP
import Derived.Test.YtdlahabeegmjiaaDoorJCkMK
import Derived.Test.YtdlahabeegmjiaaDoorJCkCV
import Derived.Lib.AppendStr
namespace Go.Proofs.YtdlahabeegmjiaaDoor

/-- A node with all that is below it is well made, so deep at most. -/
def Gd (L : List Nd) (f i : Nat) : Prop := (∃ e, sE L.length (cn L) f i = some e) ∧ sG L.length (cn L) (okN L) (stN L) f i = true
theorem vT_good {L : List Nd} (h : vT L = true) : 0 < L.length ∧ L.length ≤ 4000 ∧ (ndA L 0).kind = 0 ∧ Gd L 60 0 := by
  have h0 : 0 < L.length := by
    rcases Nat.eq_zero_or_pos L.length with g | g
    · rw [vT_none g] at h; cases h
    · exact g
  have h1 : L.length ≤ 4000 := by
    by_cases g : L.length ≤ 4000
    · exact g
    · rw [vT_long g] at h; cases h
  have h2 : (L.getD 0 .zero).kind = 0 := by
    by_cases g : (L.getD 0 .zero).kind = 0
    · exact g
    · rw [vT_kind g] at h; cases h
  rw [vT_end h0 h1 h2, beq_iff_eq] at h
  have := (bE_sE (okN_nn (L := L)) (st := stN L) 60 (Nat.le_refl _) 0 L.length h0 (by omega)).1 h
  exact ⟨h0, h1, h2, ⟨⟨_, this.1⟩, this.2⟩⟩
theorem kds_kp (L : List Nd) : ∀ c a, kp (nxT L.length (cn L)) c a = (kds L c a).map fun (k : Nat) => (k : Int)
  | 0, _ => rfl
  | c + 1, a => by rw [kp, kds, List.map_cons, kds_kp L c]; rfl
theorem kds_len (L : List Nd) : ∀ c a, (kds L c a).length = c
  | 0, _ => rfl
  | c + 1, a => by rw [kds, List.length_cons, kds_len L c]
theorem kds_good {L : List Nd} {f p : Nat} (hf : f ≤ 60) : ∀ c j0 a e, sLoop (sE L.length (cn L) f) c a = some e → gLoop (nxT L.length (cn L)) (stN L) (sG L.length (cn L) (okN L) (stN L) f) p c j0 a = true → ∀ j k, (kds L c a)[j]? = some k → Gd L f k ∧ stN L p (j0 + j) k = true
  | 0, _, _, _, _, _, j, k, h => by simp [kds] at h
  | c + 1, j0, a, e, h1, h2, j, k, h => by
    rw [sLoop] at h1
    cases hx : sE L.length (cn L) f a with
    | none => rw [hx] at h1; cases h1
    | some q =>
      rw [hx] at h1
      rw [gLoop, Bool.and_eq_true, Bool.and_eq_true, nx_of hf hx] at h2
      cases j with
      | zero =>
        obtain rfl : a = k := by simpa [kds] using h
        exact ⟨⟨⟨q, hx⟩, h2.2.1⟩, h2.1⟩
      | succ j =>
        have h3 : (kds L c q)[j]? = some k := by
          rw [kds] at h
          have e1 : nxT L.length (fun j => (ndA L j).count) a = q := nx_of hf hx
          rw [e1] at h
          simpa using h
        have := kds_good hf c (j0 + 1) q e h1 h2.2.2 j k h3
        rw [show j0 + (j + 1) = j0 + 1 + j by omega]
        exact this
theorem Gd.step {L : List Nd} {f i : Nat} (h : Gd L (f + 1) i) (hf : f + 1 ≤ 60) : i < L.length ∧ okN L i = true ∧ 0 ≤ cn L i ∧ (∃ e, sLoop (sE L.length (cn L) f) (cn L i).toNat (i + 1) = some e) ∧ ∀ j k, (kidsOf L i)[j]? = some k → Gd L f k ∧ stN L i j k = true := by
  obtain ⟨⟨e, h1⟩, h2⟩ := h
  rw [sE] at h1
  by_cases c : L.length ≤ i ∨ cn L i < 0 ∨ (L.length : Int) < cn L i
  · rw [if_pos c] at h1; cases h1
  rw [if_neg c] at h1
  rw [sG, Bool.and_eq_true] at h2
  refine ⟨by omega, h2.1, by omega, ⟨e, h1⟩, fun j k hk => ?_⟩
  have := kds_good (p := i) (by omega) _ 0 (i + 1) e h1 h2.2 j k hk
  rw [Nat.zero_add] at this
  exact this
theorem Gd.pos {L : List Nd} {f i : Nat} (h : Gd L f i) : ∃ g, f = g + 1 := by
  cases f with
  | zero => obtain ⟨⟨e, h1⟩, _⟩ := h; cases h1
  | succ g => exact ⟨g, rfl⟩
theorem kids_len (L : List Nd) (i : Nat) : (kidsOf L i).length = (ndA L i).count.toNat := kds_len L _ _
/-- A node's own fields. -/
theorem Gd.fld {L : List Nd} {f i : Nat} (h : Gd L f i) (hf : f ≤ 60) : vCnt (ndA L i).kind (ndA L i).count = true ∧ 0 ≤ (ndA L i).n ∧ (ndA L i).n ≤ gNk (ndA L i).kind ∧ ((ndA L i).names.length : Int) = nOf (ndA L i) ∧ vTy (ndA L i) = true ∧ vTx (ndA L i) = true := by
  obtain ⟨g, rfl⟩ := h.pos
  have h1 := (h.step hf).2.1
  unfold okN vFd vNs at h1
  simp only [Bool.and_eq_true, decide_eq_true_eq, beq_iff_eq] at h1
  exact ⟨h1.2, h1.1.1, h1.1.2.1, h1.1.2.2.2.2.1, h1.1.2.2.2.1, h1.1.2.2.1⟩
theorem Gd.name {L : List Nd} {f i : Nat} (h : Gd L f i) (hf : f ≤ 60) (hk : (ndA L i).kind = 3 ∨ (ndA L i).kind = 4 ∨ (ndA L i).kind = 5 ∨ (ndA L i).kind = 19) : (ndA L i).names.length = 1 := by
  have h1 := (h.fld hf).2.2.2.1
  unfold nOf at h1
  rw [if_neg (by omega), if_pos hk] at h1
  omega
theorem Gd.kinds {L : List Nd} {f i : Nat} (h : Gd L f i) (hf : f ≤ 60) : 0 ≤ (ndA L i).kind ∧ (ndA L i).kind ≤ 22 := by
  have h1 := (h.fld hf).1
  by_cases c : (ndA L i).kind < 0 ∨ 22 < (ndA L i).kind
  · rw [vCnt_none _ _ c] at h1; cases h1
  · omega
/-- An expression's operands are expressions. -/
theorem Gd.opd {L : List Nd} {f i : Nat} (h : Gd L (f + 1) i) (hf : f + 1 ≤ 60) (hk : (ndA L i).kind = 20 ∨ (ndA L i).kind = 21 ∨ (ndA L i).kind = 22) : (kidsOf L i).length = (if (ndA L i).kind = 20 then 2 else 1) ∧ ∀ (j k : Nat), (kidsOf L i)[j]? = some k → Gd L f k ∧ 16 ≤ (ndA L k).kind ∧ (ndA L k).kind ≤ 22 := by
  have h1 := (h.fld hf).1
  refine ⟨?_, fun j k hj => ?_⟩
  · rw [kids_len]
    unfold vCnt at h1
    rcases hk with c | c | c
    · rw [c] at h1 ⊢; simp at h1; rw [h1]; rfl
    · rw [c] at h1 ⊢; simp at h1; rw [h1]; rfl
    · rw [c] at h1 ⊢; simp at h1; rw [h1]; rfl
  · have h2 := (h.step hf).2.2.2.2 j k hj
    refine ⟨h2.1, ?_⟩
    have h3 := h2.2
    unfold stN mSt at h3
    have e1 : (L.getD i .zero).kind = (ndA L i).kind := rfl
    have e2 : (L.getD k .zero).kind = (ndA L k).kind := rfl
    rw [e1, e2, if_neg (by omega), if_neg (by omega), if_neg (by omega), if_neg (by omega), if_neg (by omega)] at h3
    unfold isExpr at h3
    simp at h3
    exact h3
end Go.Proofs.YtdlahabeegmjiaaDoor

namespace Go.Proofs.YtdlahabeegmjiaaDoor
open Go.RowKit

theorem kids_gd {w : World} {v : Value} {L : List Nd} {f i : Nat} (hl : L.length ≤ 1048576) (hf : f + 1 ≤ 60) (hg : Gd L (f + 1) i) (h : NS w v L) :
    Calls Tryd.prog 11 #[v, .int .i64 (i : Nat)] w fun x w' => ∃ u, x = .returned u ∧ IS w' u ((kidsOf L i).map fun (k : Nat) => (k : Int)) ∧ Below w.heap.size w w' := by
  obtain ⟨h1, h2, h3, ⟨e, h4⟩, _⟩ := hg.step hf
  have := l2kids_any v L hl i e f w h1 (by omega) h3 h4 h
  rw [kds_kp] at this
  exact this
theorem kids_own {w : World} {v : Value} {L : List Nd} {f i : Nat} (hl : L.length ≤ 1048576) (hf : f + 1 ≤ 60) (hg : Gd L (f + 1) i) (h : NS w v L) :
    Calls Tryd.prog 11 #[v, .int .i64 (i : Nat)] w fun x w' => ∃ u, x = .returned u ∧ w'.ownsRow w.heap.size 3 1 u (kidsOf L i).length (ci ((kidsOf L i).map fun (k : Nat) => (k : Int))) ∧ Below w.heap.size w w' := by
  obtain ⟨h1, h2, h3, ⟨e, h4⟩, _⟩ := hg.step hf
  have := l2kids_own v L hl i e f w h1 (by omega) h3 h4 h
  rw [kds_kp, List.length_map] at this
  exact this
/-- A node's cells, told of a later world. -/
theorem NS.nod {w : World} {v : Value} {L : List Nd} (h : NS w v L) {i : Nat} (hi : i < L.length) : ∃ b o c vt vn vy, v = .slice (some ⟨b, o, none⟩) L.length c ∧ NC w b (o + i * 6) (ndA L i) vt vn vy ∧ NV w (ndA L i) vt vn vy := by
  obtain ⟨a, b, o, c, h1, h2, h3⟩ := h
  obtain ⟨vt, vn, vy, h4, h5⟩ := h3 i hi
  exact ⟨b, o, c, vt, vn, vy, by rw [h1, h2 (by omega)], h4, h5⟩
theorem NV.slc {w : World} {d : Nd} {vt vn vy : Value} (h : NV w d vt vn vy) : ∃ a1 c1 a2 c2 a3 c3, vt = .slice a1 d.text.size c1 ∧ vn = .slice a2 d.names.length c2 ∧ vy = .slice a3 d.types.length c3 := by
  obtain ⟨⟨a1, _, _, c1, h1, _⟩, ⟨a2, _, _, c2, h2, _⟩, ⟨a3, _, _, c3, h3, _⟩⟩ := h
  exact ⟨a1, c1, a2, c2, a3, c3, h1, h2, h3⟩
/-- The first of a node's names. -/
theorem NV.nm0 {w : World} {d : Nd} {vt vn vy : Value} (h : NV w d vt vn vy) (h1 : 0 < d.names.length) : ∃ b o c u, vn = .slice (some ⟨b, o, none⟩) d.names.length c ∧ w.cell? ⟨b, o, none⟩ = some u ∧ BS w u (d.names.getD 0 .empty) := by
  obtain ⟨a2, b2, o2, c2, e2, h2, h3⟩ := h.names
  obtain ⟨u, h4, h5⟩ := h3 0 h1
  exact ⟨b2, o2, c2, u, by rw [e2, h2 h1], h4, h5⟩
end Go.Proofs.YtdlahabeegmjiaaDoor

namespace Go.Proofs.YtdlahabeegmjiaaDoor
open Go.RowKit

/-- Numbers of bytes as a text. -/
def byt (l : List Nat) : ByteArray := ⟨(l.map fun n => UInt8.ofNat n).toArray⟩
/-- All are numbers of bytes. -/
def Lo (l : List Nat) : Prop := ∀ x ∈ l, x < 256
theorem Lo.nil : Lo [] := fun _ h => nomatch h
theorem Lo.app {a b : List Nat} (h : Lo a) (k : Lo b) : Lo (a ++ b) := fun x hx => (List.mem_append.1 hx).elim (h x) (k x)
theorem Lo.one {n : Nat} (h : n < 256) : Lo [n] := fun x hx => by rw [List.mem_singleton.1 hx]; exact h
theorem Lo.cons {n : Nat} {l : List Nat} (h : n < 256) (k : Lo l) : Lo (n :: l) := fun x hx => (List.mem_cons.1 hx).elim (fun e => e ▸ h) (k x)
theorem byt_size (l : List Nat) : (byt l).size = l.length := by show (byt l).data.size = _; unfold byt; simp
theorem byt_append (a b : List Nat) : byt (a ++ b) = byt a ++ byt b := by
  apply ByteArray.ext
  show _ = (byt a ++ byt b).data
  rw [ByteArray.data_append]
  unfold byt
  simp
theorem byt_cells {l : List Nat} (h : Lo l) : Lib.strCells (byt l) = cv l := by
  unfold Lib.strCells byt cv
  rw [List.toList_toArray, List.map_map]
  refine List.map_congr_left fun x hx => ?_
  have := h x hx
  show Value.int .u8 ((UInt8.ofNat x).toNat : Int) = _
  rw [UInt8.toNat_ofNat_of_lt' (by exact this)]
theorem byt_bts {l : List Nat} (h : Lo l) {j : Nat} (hj : j < l.length) : bts (byt l) j = .int .u8 (l.getD j 0 : Nat) := by
  unfold bts
  rw [Utf8W.get!_of_lt _ j (by rw [byt_size]; exact hj)]
  have hx : l[j] < 256 := h _ (List.getElem_mem hj)
  have e : (byt l)[j]'(by rw [byt_size]; exact hj) = UInt8.ofNat l[j] := by
    show (byt l).data[j]'_ = _
    unfold byt
    simp
  rw [e, UInt8.toNat_ofNat_of_lt' (by exact hx)]
  simp [List.getD, hj]
/-- A row of bytes of the call's own reads as a text. -/
theorem own_bs {w : World} {B : Nat} {v : Value} {l : List Nat} (h : w.ownsRow B 5 1 v l.length (cv l)) (hl : Lo l) : BS w v (byt l) := by
  by_cases h0 : 0 < l.length
  · obtain ⟨g, c, rfl, _, _, hc, _⟩ := own_slice h h0
    refine ⟨_, g, 0, c, by rw [byt_size], fun _ => rfl, fun j hj => ?_⟩
    rw [byt_size] at hj
    rw [Nat.zero_add, hc j hj, byt_bts hl hj]
  · have e : l = [] := List.length_eq_zero_iff.1 (by omega)
    subst e
    rcases h.2 with ⟨hv, _⟩ | ⟨g, c, cur, hv, _⟩
    · exact ⟨_, 0, 0, _, hv, fun h => absurd h (by decide), fun j hj => absurd hj (Nat.not_lt_zero _)⟩
    · exact ⟨_, g, 0, _, hv, fun _ => rfl, fun j hj => absurd hj (Nat.not_lt_zero _)⟩
/-- .. and lies in a new block. -/
theorem own_bf {w0 w : World} {B : Nat} {v : Value} {l : List Nat} (h : w.ownsRow B 5 1 v l.length (cv l)) (hl : Lo l) (hB : w0.heap.size ≤ B) : ∃ bl, BF w v (byt l) bl ∧ Fr w0 w bl := by
  by_cases h0 : 0 < l.length
  · obtain ⟨g, c, rfl, hg, hlt, hc, hf⟩ := own_slice h h0
    refine ⟨[g], ⟨_, g, 0, c, by rw [byt_size], fun _ => rfl, by rw [byt_size, if_pos h0], fun j hj => ?_⟩, ⟨by simp, fun x hx => ?_, fun x hx => ?_⟩⟩
    · rw [byt_size] at hj
      rw [Nat.zero_add, hc j hj, byt_bts hl hj]
      exact ⟨rfl, hf j⟩
    · rw [List.mem_singleton.1 hx]; omega
    · rw [List.mem_singleton.1 hx]; exact hlt
  · have e : l = [] := List.length_eq_zero_iff.1 (by omega)
    subst e
    refine ⟨[], ?_, ⟨List.nodup_nil, (fun x hx => nomatch hx), (fun x hx => nomatch hx)⟩⟩
    rcases h.2 with ⟨hv, _⟩ | ⟨g, c, cur, hv, _⟩
    · exact ⟨_, 0, 0, _, hv, fun h => absurd h (by decide), rfl, fun j hj => absurd hj (Nat.not_lt_zero _)⟩
    · exact ⟨_, g, 0, _, hv, fun _ => rfl, rfl, fun j hj => absurd hj (Nat.not_lt_zero _)⟩
theorem blk_app {w w' : World} {B b n : Nat} {v : Value} {xs : List Value} {t : TypeId} {cs : Array Value} (h : Blk w b t cs) (ht : t ≠ 5) (hown : w.ownsRow B 5 1 v n xs) (hg : w.grownBy w' v.ownBlock) : Blk w' b t cs := by
  refine (hg.block b h.lt fun e => ?_).trans h
  rcases hown.2 with ⟨rfl, _⟩ | ⟨g, c, cur, rfl, _, hgc, _⟩
  · cases e
  · cases e
    have h' : w.heap[g]? = some (.cells cs t (0, 0)) := h
    rw [hgc] at h'
    cases h'
    exact ht rfl
end Go.Proofs.YtdlahabeegmjiaaDoor

namespace Go.Proofs.YtdlahabeegmjiaaDoor

def sgW : List ByteArray := [(⟨#[124, 124]⟩ : ByteArray), (⟨#[38, 38]⟩ : ByteArray), (⟨#[61, 61]⟩ : ByteArray), (⟨#[33, 61]⟩ : ByteArray), (⟨#[60]⟩ : ByteArray), (⟨#[60, 61]⟩ : ByteArray), (⟨#[62]⟩ : ByteArray), (⟨#[62, 61]⟩ : ByteArray), (⟨#[38]⟩ : ByteArray), (⟨#[43]⟩ : ByteArray), (⟨#[45]⟩ : ByteArray), (⟨#[42]⟩ : ByteArray), (⟨#[47]⟩ : ByteArray), (⟨#[37]⟩ : ByteArray)]
def sgB : List Nat := [1, 2, 3, 3, 3, 3, 3, 3, 4, 5, 5, 6, 6, 6]
def wyN : List ByteArray := [(⟨#[110, 111, 114, 116, 104]⟩ : ByteArray), (⟨#[101, 97, 115, 116]⟩ : ByteArray), (⟨#[115, 111, 117, 116, 104]⟩ : ByteArray), (⟨#[119, 101, 115, 116]⟩ : ByteArray)]
end Go.Proofs.YtdlahabeegmjiaaDoor
