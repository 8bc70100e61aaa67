/-
  spec.l2dec at numbers of up to three digits.
  The drawing's writer in memory.
  Parts of trees in memory: nodes, places, parts, rows of parts; all in blocks of a kind G.
-/
import Derived.Test.YtdlahabeegmjiaaDoorJCkDR0
import Derived.Test.YtdlahabeegmjiaaDoorJCkCV
import Derived.Deep.RegionWith
import Derived.Test.YtdlahabeegmjiaaDoorJCkAP
import Derived.BigQuiet
import Derived.Deep.QuietTactic
import Derived.Test.YtdlahabeegmjiaaDoorJCkND0
import Derived.Test.YtdlahabeegmjiaaDoorJCkPSB
import Derived.Test.YtdlahabeegmjiaaDoorJCkIN0
import Derived.Maps.AppendAt
namespace Go.Proofs.YtdlahabeegmjiaaDoor
open Go.RowKit

theorem u8_wrapG {n : Nat} (h : n < 256) : IntKind.u8.wrap (n : Int) = (n : Int) := by
  simp only [IntKind.wrap, IntKind.bits, IntKind.signed]
  simp
  omega
theorem conv1 {r : Nat} (hr : r < 10) (W : World) (b : Nat) (hc : W.cell? ⟨b, 0, none⟩ = some (.int .u8 (48 + (r : Int)))) : (convert 31 9 (.slice (some ⟨b, 0, none⟩) 1 1)).run Tryd.prog W = .ok (.string (byt [48 + r])) W :=
  toStr_bs (s := byt [48 + r]) ⟨_, b, 0, 1, rfl, fun _ => rfl, fun j hj => by
    rw [byt_size] at hj
    obtain rfl : j = 0 := by simpa using hj
    rw [byt_bts (Lo.one (by omega)) (by simp), hc]
    simp⟩
end Go.Proofs.YtdlahabeegmjiaaDoor

namespace Go.Proofs.YtdlahabeegmjiaaDoor
open Go.RowKit

/-- All that lay there and has not the property lies as it lay. -/
structure Gw (P : Nat → Prop) (w w' : World) : Prop where
  os : w'.os = w.os
  tape : w'.tape = w.tape
  output : w'.output = w.output
  size : w.heap.size ≤ w'.heap.size
  block : ∀ k, k < w.heap.size → ¬ P k → w'.heap[k]? = w.heap[k]?
theorem Gw.refl (P : Nat → Prop) (w : World) : Gw P w w := ⟨rfl, rfl, rfl, Nat.le_refl _, fun _ _ _ => rfl⟩
theorem Gw.trans {P Q : Nat → Prop} {a b c : World} (h : Gw P a b) (k : Gw Q b c) (hq : ∀ j, j < a.heap.size → Q j → P j) : Gw P a c :=
  ⟨k.os.trans h.os, k.tape.trans h.tape, k.output.trans h.output, Nat.le_trans h.size k.size, fun j hj hp => (k.block j (Nat.lt_of_lt_of_le hj h.size) (fun g => hp (hq j hj g))).trans (h.block j hj hp)⟩
theorem Gw.mono {P Q : Nat → Prop} {a b : World} (h : Gw P a b) (hq : ∀ j, j < a.heap.size → P j → Q j) : Gw Q a b :=
  ⟨h.os, h.tape, h.output, h.size, fun j hj hp => h.block j hj (fun g => hp (hq j hj g))⟩
theorem Gw.of_grown {P : Nat → Prop} {w w' : World} {row : Option Nat} (h : w.grownBy w' row) (hr : ∀ k, row = some k → k < w.heap.size → P k) : Gw P w w' :=
  ⟨h.os, h.tape, h.output, h.size, fun k hk hp => h.block k hk (fun e => hp (hr k e.symm hk))⟩
theorem Gw.set (w : World) (b k : Nat) (v : Value) : Gw (· = b) w (w.setCell ⟨b, k, none⟩ v) := ⟨rfl, rfl, rfl, by simp, fun _ _ hk => Below.heap_setCell _ _ _ _ hk⟩
theorem Gw.of_below {P : Nat → Prop} {w w' : World} (h : Below w.heap.size w w') : Gw P w w' := ⟨h.os, h.tape, h.output, h.size, fun k hk _ => h.block k hk⟩
theorem Gw.below {P : Nat → Prop} {w0 w w' : World} {n : Nat} (h : Gw P w w') (hb : Below n w0 w) (hn : n ≤ w.heap.size) (hP : ∀ k, k < n → ¬ P k) : Below n w0 w' :=
  hb.trans ⟨h.os, h.tape, h.output, h.size, fun k hk => h.block k (Nat.lt_of_lt_of_le hk hn) (hP k hk)⟩
theorem Gw.cell {P : Nat → Prop} {w w' : World} {a : Addr} {v : Value} (h : Gw P w w') (hc : w.cell? a = some v) (hp : ¬ P a.block) : w'.cell? a = some v :=
  (World.cell?_of_block (h.block a.block (World.block_lt_of_cell? w a hc) hp)).trans hc
theorem Gw.blk {P : Nat → Prop} {w w' : World} {b : Nat} {t : TypeId} {cs : Array Value} (h : Gw P w w') (hb : Blk w b t cs) (hp : ¬ P b) : Blk w' b t cs := (h.block b hb.lt hp).trans hb
theorem Gw.own {P : Nat → Prop} {w w' : World} {B e sz n : Nat} {v : Value} {xs : List Value} (h : Gw P w w') (ho : w.ownsRow B e sz v n xs) (hp : ∀ k, v.ownBlock = some k → ¬ P k) : w'.ownsRow B e sz v n xs := by
  refine ⟨ho.1, ?_⟩
  rcases ho.2 with hn | ⟨g, cap, cur, rfl, hb, hgg, rest⟩
  · exact .inl hn
  · exact .inr ⟨g, cap, cur, rfl, hb, (h.block g (Array.getElem?_eq_some_iff.1 hgg).1 (hp g rfl)).trans hgg, rest⟩
/-- Where the reader, the writer and the read bytes lie. -/
structure GnC where
  R : Nat
  G : Nat
  a0 : Option Addr
  b : Nat
  off : Nat
  cap : Nat
/-- Texts that can be seen. -/
def SSr (w : World) (v : Value) (L : List ByteArray) (X : Nat → Prop) : Prop := ∃ a b o c, v = .slice a L.length c ∧ (0 < L.length → a = some ⟨b, o, none⟩ ∧ ¬ X b) ∧ ∀ j, j < L.length → w.cell? ⟨b, o + j, none⟩ = some (.string (L.getD j ⟨#[]⟩))
theorem SSr.gw {P : Nat → Prop} {w w' : World} {v : Value} {L : List ByteArray} {X Y : Nat → Prop} (h : SSr w v L X) (hg : Gw P w w') (hp : ∀ k, P k → X k) (hY : ∀ k, k < w.heap.size → Y k → X k) : SSr w' v L Y := by
  obtain ⟨a, b, o, c, h1, h2, h3⟩ := h
  refine ⟨a, b, o, c, h1, fun hl => ⟨(h2 hl).1, fun g => (h2 hl).2 (hY b (World.block_lt_of_cell? _ _ (h3 0 hl)) g)⟩, fun j hj => hg.cell (h3 j hj) (fun g => (h2 (by omega)).2 (hp _ g))⟩
def ist (l : List ByteArray) : List Value := l.map Value.string
theorem ist_length (l : List ByteArray) : (ist l).length = l.length := by simp [ist]
/-- What a statement may change: the reader, the writer, the names' row. -/
def GnX (c : GnC) (vi : Value) (k : Nat) : Prop := k = c.R ∨ k = c.G ∨ vi.ownBlock = some k
theorem GE.nx_lt (e : GE) (i : Nat) : e.nx i < 256 := Go.Proofs.YtdlahabeegmjiaaDoor.nx_lt e.cs e.n i
theorem getD_le {L : List ByteArray} {n : Nat} (h : ∀ x ∈ L, x.size ≤ n) (j : Nat) : (L.getD j ⟨#[]⟩).size ≤ n := by
  rw [List.getD_eq_getElem?_getD]
  cases hj : L[j]? with
  | none => exact Nat.zero_le _
  | some x => exact h x (List.mem_of_getElem? hj)
theorem lsz (l : Array UInt8) : (⟨l⟩ : ByteArray).size = l.size := rfl
theorem gI_le {ints : List ByteArray} (h : ∀ x ∈ ints, x.size ≤ 4) (most k : Nat) : (gI ints most k).size ≤ 30 := by
  have d : ∀ v, (decB v).size ≤ 3 := decB_le
  have d1 := d (k % most)
  have d2 := d (k % 3)
  have d3 := d (most - 1)
  have d4 := d k
  have d5 := d most
  unfold gI
  repeat' split
  · omega
  · have := getD_le h (k % ints.length); omega
  all_goals try simp only [ByteArray.size_append, lsz, List.size_toArray, List.length_cons, List.length_nil]
  all_goals try omega
  · have := getD_le (L := odI) (n := 10) (by decide) (k - 250); omega
end Go.Proofs.YtdlahabeegmjiaaDoor

namespace Go.Proofs.YtdlahabeegmjiaaDoor
open Go.RowKit

/-- Cells from the first on. -/
def Cs (w : World) (g : Nat) (xs : List Value) : Prop := ∀ j u, xs[j]? = some u → w.cell? ⟨g, j, none⟩ = some u
theorem Cs.gw {P : Nat → Prop} {w w' : World} {g : Nat} {xs : List Value} (h : Cs w g xs) (hg : Gw P w w') (hp : ¬ P g) : Cs w' g xs := fun j u hj => hg.cell (h j u hj) hp
theorem Cs.of_blk {w : World} {g : Nat} {t : TypeId} {cs : Array Value} (h : Blk w g t cs) : Cs w g cs.toList := fun j u hj => by
  rw [h.cell j, ← Array.getElem?_toList]; exact hj
/-- A row with its cells, behind G; at no length it may be nil. -/
def RwG (w : World) (G : Nat → Prop) (v : Value) (n : Nat) (xs : List Value) : Prop := ∃ a g c, v = .slice a n c ∧ (0 < n → a = some ⟨g, 0, none⟩ ∧ G g) ∧ (0 < n → Cs w g xs)
theorem RwG.gw {P : Nat → Prop} {w w' : World} {G : Nat → Prop} {n : Nat} {v : Value} {xs : List Value} (h : RwG w G v n xs) (hg : Gw P w w') (hp : ∀ k, P k → ¬ G k) : RwG w' G v n xs := by
  obtain ⟨a, g, c, h1, h2, h3⟩ := h
  exact ⟨a, g, c, h1, h2, fun hn => (h3 hn).gw hg (fun q => hp _ q (h2 hn).2)⟩
theorem RwG.nil (w : World) (G : Nat → Prop) (c : Nat) (xs : List Value) : RwG w G (.slice none 0 c) 0 xs := ⟨none, 0, c, rfl, fun h => absurd h (by omega), fun h => absurd h (by omega)⟩
theorem RwG.of_own {w : World} {G : Nat → Prop} {B e sz n : Nat} {v : Value} {xs : List Value} (h : w.ownsRow B e sz v n xs) (hG : ∀ g, B ≤ g → G g) : RwG w G v n xs := by
  rcases h.2 with ⟨h1, h0⟩ | ⟨g, c, cur, hv, hb, hgg, _, _, _, ht⟩
  · rw [h0]; rw [h1]; exact RwG.nil w G 0 xs
  · refine ⟨_, g, c, hv, fun _ => ⟨rfl, hG _ hb⟩, fun _ j u hj => ?_⟩
    rw [← ht] at hj
    rw [List.getElem?_take] at hj
    split at hj
    · rw [Array.getElem?_toList] at hj
      simp [World.cell?, hgg, hj]
    · cases hj
theorem RwG.of_blk {w : World} {G : Nat → Prop} {g n : Nat} {t : TypeId} {cs : Array Value} (h : Blk w g t cs) (hG : G g) (c : Nat) : RwG w G (.slice (some ⟨g, 0, none⟩) n c) n cs.toList := ⟨_, g, c, rfl, fun _ => ⟨rfl, hG⟩, fun _ => Cs.of_blk h⟩

def byv (s : ByteArray) : List Value := s.data.toList.map fun b => Value.int .u8 (b.toNat : Int)
theorem byv_at (s : ByteArray) (j : Nat) (hj : j < s.size) : (byv s)[j]? = some (bts s j) := by
  unfold byv bts
  rw [List.getElem?_map, Array.getElem?_toList, Array.getElem?_eq_getElem (by exact hj), Utf8W.get!_of_lt s j hj]
  rfl
theorem byv_len (s : ByteArray) : (byv s).length = s.size := by unfold byv; rw [List.length_map, Array.length_toList]; rfl
def inv (l : List Int) : List Value := l.map fun n => Value.int .i64 n
def plv (l : List Nat) : List Value := l.map fun (n : Nat) => Value.int .i64 (n : Int)
/-- Bytes. -/
def BG (w : World) (G : Nat → Prop) (v : Value) (s : ByteArray) : Prop := RwG w G v s.size (byv s)
/-- Names. -/
def SG (w : World) (G : Nat → Prop) (v : Value) (L : List ByteArray) : Prop := ∃ M : List Value, M.length = L.length ∧ RwG w G v L.length M ∧ ∀ (j : Nat) (x : ByteArray), L[j]? = some x → ∃ u : Value, M[j]? = some u ∧ BG w G u x
theorem BG.gw {P : Nat → Prop} {w w' : World} {G : Nat → Prop} {v : Value} {s : ByteArray} (h : BG w G v s) (hg : Gw P w w') (hp : ∀ k, P k → ¬ G k) : BG w' G v s := RwG.gw h hg hp
theorem SG.gw {P : Nat → Prop} {w w' : World} {G : Nat → Prop} {v : Value} {L : List ByteArray} (h : SG w G v L) (hg : Gw P w w') (hp : ∀ k, P k → ¬ G k) : SG w' G v L := by
  obtain ⟨M, h1, h2, h3⟩ := h
  refine ⟨M, h1, h2.gw hg hp, fun j x hj => ?_⟩
  obtain ⟨u, h4, h5⟩ := h3 j x hj
  exact ⟨u, h4, h5.gw hg hp⟩
theorem BG.slc {w : World} {G : Nat → Prop} {v : Value} {s : ByteArray} (h : BG w G v s) : ∃ a c, v = .slice a s.size c := by obtain ⟨a, g, c, h1, _⟩ := h; exact ⟨a, c, h1⟩
/-- A node with its slices. -/
structure Nv where
  d : Nd
  t : Value
  n : Value
  y : Value
def Nv.cs (m : Nv) : List Value := [.int .i64 m.d.kind, .int .i64 m.d.n, m.t, m.n, m.y, .int .i64 m.d.count]
structure Nv.Ok (w : World) (G : Nat → Prop) (m : Nv) : Prop where
  text : BG w G m.t m.d.text
  names : SG w G m.n m.d.names
  types : RwG w G m.y m.d.types.length (inv m.d.types)
  b1 : m.d.text.size ≤ 1048576
  b2 : m.d.names.length ≤ 1048576
  b3 : ∀ x ∈ m.d.names, x.size ≤ 1048576
  b4 : m.d.types.length ≤ 1048576
theorem Nv.Ok.gw {P : Nat → Prop} {w w' : World} {G : Nat → Prop} {m : Nv} (h : m.Ok w G) (hg : Gw P w w') (hp : ∀ k, P k → ¬ G k) : m.Ok w' G := ⟨h.text.gw hg hp, h.names.gw hg hp, h.types.gw hg hp, h.b1, h.b2, h.b3, h.b4⟩
theorem Nv.Ok.one {w : World} {G : Nat → Prop} {m : Nv} (h : m.Ok w G) : ∀ u ∈ m.cs, u.oneCell' = true := by
  obtain ⟨a1, c1, h1⟩ := h.text.slc
  obtain ⟨_, _, ⟨a2, _, c2, h2, _⟩, _⟩ := h.names
  obtain ⟨a3, _, c3, h3, _⟩ := h.types
  intro u hu
  unfold Nv.cs at hu
  rw [h1, h2, h3] at hu
  simp only [List.mem_cons, List.not_mem_nil, or_false] at hu
  rcases hu with rfl | rfl | rfl | rfl | rfl | rfl <;> rfl
def ncs (M : List Nv) : List Value := M.flatMap Nv.cs
theorem ncs_len : ∀ M, (ncs M).length = M.length * 6
  | [] => rfl
  | m :: M => by
    have := ncs_len M
    unfold ncs at *
    rw [List.flatMap_cons, List.length_append, this, List.length_cons]
    show 6 + _ = _
    omega
theorem ncs_app (a b : List Nv) : ncs (a ++ b) = ncs a ++ ncs b := List.flatMap_append
theorem ncs_one {w : World} {G : Nat → Prop} {M : List Nv} (h : ∀ m ∈ M, m.Ok w G) : ∀ u ∈ ncs M, u.oneCell' = true := fun u hu => by
  obtain ⟨m, hm, hu⟩ := List.mem_flatMap.1 hu
  exact (h m hm).one u hu
/-- Nodes. -/
def NG (w : World) (G : Nat → Prop) (v : Value) (L : List Nd) : Prop := ∃ M : List Nv, M.map Nv.d = L ∧ RwG w G v M.length (ncs M) ∧ ∀ m ∈ M, m.Ok w G
theorem NG.gw {P : Nat → Prop} {w w' : World} {G : Nat → Prop} {v : Value} {L : List Nd} (h : NG w G v L) (hg : Gw P w w') (hp : ∀ k, P k → ¬ G k) : NG w' G v L := by
  obtain ⟨M, h1, h2, h3⟩ := h
  exact ⟨M, h1, h2.gw hg hp, fun m hm => (h3 m hm).gw hg hp⟩
/-- A part in its two values. -/
structure PV (w : World) (G : Nat → Prop) (vt vp : Value) (x : Pt) : Prop where
  t : NG w G vt x.t
  p : RwG w G vp x.p.length (plv x.p)
  ne : 0 < x.t.length
  same : x.p.length = x.t.length
theorem PV.gw {P : Nat → Prop} {w w' : World} {G : Nat → Prop} {vt vp : Value} {x : Pt} (h : PV w G vt vp x) (hg : Gw P w w') (hp : ∀ k, P k → ¬ G k) : PV w' G vt vp x := ⟨h.t.gw hg hp, h.p.gw hg hp, h.ne, h.same⟩
theorem PV.slc {w : World} {G : Nat → Prop} {vt vp : Value} {x : Pt} (h : PV w G vt vp x) : ∃ g c g' c', vt = .slice (some ⟨g, 0, none⟩) x.t.length c ∧ vp = .slice (some ⟨g', 0, none⟩) x.t.length c' ∧ G g ∧ G g' := by
  obtain ⟨⟨M, h1, ⟨a, g, c, h2, h3, _⟩, _⟩, ⟨a', g', c', h4, h5, _⟩, hn, hs⟩ := h
  have e : M.length = x.t.length := by rw [← h1, List.length_map]
  rw [e] at h2 h3
  rw [hs] at h4 h5
  have k1 := h3 hn
  have k2 := h5 hn
  exact ⟨g, c, g', c', by rw [h2, k1.1], by rw [h4, k2.1], k1.2, k2.2⟩
def pcs (M : List (Value × Value)) : List Value := M.flatMap fun m => [m.1, m.2]
theorem pcs_len : ∀ M, (pcs M).length = M.length * 2
  | [] => rfl
  | m :: M => by
    have := pcs_len M
    unfold pcs at *
    rw [List.flatMap_cons, List.length_append, this, List.length_cons]
    simp only [List.length_cons, List.length_nil]
    omega
theorem pcs_app (a b : List (Value × Value)) : pcs (a ++ b) = pcs a ++ pcs b := List.flatMap_append
theorem pcs_at : ∀ (M : List (Value × Value)) (j : Nat) (m : Value × Value), M[j]? = some m → (pcs M)[2 * j]? = some m.1 ∧ (pcs M)[2 * j + 1]? = some m.2
  | [], j, m, h => by simp at h
  | a :: M, 0, m, h => by
    obtain rfl : a = m := by simpa using h
    exact ⟨rfl, rfl⟩
  | a :: M, j + 1, m, h => by
    have := pcs_at M j m (by simpa using h)
    exact this
/-- The values of parts. -/
def Ms (w : World) (G : Nat → Prop) (M : List (Value × Value)) (ks : List Pt) : Prop := M.length = ks.length ∧ ∀ (j : Nat) (x : Pt), ks[j]? = some x → ∃ m : Value × Value, M[j]? = some m ∧ PV w G m.1 m.2 x
theorem Ms.gw {P : Nat → Prop} {w w' : World} {G : Nat → Prop} {M : List (Value × Value)} {ks : List Pt} (h : Ms w G M ks) (hg : Gw P w w') (hp : ∀ k, P k → ¬ G k) : Ms w' G M ks := ⟨h.1, fun j x hj => by
  obtain ⟨m, h1, h2⟩ := h.2 j x hj
  exact ⟨m, h1, h2.gw hg hp⟩⟩
theorem Ms.nil (w : World) (G : Nat → Prop) : Ms w G [] [] := ⟨rfl, fun j x h => by simp at h⟩
theorem Ms.app {w : World} {G : Nat → Prop} {M M' : List (Value × Value)} {ks ks' : List Pt} (h : Ms w G M ks) (h' : Ms w G M' ks') : Ms w G (M ++ M') (ks ++ ks') := by
  refine ⟨by rw [List.length_append, List.length_append, h.1, h'.1], fun j x hj => ?_⟩
  by_cases c : j < ks.length
  · rw [List.getElem?_append_left c] at hj
    obtain ⟨m, h1, h2⟩ := h.2 j x hj
    exact ⟨m, by rw [List.getElem?_append_left (by rw [h.1]; exact c)]; exact h1, h2⟩
  · rw [List.getElem?_append_right (by omega)] at hj
    obtain ⟨m, h1, h2⟩ := h'.2 _ x hj
    exact ⟨m, by rw [List.getElem?_append_right (by rw [h.1]; omega), h.1]; exact h1, h2⟩
theorem Ms.one {w : World} {G : Nat → Prop} {vt vp : Value} {x : Pt} (h : PV w G vt vp x) : Ms w G [(vt, vp)] [x] := ⟨rfl, fun j y hj => by
  cases j with
  | zero => obtain rfl : x = y := by simpa using hj
            exact ⟨_, rfl, h⟩
  | succ j => simp at hj⟩
theorem Ms.ones {w : World} {G : Nat → Prop} {M : List (Value × Value)} {ks : List Pt} (h : Ms w G M ks) : ∀ u ∈ pcs M, u.oneCell' = true := fun u hu => by
  obtain ⟨m, hm, hu⟩ := List.mem_flatMap.1 hu
  obtain ⟨j, hj, hjm⟩ := List.getElem_of_mem hm
  have hx : ks[j]? = some (ks[j]'(by rw [← h.1]; exact hj)) := List.getElem?_eq_getElem _
  obtain ⟨m', h1, h2⟩ := h.2 j _ hx
  have e : m' = m := by rw [List.getElem?_eq_getElem hj, hjm] at h1; injection h1 with h1; exact h1.symm
  subst e
  obtain ⟨g, c, g', c', e1, e2, _⟩ := h2.slc
  simp only [List.mem_cons, List.not_mem_nil, or_false] at hu
  rcases hu with rfl | rfl
  · rw [e1]; rfl
  · rw [e2]; rfl
theorem RwG.mono {w : World} {G G' : Nat → Prop} {n : Nat} {v : Value} {xs : List Value} (h : RwG w G v n xs) (hx : xs ≠ [] ∨ n = 0) (hG : ∀ g, G g → g < w.heap.size → G' g) : RwG w G' v n xs := by
  obtain ⟨a, g, c, h1, h2, h3⟩ := h
  refine ⟨a, g, c, h1, fun hn => ⟨(h2 hn).1, hG g (h2 hn).2 ?_⟩, h3⟩
  rcases hx with hx | hx
  · cases xs with
    | nil => exact absurd rfl hx
    | cons u r => exact World.block_lt_of_cell? _ _ (h3 hn 0 u rfl)
  · omega
theorem ne_of_len {xs : List Value} {n : Nat} (h : n ≤ xs.length) : xs ≠ [] ∨ n = 0 := by
  cases xs with
  | nil => exact .inr (by simpa using h)
  | cons u r => exact .inl (by simp)
theorem BG.mono {w : World} {G G' : Nat → Prop} {v : Value} {s : ByteArray} (h : BG w G v s) (hG : ∀ g, G g → g < w.heap.size → G' g) : BG w G' v s := RwG.mono h (ne_of_len (by rw [byv_len]; exact Nat.le_refl _)) hG
theorem SG.mono {w : World} {G G' : Nat → Prop} {v : Value} {L : List ByteArray} (h : SG w G v L) (hG : ∀ g, G g → g < w.heap.size → G' g) : SG w G' v L := by
  obtain ⟨M, h1, h2, h3⟩ := h
  refine ⟨M, h1, h2.mono (ne_of_len (by rw [h1]; exact Nat.le_refl _)) hG, fun j x hj => ?_⟩
  obtain ⟨u, h4, h5⟩ := h3 j x hj
  exact ⟨u, h4, h5.mono hG⟩
theorem Nv.Ok.mono {w : World} {G G' : Nat → Prop} {m : Nv} (h : m.Ok w G) (hG : ∀ g, G g → g < w.heap.size → G' g) : m.Ok w G' := ⟨h.text.mono hG, h.names.mono hG, h.types.mono (ne_of_len (by unfold inv; rw [List.length_map]; exact Nat.le_refl _)) hG, h.b1, h.b2, h.b3, h.b4⟩
theorem NG.mono {w : World} {G G' : Nat → Prop} {v : Value} {L : List Nd} (h : NG w G v L) (hG : ∀ g, G g → g < w.heap.size → G' g) : NG w G' v L := by
  obtain ⟨M, h1, h2, h3⟩ := h
  exact ⟨M, h1, h2.mono (ne_of_len (by rw [ncs_len]; omega)) hG, fun m hm => (h3 m hm).mono hG⟩
theorem PV.mono {w : World} {G G' : Nat → Prop} {vt vp : Value} {x : Pt} (h : PV w G vt vp x) (hG : ∀ g, G g → g < w.heap.size → G' g) : PV w G' vt vp x := ⟨h.t.mono hG, h.p.mono (ne_of_len (by unfold plv; rw [List.length_map]; exact Nat.le_refl _)) hG, h.ne, h.same⟩
theorem Ms.mono {w : World} {G G' : Nat → Prop} {M : List (Value × Value)} {ks : List Pt} (h : Ms w G M ks) (hG : ∀ g, G g → g < w.heap.size → G' g) : Ms w G' M ks := ⟨h.1, fun j x hj => by
  obtain ⟨m, h1, h2⟩ := h.2 j x hj
  exact ⟨m, h1, h2.mono hG⟩⟩
/-- A row of parts that is read. -/
def PR (w : World) (G : Nat → Prop) (v : Value) (ks : List Pt) : Prop := ∃ M, RwG w G v ks.length (pcs M) ∧ Ms w G M ks
theorem PR.gw {P : Nat → Prop} {w w' : World} {G : Nat → Prop} {v : Value} {ks : List Pt} (h : PR w G v ks) (hg : Gw P w w') (hp : ∀ k, P k → ¬ G k) : PR w' G v ks := by
  obtain ⟨M, h1, h2⟩ := h
  exact ⟨M, h1.gw hg hp, h2.gw hg hp⟩
theorem info_partsG {P : Program} {t : TypeId} {z : Value} {a b : Nat} (h : (P.info? t).map (fun i => (i.zero, i.size, i.bytes)) = some (some z, a, b)) : ∃ i, P.info? t = some i ∧ i.zero = some z ∧ i.size = a ∧ i.bytes = b := by
  cases hi : P.info? t with
  | none => rw [hi] at h; cases h
  | some i => rw [hi] at h; simp at h; exact ⟨i, rfl, h.1, h.2.1, h.2.2⟩
end Go.Proofs.YtdlahabeegmjiaaDoor
