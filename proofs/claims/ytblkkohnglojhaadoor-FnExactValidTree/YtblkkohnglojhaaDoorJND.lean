/-
  Trees in memory: what a list of nodes reads as; the walks of toIntS, toByteSS.
  The walk of toByteSS.
-/
import Derived.Test.YtblkkohnglojhaaDoorB
namespace Go.Proofs.YtblkkohnglojhaaDoor
open Go.RowKit

/-- A slice of bytes reads as s. -/
def BS (w : World) (v : Value) (s : ByteArray) : Prop := ∃ a b o c, v = .slice a s.size c ∧ (0 < s.size → a = some ⟨b, o, none⟩) ∧ ∀ j, j < s.size → w.cell? ⟨b, o + j, none⟩ = some (bts s j)
/-- A slice of numbers reads as l. -/
def IS (w : World) (v : Value) (l : List Int) : Prop := ∃ a b o c, v = .slice a l.length c ∧ (0 < l.length → a = some ⟨b, o, none⟩) ∧ ∀ j, j < l.length → w.cell? ⟨b, o + j, none⟩ = some (.int .i64 (l.getD j 0))
/-- A slice of slices of bytes reads as L. -/
def SS (w : World) (v : Value) (L : List ByteArray) : Prop := ∃ a b o c, v = .slice a L.length c ∧ (0 < L.length → a = some ⟨b, o, none⟩) ∧ ∀ j, j < L.length → ∃ u, w.cell? ⟨b, o + j, none⟩ = some u ∧ BS w u (L.getD j .empty)
/-- A node. -/
structure Nd where
  kind : Int
  n : Int
  text : ByteArray
  names : List ByteArray
  types : List Int
  count : Int
def Nd.zero : Nd := ⟨0, 0, .empty, [], [], 0⟩
/-- A node's value, with the slices that it holds. -/
def nagg (d : Nd) (vt vn vy : Value) : Value := .agg #[.int .i64 d.kind, .int .i64 d.n, vt, vn, vy, .int .i64 d.count]
/-- The slices of a node read as its lists. -/
structure NV (w : World) (d : Nd) (vt vn vy : Value) : Prop where
  text : BS w vt d.text
  names : SS w vn d.names
  types : IS w vy d.types
/-- A node's cells. -/
structure NC (w : World) (b p : Nat) (d : Nd) (vt vn vy : Value) : Prop where
  kind : w.cell? ⟨b, p, none⟩ = some (.int .i64 d.kind)
  n : w.cell? ⟨b, p + 1, none⟩ = some (.int .i64 d.n)
  text : w.cell? ⟨b, p + 2, none⟩ = some vt
  names : w.cell? ⟨b, p + 3, none⟩ = some vn
  types : w.cell? ⟨b, p + 4, none⟩ = some vy
  count : w.cell? ⟨b, p + 5, none⟩ = some (.int .i64 d.count)
/-- A slice of nodes reads as L. -/
def NS (w : World) (v : Value) (L : List Nd) : Prop := ∃ a b o c, v = .slice a L.length c ∧ (0 < L.length → a = some ⟨b, o, none⟩) ∧ ∀ j, j < L.length → ∃ vt vn vy, NC w b (o + j * 6) (L.getD j .zero) vt vn vy ∧ NV w (L.getD j .zero) vt vn vy

theorem cell_kept {w w' : World} {p : Addr} {u : Value} (h : w.cell? p = some u) (hb : Below w.heap.size w w') : w'.cell? p = some u := by
  rw [hb.cell (World.block_lt_of_cell? _ _ h)]; exact h
theorem BS.below {w w' : World} {v : Value} {s : ByteArray} (h : BS w v s) (hb : Below w.heap.size w w') : BS w' v s := by
  obtain ⟨a, b, o, c, h1, h2, h3⟩ := h
  exact ⟨a, b, o, c, h1, h2, fun j hj => cell_kept (h3 j hj) hb⟩
theorem IS.below {w w' : World} {v : Value} {l : List Int} (h : IS w v l) (hb : Below w.heap.size w w') : IS w' v l := by
  obtain ⟨a, b, o, c, h1, h2, h3⟩ := h
  exact ⟨a, b, o, c, h1, h2, fun j hj => cell_kept (h3 j hj) hb⟩
theorem SS.below {w w' : World} {v : Value} {L : List ByteArray} (h : SS w v L) (hb : Below w.heap.size w w') : SS w' v L := by
  obtain ⟨a, b, o, c, h1, h2, h3⟩ := h
  refine ⟨a, b, o, c, h1, h2, fun j hj => ?_⟩
  obtain ⟨u, h4, h5⟩ := h3 j hj
  exact ⟨u, cell_kept h4 hb, h5.below hb⟩
theorem NV.below {w w' : World} {d : Nd} {vt vn vy : Value} (h : NV w d vt vn vy) (hb : Below w.heap.size w w') : NV w' d vt vn vy := ⟨h.text.below hb, h.names.below hb, h.types.below hb⟩
theorem NC.below {w w' : World} {b p : Nat} {d : Nd} {vt vn vy : Value} (h : NC w b p d vt vn vy) (hb : Below w.heap.size w w') : NC w' b p d vt vn vy :=
  ⟨cell_kept h.kind hb, cell_kept h.n hb, cell_kept h.text hb, cell_kept h.names hb, cell_kept h.types hb, cell_kept h.count hb⟩
theorem NS.below {w w' : World} {v : Value} {L : List Nd} (h : NS w v L) (hb : Below w.heap.size w w') : NS w' v L := by
  obtain ⟨a, b, o, c, h1, h2, h3⟩ := h
  refine ⟨a, b, o, c, h1, h2, fun j hj => ?_⟩
  obtain ⟨vt, vn, vy, h4, h5⟩ := h3 j hj
  exact ⟨vt, vn, vy, h4.below hb, h5.below hb⟩

theorem setCell_cell {w : World} {G k b i : Nat} {v : Value} (h : b ≠ G) : (w.setCell ⟨G, k, none⟩ v).cell? ⟨b, i, none⟩ = w.cell? ⟨b, i, none⟩ :=
  World.cell?_of_block (w := w) (a := ⟨b, i, none⟩) (Below.heap_setCell _ _ _ b h)
theorem row_kept {w w' : World} {b n : Nat} {t : TypeId} {f : Nat → Value} (h : w.rowIs b t n f) (hb : Below w.heap.size w w') : w'.rowIs b t n f := by
  obtain ⟨c, h1, h2, h3⟩ := h
  exact ⟨c, by rw [hb.block b (Array.getElem?_eq_some_iff.1 h1).1]; exact h1, h2, h3⟩

/-- A copy of bytes in a block behind G. -/
def BO (w : World) (G : Nat) (v : Value) (s : ByteArray) : Prop := ∃ b, G < b ∧ b < w.heap.size ∧ v = .slice (some ⟨b, 0, none⟩) s.size s.size ∧ ∀ j, j < s.size → w.cell? ⟨b, 0 + j, none⟩ = some (bts s j)
theorem BO.bs {w : World} {G : Nat} {v : Value} {s : ByteArray} (h : BO w G v s) : BS w v s := by
  obtain ⟨b, _, _, h1, h2⟩ := h
  exact ⟨_, b, 0, _, h1, fun _ => rfl, h2⟩
theorem BO.below {w w' : World} {G : Nat} {v : Value} {s : ByteArray} (h : BO w G v s) (hb : Below w.heap.size w w') : BO w' G v s := by
  obtain ⟨b, h0, h4, h1, h2⟩ := h
  exact ⟨b, h0, by have := hb.size; omega, h1, fun j hj => cell_kept (h2 j hj) hb⟩
theorem BO.set {w : World} {G k : Nat} {v u : Value} {s : ByteArray} (h : BO w G v s) : BO (w.setCell ⟨G, k, none⟩ u) G v s := by
  obtain ⟨b, h0, h4, h1, h2⟩ := h
  exact ⟨b, h0, by simpa using h4, h1, fun j hj => by rw [setCell_cell (by omega)]; exact h2 j hj⟩

/-- A copy of numbers in a block behind G. -/
def ICp (w : World) (G : Nat) (v : Value) (l : List Int) : Prop := ∃ b c, G < b ∧ b < w.heap.size ∧ v = .slice (some ⟨b, 0, none⟩) l.length c ∧ ∀ j, j < l.length → w.cell? ⟨b, 0 + j, none⟩ = some (.int .i64 (l.getD j 0))
theorem ICp.is {w : World} {G : Nat} {v : Value} {l : List Int} (h : ICp w G v l) : IS w v l := by
  obtain ⟨b, c, _, _, h1, h2⟩ := h
  exact ⟨_, b, 0, _, h1, fun _ => rfl, h2⟩
theorem ICp.below {w w' : World} {G : Nat} {v : Value} {l : List Int} (h : ICp w G v l) (hb : Below w.heap.size w w') : ICp w' G v l := by
  obtain ⟨b, c, h0, h4, h1, h2⟩ := h
  exact ⟨b, c, h0, by have := hb.size; omega, h1, fun j hj => cell_kept (h2 j hj) hb⟩
theorem ICp.set {w : World} {G k : Nat} {v u : Value} {l : List Int} (h : ICp w G v l) : ICp (w.setCell ⟨G, k, none⟩ u) G v l := by
  obtain ⟨b, c, h0, h4, h1, h2⟩ := h
  exact ⟨b, c, h0, by simpa using h4, h1, fun j hj => by rw [setCell_cell (by omega)]; exact h2 j hj⟩
theorem BO.lower {w : World} {G G' : Nat} {v : Value} {s : ByteArray} (h : BO w G v s) (hG : G' ≤ G) : BO w G' v s := by
  obtain ⟨b, h0, h4⟩ := h
  exact ⟨b, by omega, h4⟩
/-- A copy of slices of bytes in blocks behind G. -/
def SO (w : World) (G : Nat) (v : Value) (L : List ByteArray) : Prop := ∃ b c, G < b ∧ b < w.heap.size ∧ v = .slice (some ⟨b, 0, none⟩) L.length c ∧ ∀ j, j < L.length → ∃ u, w.cell? ⟨b, 0 + j, none⟩ = some u ∧ BO w G u (L.getD j .empty)
theorem SO.ss {w : World} {G : Nat} {v : Value} {L : List ByteArray} (h : SO w G v L) : SS w v L := by
  obtain ⟨b, c, _, _, h1, h2⟩ := h
  refine ⟨_, b, 0, _, h1, fun _ => rfl, fun j hj => ?_⟩
  obtain ⟨u, h3, h4⟩ := h2 j hj
  exact ⟨u, h3, h4.bs⟩
theorem SO.below {w w' : World} {G : Nat} {v : Value} {L : List ByteArray} (h : SO w G v L) (hb : Below w.heap.size w w') : SO w' G v L := by
  obtain ⟨b, c, h0, h4, h1, h2⟩ := h
  refine ⟨b, c, h0, by have := hb.size; omega, h1, fun j hj => ?_⟩
  obtain ⟨u, h5, h6⟩ := h2 j hj
  exact ⟨u, cell_kept h5 hb, h6.below hb⟩
theorem SO.set {w : World} {G k : Nat} {v x : Value} {L : List ByteArray} (h : SO w G v L) : SO (w.setCell ⟨G, k, none⟩ x) G v L := by
  obtain ⟨b, c, h0, h4, h1, h2⟩ := h
  refine ⟨b, c, h0, by simpa using h4, h1, fun j hj => ?_⟩
  obtain ⟨u, h5, h6⟩ := h2 j hj
  exact ⟨u, by rw [setCell_cell (by omega)]; exact h5, h6.set⟩
/-- The slices of a node that is a copy, in blocks behind G. -/
structure NO (w : World) (G : Nat) (d : Nd) (vt vn vy : Value) : Prop where
  text : BO w G vt d.text
  names : SO w G vn d.names
  types : ICp w G vy d.types
theorem NO.nv {w : World} {G : Nat} {d : Nd} {vt vn vy : Value} (h : NO w G d vt vn vy) : NV w d vt vn vy := ⟨h.text.bs, h.names.ss, h.types.is⟩
theorem NO.below {w w' : World} {G : Nat} {d : Nd} {vt vn vy : Value} (h : NO w G d vt vn vy) (hb : Below w.heap.size w w') : NO w' G d vt vn vy := ⟨h.text.below hb, h.names.below hb, h.types.below hb⟩
theorem NO.set {w : World} {G k : Nat} {d : Nd} {vt vn vy x : Value} (h : NO w G d vt vn vy) : NO (w.setCell ⟨G, k, none⟩ x) G d vt vn vy := ⟨h.text.set, h.names.set, h.types.set⟩

theorem BO.setAt {w : World} {G G' k : Nat} {v u : Value} {s : ByteArray} (h : BO w G v s) (hG : G' ≤ G) : BO (w.setCell ⟨G', k, none⟩ u) G v s := by
  obtain ⟨b, h0, h4, h1, h2⟩ := h
  exact ⟨b, h0, by simpa using h4, h1, fun j hj => by rw [setCell_cell (by omega)]; exact h2 j hj⟩
theorem ICp.setAt {w : World} {G G' k : Nat} {v u : Value} {l : List Int} (h : ICp w G v l) (hG : G' ≤ G) : ICp (w.setCell ⟨G', k, none⟩ u) G v l := by
  obtain ⟨b, c, h0, h4, h1, h2⟩ := h
  exact ⟨b, c, h0, by simpa using h4, h1, fun j hj => by rw [setCell_cell (by omega)]; exact h2 j hj⟩
theorem SO.setAt {w : World} {G G' k : Nat} {v x : Value} {L : List ByteArray} (h : SO w G v L) (hG : G' ≤ G) : SO (w.setCell ⟨G', k, none⟩ x) G v L := by
  obtain ⟨b, c, h0, h4, h1, h2⟩ := h
  refine ⟨b, c, h0, by simpa using h4, h1, fun j hj => ?_⟩
  obtain ⟨u, h5, h6⟩ := h2 j hj
  exact ⟨u, by rw [setCell_cell (by omega)]; exact h5, h6.setAt hG⟩
theorem NO.setAt {w : World} {G G' k : Nat} {d : Nd} {vt vn vy x : Value} (h : NO w G d vt vn vy) (hG : G' ≤ G) : NO (w.setCell ⟨G', k, none⟩ x) G d vt vn vy := ⟨h.text.setAt hG, h.names.setAt hG, h.types.setAt hG⟩
theorem NO.lower {w : World} {G G' : Nat} {d : Nd} {vt vn vy : Value} (h : NO w G d vt vn vy) (hG : G' ≤ G) : NO w G' d vt vn vy := by
  obtain ⟨h1, ⟨b, c, h2, h3, h4, h5⟩, ⟨b', c', h6, h7⟩⟩ := h
  exact ⟨h1.lower hG, ⟨b, c, by omega, h3, h4, fun j hj => by obtain ⟨u, h8, h9⟩ := h5 j hj; exact ⟨u, h8, h9.lower hG⟩⟩, ⟨b', c', by omega, h7⟩⟩

set_option maxHeartbeats 400000 in
theorem toI_any (v : Value) (l : List Int) (w : World) (hs : l.length ≤ 1048576) (h : IS w v l) :
    Calls Tryd.prog 24 #[v] w fun e w' => ∃ v', e = .returned v' ∧ (∀ G, G < w.heap.size → ICp w' G v' l) ∧ Below w.heap.size w w' := by
  obtain ⟨a0, b, off, cap, rfl, ha, hc⟩ := h
  have hmk := run_make_row' (P := Tryd.prog) 32 3 (.int .i64 0) 8 Tryd.underlying32 (by kernel_rfl) rfl .i64 .i64 l.length (by omega) (by omega)
  have HC := hide hc
  clear hc
  go_enter Tryd.func24, Tryd.ntmps24
  go_wp2
  clear hmk
  go_loopw [4] (fun i wr => ∃ k : Nat, k ≤ l.length ∧ i = .int .i64 k ∧ wr.rowIs w.heap.size 3 l.length (fun j => if j < k then .int .i64 (l.getD j 0) else .int .i64 0) ∧ Below w.heap.size w wr ∧ wr.heap.size = w.heap.size + 1) (fun i _ => l.length - (intOf i).toNat)
  case atStart => exact ⟨0, Nat.zero_le _, rfl, (World.rowIs_made w _ l.length 3).congr (fun j _ => by simp), (Below.refl _ _).alloc (Nat.le_refl _) _, by simp⟩
  case round =>
    obtain ⟨k, hk, rfl, hrow, hbl, hsz⟩ := hrel
    by_cases hlt : k < l.length
    · obtain rfl := ha (by omega)
      have g0 : wr.cell? ⟨b, off + k, none⟩ = some (.int .i64 (l.getD k 0)) := cell_kept (HC.out k hlt) hbl
      have g1 : wr.cell? ⟨w.heap.size, k, none⟩ = some (.int .i64 0) := by rw [hrow.cell hlt]; simp
      have g2 : wr.frozen? ⟨w.heap.size, k, none⟩ = false := hrow.frozen k
      have HROW := hide hrow
      have HBL := hide hbl
      have HSZ := hide hsz
      obtain ⟨y, hy⟩ : ∃ y, l.getD k 0 = y := ⟨_, rfl⟩
      rw [hy] at g0
      have HY := hide hy
      clear hrow hbl hsz hy
      go_wp2
      go_roundw
      case rel => exact ⟨k + 1, by omega, by go_num, (HROW.out.set k _).congr (fun j _ => by
          by_cases e : j = k
          · subst e; simp [← HY.out]
          · rw [if_neg e]; by_cases hj : j < k
            · rw [if_pos hj, if_pos (by omega)]
            · rw [if_neg hj, if_neg (by omega)]), HBL.out.setCell (Nat.le_refl _) _, by simp [HSZ.out]⟩
      case measure => simp [intOf]; omega
    · go_wp2
      go_ret
      exact ⟨_, rfl, fun G hG => ⟨w.heap.size, _, hG, by omega, rfl, fun j hj => by rw [Nat.zero_add, hrow.cell hj, if_pos (by omega)]⟩, hbl⟩
end Go.Proofs.YtblkkohnglojhaaDoor

namespace Go.Proofs.YtblkkohnglojhaaDoor
open Go.RowKit

set_option maxHeartbeats 1000000 in
theorem toSS_any (v : Value) (L : List ByteArray) (w : World) (hs : L.length ≤ 1048576) (hz : ∀ j, j < L.length → (L.getD j .empty).size ≤ 1048576) (h : SS w v L) :
    Calls Tryd.prog 23 #[v] w fun e w' => ∃ v', e = .returned v' ∧ (∀ G, G < w.heap.size → SO w' G v' L) ∧ Below w.heap.size w w' := by
  obtain ⟨a0, b, off, cap, rfl, ha, hc⟩ := h
  have hmk := run_make_row' (P := Tryd.prog) 31 30 (.slice none 0 0) 24 Tryd.underlying31 (by kernel_rfl) rfl .i64 .i64 L.length (by omega) (by omega)
  have HC := hide hc
  have HZ := hide hz
  clear hc hz
  go_enter Tryd.func23, Tryd.ntmps23
  go_wp2
  clear hmk
  go_loopw [4] (fun i wr => ∃ (k : Nat) (u : Nat → Value), k ≤ L.length ∧ i = .int .i64 k ∧ wr.rowIs w.heap.size 30 L.length (fun j => if j < k then u j else .slice none 0 0) ∧ (∀ j, j < k → BO wr w.heap.size (u j) (L.getD j .empty)) ∧ Below w.heap.size w wr ∧ w.heap.size < wr.heap.size) (fun i _ => L.length - (intOf i).toNat)
  case atStart => exact ⟨0, fun _ => .slice none 0 0, Nat.zero_le _, rfl, (World.rowIs_made w _ L.length 30).congr (fun j _ => by simp), fun j hj => absurd hj (Nat.not_lt_zero _), (Below.refl _ _).alloc (Nat.le_refl _) _, by simp⟩
  case round =>
    obtain ⟨k, u, hk, rfl, hrow, hu, hbl, hsz⟩ := hrel
    have HROW := hide hrow
    have HU := hide hu
    have HBL := hide hbl
    by_cases hlt : k < L.length
    · obtain rfl := ha (by omega)
      obtain ⟨x, hx, hxs⟩ := HC.out k hlt
      have g0 : wr.cell? ⟨b, off + k, none⟩ = some x := cell_kept hx hbl
      obtain ⟨s, hs'⟩ : ∃ s, L.getD k .empty = s := ⟨_, rfl⟩
      have hzs := HZ.out k hlt
      rw [hs'] at hxs hzs
      have HSK := hide hs'
      obtain ⟨ax, bx, ox, cx, rfl, hax, hcx⟩ := hxs.below hbl
      have HT := hide (toB_any ax bx ox cx s wr hzs hax hcx)
      have d1 : decide ((k : Int) < (L.length : Int)) = true := decide_eq_true (by omega)
      clear hrow hu hbl hax hcx hx hxs hs'
      go_wp2_with fail
      refine HT.out.mono ?_
      rintro e w2 ⟨rfl, hr2, hb2, hz2⟩
      have HR2 := hide (row_kept HROW.out hb2)
      have g1 : w2.cell? ⟨w.heap.size, k, none⟩ = some (.slice none 0 0) := by rw [HR2.out.cell hlt]; simp
      have g2 : w2.frozen? ⟨w.heap.size, k, none⟩ = false := HR2.out.frozen k
      have HB2 := hide hb2
      have HBW : Hid (Below w.heap.size w w2) := HBL.out.trans (hb2.mono HBL.out.size)
      have HN : Hid (BO w2 w.heap.size (.slice (some ⟨wr.heap.size, 0, none⟩) s.size s.size) s) :=
        ⟨wr.heap.size, hsz, by omega, rfl, fun j hj => by rw [Nat.zero_add]; exact hr2.cell hj⟩
      have hsz2 : w.heap.size < w2.heap.size := by omega
      clear hr2 hb2 hz2 HT
      go_wp2
      go_roundw
      case rel => exact ⟨k + 1, fun j => if j = k then .slice (some ⟨wr.heap.size, 0, none⟩) s.size s.size else u j, by omega, by go_num, (HR2.out.set k _).congr (fun j _ => by
          by_cases e : j = k
          · subst e; simp
          · rw [if_neg e]; by_cases hj : j < k
            · rw [if_pos hj, if_pos (by omega)]; show u j = if j = k then _ else u j; rw [if_neg e]
            · rw [if_neg hj, if_neg (by omega)]), fun j hj => by
          by_cases e : j = k
          · subst e; simp only [if_pos]; rw [HSK.out]; exact HN.out.set
          · simp only [if_neg e]; exact ((HU.out j (by omega)).below HB2.out).set, HBW.out.setCell (Nat.le_refl _) _, by simp; omega⟩
      case measure => simp [intOf]; omega
    · have d1 : decide ((k : Int) < (L.length : Int)) = false := decide_eq_false (by omega)
      clear hrow hu hbl
      go_wp2
      go_ret
      exact ⟨_, rfl, fun G hG => ⟨w.heap.size, _, hG, hsz, rfl, fun j hj => ⟨u j, by rw [Nat.zero_add, HROW.out.cell hj, if_pos (by omega)], (HU.out j (by omega)).lower (by omega)⟩⟩, HBL.out⟩
end Go.Proofs.YtblkkohnglojhaaDoor
