/-
  Heaps of trips in memory; isShorter, swap.
-/
import Derived.Test.YtochfhoaiekioaaJRtHPD
import Derived.Test.YtochfhoaiekioaaJRtSRW
import Derived.Test.YtochfhoaiekioaaJRtIVA
namespace Go.Proofs.Ytochfhoaiekioaa
open Go.RowKit
open Go.Sort (grow)

/-- A trip's value. -/
def tv (x : Tr) : Value := .agg #[.int .i64 x.c, .int .i64 x.l]
/-- Trips as cells. -/
def trc (F : Nat → Tr) : Nat → List Value
  | 0 => []
  | n + 1 => trc F n ++ [.int .i64 (F n).c, .int .i64 (F n).l]
theorem trc_length (F : Nat → Tr) : ∀ n, (trc F n).length = n * 2
  | 0 => rfl
  | n + 1 => by unfold trc; rw [List.length_append, trc_length F n]; show _ + 2 = _; omega
theorem trc_one (F : Nat → Tr) : ∀ n, ∀ u ∈ trc F n, u.oneCell' = true
  | 0, u, h => by cases h
  | n + 1, u, h => by
    unfold trc at h
    rcases List.mem_append.1 h with h | h
    · exact trc_one F n u h
    · simp only [List.mem_cons, List.not_mem_nil, or_false] at h
      rcases h with rfl | rfl <;> rfl
theorem trc_congr {F G : Nat → Tr} : ∀ {n : Nat}, (∀ i, i < n → F i = G i) → trc F n = trc G n
  | 0, _ => rfl
  | n + 1, h => by unfold trc; rw [trc_congr (fun i hi => h i (by omega)), h n (by omega)]
theorem trc_at (F : Nat → Tr) {i : Nat} : ∀ {n : Nat}, i < n → (trc F n)[i * 2]? = some (.int .i64 (F i).c) ∧ (trc F n)[i * 2 + 1]? = some (.int .i64 (F i).l)
  | 0, h => by omega
  | n + 1, h => by
    unfold trc
    by_cases e : i = n
    · subst e
      rw [List.getElem?_append_right (by rw [trc_length]; omega), List.getElem?_append_right (by rw [trc_length]; omega), trc_length, Nat.sub_self, show i * 2 + 1 - i * 2 = 1 by omega]
      exact ⟨rfl, rfl⟩
    · rw [List.getElem?_append_left (by rw [trc_length]; omega), List.getElem?_append_left (by rw [trc_length]; omega)]
      exact trc_at F (by omega)
/-- A row of trips of the call's own, in block D. -/
structure TrR (w : World) (G D c : Nat) (F : Nat → Tr) (n : Nat) : Prop where
  lo : G ≤ D
  blk : ∃ cur, Blk w D 59 cur ∧ cur.size = c * 2
  nc : n ≤ c
  cm : c ≤ maxLen
  each : ∀ i, i < n → w.cell? ⟨D, i * 2, none⟩ = some (.int .i64 (F i).c) ∧ w.cell? ⟨D, i * 2 + 1, none⟩ = some (.int .i64 (F i).l)
/-- .. as appends take it. -/
def TrO (w : World) (G : Nat) (v : Value) (F : Nat → Tr) (n : Nat) : Prop := w.ownsRow G 59 2 v n (trc F n)
theorem TrR.own {w : World} {G D c : Nat} {F : Nat → Tr} {n : Nat} (h : TrR w G D c F n) : TrO w G (.slice (some ⟨D, 0, none⟩) n c) F n := by
  obtain ⟨cur, h1, h2⟩ := h.blk
  refine ⟨trc_length _ _, .inr ⟨D, c, cur, rfl, h.lo, h1, h.nc, h.cm, h2, ?_⟩⟩
  have hn := h.nc
  apply List.ext_getElem?
  intro k
  by_cases hk : k < n * 2
  · rw [List.getElem?_take, if_pos hk, Array.getElem?_toList]
    have hc := h1.cell k
    rcases Nat.mod_two_eq_zero_or_one k with e | e
    · obtain ⟨i, rfl⟩ : ∃ i, k = i * 2 := ⟨k / 2, by omega⟩
      rw [(trc_at F (by omega : i < n)).1, ← hc]
      exact (h.each i (by omega)).1
    · obtain ⟨i, rfl⟩ : ∃ i, k = i * 2 + 1 := ⟨k / 2, by omega⟩
      rw [(trc_at F (by omega : i < n)).2, ← hc]
      exact (h.each i (by omega)).2
  · rw [List.getElem?_eq_none (by rw [List.length_take]; omega), List.getElem?_eq_none (by rw [trc_length]; omega)]
theorem TrO.row {w : World} {G : Nat} {v : Value} {F : Nat → Tr} {n : Nat} (h : TrO w G v F n) (h0 : 0 < n) : ∃ D c, v = .slice (some ⟨D, 0, none⟩) n c ∧ TrR w G D c F n := by
  rcases h.2 with ⟨_, h1⟩ | ⟨D, c, cur, hv, hb, hg, hn, hm, hs, ht⟩
  · omega
  · refine ⟨D, c, hv, hb, ⟨cur, hg, hs⟩, hn, hm, fun i hi => ?_⟩
    have key : ∀ k, k < n * 2 → w.cell? ⟨D, k, none⟩ = (trc F n)[k]? := fun k hk => by
      rw [Blk.cell hg, ← ht, List.getElem?_take, if_pos hk, Array.getElem?_toList]
    rw [key _ (by omega), key _ (by omega)]
    exact trc_at F hi
theorem TrO.nil (w : World) (G : Nat) (F : Nat → Tr) : TrO w G (.slice none 0 0) F 0 := World.ownsRow_nil _ _ _ _
theorem TrO.slc {w : World} {G : Nat} {v : Value} {F : Nat → Tr} {n : Nat} (h : TrO w G v F n) : ∃ a c, v = .slice a n c := by
  rcases h.2 with ⟨h1, h2⟩ | ⟨D, c, cur, hv, _⟩
  · exact ⟨none, 0, by rw [h1, h2]⟩
  · exact ⟨_, c, hv⟩
theorem TrO.congr {w : World} {G : Nat} {v : Value} {F F' : Nat → Tr} {n : Nat} (h : TrO w G v F n) (hf : ∀ i, i < n → F i = F' i) : TrO w G v F' n := by
  unfold TrO at *
  rw [← trc_congr hf]
  exact h
theorem TrO.lt {w : World} {G : Nat} {v : Value} {F : Nat → Tr} {n : Nat} (h : TrO w G v F n) : ∀ k, v.ownBlock = some k → G ≤ k ∧ k < w.heap.size := fun k hk => World.ownsRow.lt h k hk
theorem TrO.ne {w : World} {G : Nat} {v : Value} {F : Nat → Tr} {n k : Nat} {t : TypeId} {cs : Array Value} (h : TrO w G v F n) (hb : Blk w k t cs) (ht : t ≠ 59) : v.ownBlock ≠ some k := by
  intro e
  rcases h.2 with ⟨h1, _⟩ | ⟨D, c, cur, hv, _, hg, _⟩
  · rw [h1] at e; cases e
  · rw [hv] at e
    have e' : D = k := Option.some.inj e
    subst e'
    unfold Blk at hb
    rw [hg] at hb
    injection hb with hb
    injection hb with _ hb _
    exact ht hb.symm
theorem TrO.kept {w w' : World} {G : Nat} {v : Value} {F : Nat → Tr} {n : Nat} (h : TrO w G v F n) (hb : Below w.heap.size w w') : TrO w' G v F n :=
  World.ownsRow.kept h (row := none) ⟨hb.os, hb.tape, hb.output, hb.size, fun k hk _ => hb.block k hk⟩ (by cases v.ownBlock <;> simp)
theorem TrR.below {w w' : World} {G D c : Nat} {F : Nat → Tr} {n : Nat} (h : TrR w G D c F n) (hb : Below w.heap.size w w') : TrR w' G D c F n := by
  obtain ⟨cur, h1, h2⟩ := h.blk
  exact ⟨h.lo, ⟨cur, h1.below hb, h2⟩, h.nc, h.cm, fun i hi => ⟨cell_kept (h.each i hi).1 hb, cell_kept (h.each i hi).2 hb⟩⟩
theorem TrR.keep {w w' : World} {G D c : Nat} {F : Nat → Tr} {n : Nat} (h : TrR w G D c F n) (hk : w'.heap[D]? = w.heap[D]?) : TrR w' G D c F n := by
  obtain ⟨cur, h1, h2⟩ := h.blk
  have e : ∀ k, w'.cell? ⟨D, k, none⟩ = w.cell? ⟨D, k, none⟩ := fun k => World.cell?_of_block (w := w) (a := ⟨D, k, none⟩) hk
  exact ⟨h.lo, ⟨cur, hk.trans h1, h2⟩, h.nc, h.cm, fun i hi => by rw [e, e]; exact h.each i hi⟩
/-- One trip was written. -/
def set2 (w : World) (D p : Nat) (x : Tr) : World := (w.setCell ⟨D, p, none⟩ (.int .i64 x.c)).setCell ⟨D, p + 1, none⟩ (.int .i64 x.l)
theorem set2_wrs {w : World} {D p : Nat} (x : Tr) : Wrs [D] w (set2 w D p x) := ((Wrs.refl [D] w).set (by simp) _).set (by simp) _
theorem TrR.set {w : World} {G D c : Nat} {F : Nat → Tr} {n : Nat} (h : TrR w G D c F n) {i : Nat} (hi : i < n) (x : Tr) {F' : Nat → Tr} (h1 : F' i = x) (h2 : ∀ j, j ≠ i → F' j = F j) : TrR (set2 w D (i * 2) x) G D c F' n := by
  have ne : ∀ p q : Nat, p ≠ q → (⟨D, p, none⟩ : Addr) ≠ ⟨D, q, none⟩ := fun p q h e => by injection e with _ e _; exact h e
  obtain ⟨cur, h3, h4⟩ := h.blk
  refine ⟨h.lo, ⟨_, (h3.set _ _).set _ _, by simpa using h4⟩, h.nc, h.cm, fun j hj => ?_⟩
  unfold set2
  by_cases e : j = i
  · subst e
    rw [h1]
    obtain ⟨c0, c1⟩ := h.each j hj
    refine ⟨?_, ?_⟩
    · rw [World.cell?_setCell_other _ _ _ _ (ne _ _ (by omega))]
      exact World.cell?_setCell_same _ _ _ c0
    · exact World.cell?_setCell_same _ _ _ ((World.cell?_setCell_other _ _ _ _ (ne _ _ (by omega))).trans c1)
  · rw [h2 j e]
    obtain ⟨c0, c1⟩ := h.each j hj
    refine ⟨?_, ?_⟩
    · rw [World.cell?_setCell_other _ _ _ _ (ne _ _ (by omega)), World.cell?_setCell_other _ _ _ _ (ne _ _ (by omega))]
      exact c0
    · rw [World.cell?_setCell_other _ _ _ _ (ne _ _ (by omega)), World.cell?_setCell_other _ _ _ _ (ne _ _ (by omega))]
      exact c1
theorem TrR.swap {w : World} {G D c : Nat} {F : Nat → Tr} {n : Nat} (h : TrR w G D c F n) {i j : Nat} (hi : i < n) (hj : j < n) : TrR (set2 (set2 w D (i * 2) (F j)) D (j * 2) (F i)) G D c (swF F i j) n := by
  refine (h.set hi (F j) (F' := fun k => if k = i then F j else F k) (by simp) (fun k hk => by simp [hk])).set hj (F i) (swF_l _ _ _) (fun k hk => ?_)
  by_cases e : k = i
  · subst e; rw [swF_r]; simp
  · rw [swF_o e hk]; simp [e]
/-- The heap. -/
def ahV : Value := .func (.func 28) #[] #[]
structure HpA (w : World) (H G : Nat) (v : Value) (F : Nat → Tr) (n : Nat) : Prop where
  box : Blk w H 56 #[v, ahV]
  own : TrO w G v F n
  lt : H < G
theorem HpA.below {w w' : World} {H G : Nat} {v : Value} {F : Nat → Tr} {n : Nat} (h : HpA w H G v F n) (hb : Below w.heap.size w w') : HpA w' H G v F n := ⟨h.box.below hb, h.own.kept hb, h.lt⟩
/-- What is left as it lay: all but the heap and its row. -/
structure Kh (H : Nat) (v v' : Value) (w w' : World) : Prop where
  os : w'.os = w.os
  tape : w'.tape = w.tape
  output : w'.output = w.output
  size : w.heap.size ≤ w'.heap.size
  bl : ∀ k, k < w.heap.size → k ≠ H → v.ownBlock ≠ some k → w'.heap[k]? = w.heap[k]?
  nw : ∀ k, k < w.heap.size → v.ownBlock ≠ some k → v'.ownBlock ≠ some k
theorem Kh.refl (H : Nat) (v : Value) (w : World) : Kh H v v w w := ⟨rfl, rfl, rfl, Nat.le_refl _, fun _ _ _ _ => rfl, fun _ _ h => h⟩
theorem Kh.trans {H : Nat} {v v1 v2 : Value} {a b c : World} (h : Kh H v v1 a b) (g : Kh H v1 v2 b c) : Kh H v v2 a c :=
  ⟨g.os.trans h.os, g.tape.trans h.tape, g.output.trans h.output, Nat.le_trans h.size g.size, fun k hk h1 h2 => (g.bl k (Nat.lt_of_lt_of_le hk h.size) h1 (h.nw k hk h2)).trans (h.bl k hk h1 h2), fun k hk h2 => g.nw k (Nat.lt_of_lt_of_le hk h.size) (h.nw k hk h2)⟩
theorem Kh.of_below {H : Nat} {v : Value} {a b : World} (h : Below a.heap.size a b) : Kh H v v a b := ⟨h.os, h.tape, h.output, h.size, fun k hk _ _ => h.block k hk, fun _ _ h => h⟩
theorem Kh.of_wrs {H D n c m : Nat} {a b : World} (h : Wrs [D] a b) : Kh H (.slice (some ⟨D, 0, none⟩) n c) (.slice (some ⟨D, 0, none⟩) m c) a b :=
  ⟨h.os, h.tape, h.output, h.size, fun k hk _ h2 => h.blk k hk (by simp; intro e; subst e; exact h2 rfl), fun _ _ h => h⟩
theorem Kh.blk {H : Nat} {v v' : Value} {a b : World} {k : Nat} {t : TypeId} {cs : Array Value} (h : Kh H v v' a b) (hb : Blk a k t cs) (h1 : k ≠ H) (h2 : v.ownBlock ≠ some k) : Blk b k t cs := (h.bl k hb.lt h1 h2).trans hb
theorem Kh.set {H : Nat} {v v' u : Value} {w : World} {i : Nat} (hv : v'.ownBlock = v.ownBlock) : Kh H v v' w (w.setCell ⟨H, i, none⟩ u) :=
  ⟨rfl, rfl, rfl, by rw [World.size_setCell]; exact Nat.le_refl _, fun k _ h1 _ => Below.heap_setCell _ _ _ _ h1, fun k _ h => by rw [hv]; exact h⟩
theorem Kh.fall {H G B : Nat} {v v' : Value} {F : Nat → Tr} {n : Nat} {a b : World} (h : Kh H v v' a b) (ho : TrO a G v F n) (hH : B ≤ H) (hG : B ≤ G) (hB : B ≤ a.heap.size) : Below B a b :=
  ⟨h.os, h.tape, h.output, h.size, fun k hk => h.bl k (by omega) (by omega) (fun e => by have := (ho.lt k e).1; omega)⟩

set_option maxHeartbeats 1000000 in
set_option maxRecDepth 1000000 in
theorem shorter_g (x y : Tr) (w : World) : Calls Try.prog 28 #[tv x, tv y] w fun e w' => e = .returned (.bool (decide (x.l < y.l))) ∧ ∃ q os', w' = grow (w.drewN q) os' := by
  unfold tv
  obtain ⟨x0, x1⟩ := x
  obtain ⟨y0, y1⟩ := y
  simp only
  have HG := hide (grow_two w (.cells #[.int .i64 x0, .int .i64 x1] 59) (.cells #[.int .i64 y0, .int .i64 y1] 59))
  go_enter Try.func28, Try.ntmps28
  go_wp2
  go_ret
  exact ⟨rfl, HG.out⟩

set_option maxHeartbeats 2000000 in
set_option maxRecDepth 1000000 in
theorem hswap_any (H G D c n i j : Nat) (F : Nat → Tr) (w : World) (hb : Blk w H 56 #[.slice (some ⟨D, 0, none⟩) n c, ahV]) (hr : TrR w G D c F n) (hi : i < n) (hj : j < n) :
    Calls Try.prog 38 #[.pointer (some ⟨H, 0, none⟩), .int .i64 i, .int .i64 j] w fun e w' => e = .returned (.tuple #[]) ∧ TrR w' G D c (swF F i j) n ∧ Wrs [D] w w' := by
  have h0 := hb.cell 0
  simp only [List.getElem?_toArray, List.getElem?_cons_zero] at h0
  obtain ⟨p0, p1⟩ := hr.each i hi
  obtain ⟨q0, q1⟩ := hr.each j hj
  obtain ⟨cur, hcur, _⟩ := hr.blk
  have f0 := hcur.frozen (i * 2)
  have f1 := hcur.frozen (i * 2 + 1)
  have k0 := hcur.frozen (j * 2)
  have k1 := hcur.frozen (j * 2 + 1)
  have HSW := hide (hr.swap hi hj)
  have HWS : Hid (Wrs [D] w (set2 (set2 w D (i * 2) (F j)) D (j * 2) (F i))) := (set2_wrs _).trans (set2_wrs _)
  obtain ⟨x, hx⟩ : ∃ x, F i = x := ⟨_, rfl⟩
  obtain ⟨y, hy⟩ : ∃ y, F j = y := ⟨_, rfl⟩
  rw [hx] at p0 p1
  rw [hy] at q0 q1
  rw [hx, hy] at HSW HWS
  obtain ⟨x0, x1⟩ := x
  obtain ⟨y0, y1⟩ := y
  simp only at p0 p1 q0 q1
  obtain ⟨F', hF'⟩ : ∃ F', swF F i j = F' := ⟨_, rfl⟩
  rw [hF'] at HSW ⊢
  have HXY : Hid (i = j → (⟨x0, x1⟩ : Tr) = ⟨y0, y1⟩) := fun e => by rw [← hx, ← hy, e]
  clear hb hr hcur hx hy hF'
  by_cases hij : i = j
  · obtain ⟨rfl, rfl⟩ : x0 = y0 ∧ x1 = y1 := by have := HXY.out hij; injection this with a b; exact ⟨a, b⟩
    subst hij
    go_enter Try.func38, Try.ntmps38
    go_region
    go_wp2
    go_end0
    exact ⟨rfl, HSW.out.below (Below.refl _ _).drew, HWS.out.trans (Wrs.of_below (Below.refl _ _).drew)⟩
  · have hji : ¬ j = i := fun e => hij e.symm
    go_enter Try.func38, Try.ntmps38
    go_region
    go_wp2
    go_end0
    exact ⟨rfl, HSW.out.below (Below.refl _ _).drew, HWS.out.trans (Wrs.of_below (Below.refl _ _).drew)⟩
end Go.Proofs.Ytochfhoaiekioaa
