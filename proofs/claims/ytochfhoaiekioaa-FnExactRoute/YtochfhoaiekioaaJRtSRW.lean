/-
  Rows of edges that are put in order: in memory, what is swapped.
-/
import Derived.Test.YtochfhoaiekioaaJRtSRM
import Derived.Test.YtochfhoaiekioaaJRtMK
import Derived.BigQuiet
import Derived.BigRegion
import Derived.Deep.QuietTactic
import Derived.Deep.RegionWith
import Derived.Shelf.SlSortCmp.QuietGrown
namespace Go.Proofs.Ytochfhoaiekioaa
open Go.RowKit
open Go.Sort (grow)

def Ed.nul : Ed := ⟨0, 0, 0, 0⟩
/-- The cells of an edge. -/
structure EdC (w : World) (b p : Nat) (e : Ed) : Prop where
  f : w.cell? ⟨b, p, none⟩ = some (.int .i64 e.f)
  t : w.cell? ⟨b, p + 1, none⟩ = some (.int .i64 e.t)
  d : w.cell? ⟨b, p + 2, none⟩ = some (.int .i64 e.d)
  c : w.cell? ⟨b, p + 3, none⟩ = some (.int .i64 e.c)
theorem EdC.of_ne {w w' : World} {b p : Nat} {e : Ed} (h : EdC w b p e) (he : ∀ j, j < 4 → w'.cell? ⟨b, p + j, none⟩ = w.cell? ⟨b, p + j, none⟩) : EdC w' b p e := ⟨(he 0 (by omega)).trans h.f, (he 1 (by omega)).trans h.t, (he 2 (by omega)).trans h.d, (he 3 (by omega)).trans h.c⟩
/-- A row of edges of the call's own, in block D. -/
structure EdR (w : World) (D : Nat) (v : Value) (L : List Ed) : Prop where
  slc : ∃ a c, v = .slice a L.length c ∧ (0 < L.length → a = some ⟨D, 0, none⟩)
  blk : 0 < L.length → ∃ cur, Blk w D 50 cur ∧ L.length * 4 ≤ cur.size
  each : ∀ j, j < L.length → EdC w D (j * 4) (L.getD j .nul)
theorem EdR.keep {w w' : World} {D : Nat} {v : Value} {L : List Ed} (h : EdR w D v L) (hk : 0 < L.length → w'.heap[D]? = w.heap[D]?) : EdR w' D v L :=
  ⟨h.slc, fun h0 => by obtain ⟨cur, h1, h2⟩ := h.blk h0; exact ⟨cur, (hk h0).trans h1, h2⟩, fun j hj => (h.each j hj).of_ne fun j' _ => World.cell?_of_block (w := w) (a := ⟨D, j * 4 + j', none⟩) (hk (by omega))⟩
theorem EdR.below {w w' : World} {D : Nat} {v : Value} {L : List Ed} (h : EdR w D v L) (hb : Below w.heap.size w w') : EdR w' D v L :=
  h.keep fun h0 => by obtain ⟨cur, h1, _⟩ := h.blk h0; exact hb.block D h1.lt
theorem ed_set_eq {L : List Ed} {i : Nat} (h : i < L.length) (r : Ed) : (L.set i r).getD i .nul = r := by
  rw [List.getD_eq_getElem?_getD, List.getElem?_set_self h]; rfl
theorem ed_set_ne {L : List Ed} {i j : Nat} (h : i ≠ j) (r : Ed) : (L.set i r).getD j .nul = L.getD j .nul := by
  rw [List.getD_eq_getElem?_getD, List.getElem?_set_ne h, ← List.getD_eq_getElem?_getD]
/-- One edge was written. -/
def set4 (w : World) (D p : Nat) (e : Ed) : World := (((w.setCell ⟨D, p, none⟩ (.int .i64 e.f)).setCell ⟨D, p + 1, none⟩ (.int .i64 e.t)).setCell ⟨D, p + 2, none⟩ (.int .i64 e.d)).setCell ⟨D, p + 3, none⟩ (.int .i64 e.c)
theorem set4_other {w : World} {b p q : Nat} (hq : q < p ∨ p + 4 ≤ q) (e : Ed) : (set4 w b p e).cell? ⟨b, q, none⟩ = w.cell? ⟨b, q, none⟩ := by
  have ne : ∀ i : Nat, i < 4 → (⟨b, p + i, none⟩ : Addr) ≠ ⟨b, q, none⟩ := fun i h e => by injection e with _ e _; omega
  unfold set4
  rw [World.cell?_setCell_other _ _ _ _ (ne 3 (by omega)), World.cell?_setCell_other _ _ _ _ (ne 2 (by omega)), World.cell?_setCell_other _ _ _ _ (ne 1 (by omega))]
  exact World.cell?_setCell_other _ _ _ _ (ne 0 (by omega))
theorem set4_same {w : World} {b p : Nat} {r : Ed} (h : EdC w b p r) (e : Ed) : EdC (set4 w b p e) b p e := by
  have ne : ∀ i j : Nat, i ≠ j → (⟨b, p + i, none⟩ : Addr) ≠ ⟨b, p + j, none⟩ := fun i j h e => by injection e with _ e _; omega
  have n0 : ∀ j : Nat, 0 ≠ j → (⟨b, p, none⟩ : Addr) ≠ ⟨b, p + j, none⟩ := fun j h e => by injection e with _ e _; omega
  unfold set4
  refine ⟨?_, ?_, ?_, ?_⟩
  · rw [World.cell?_setCell_other _ _ _ _ (n0 3 (by omega)).symm, World.cell?_setCell_other _ _ _ _ (n0 2 (by omega)).symm, World.cell?_setCell_other _ _ _ _ (n0 1 (by omega)).symm]
    exact World.cell?_setCell_same _ _ _ h.f
  · rw [World.cell?_setCell_other _ _ _ _ (ne 3 1 (by omega)), World.cell?_setCell_other _ _ _ _ (ne 2 1 (by omega))]
    exact World.cell?_setCell_same _ _ _ ((World.cell?_setCell_other _ _ _ _ (n0 1 (by omega))).trans h.t)
  · rw [World.cell?_setCell_other _ _ _ _ (ne 3 2 (by omega))]
    exact World.cell?_setCell_same _ _ _ ((World.cell?_setCell_other _ _ _ _ (ne 1 2 (by omega))).trans ((World.cell?_setCell_other _ _ _ _ (n0 2 (by omega))).trans h.d))
  · exact World.cell?_setCell_same _ _ _ ((World.cell?_setCell_other _ _ _ _ (ne 2 3 (by omega))).trans ((World.cell?_setCell_other _ _ _ _ (ne 1 3 (by omega))).trans ((World.cell?_setCell_other _ _ _ _ (n0 3 (by omega))).trans h.c)))
theorem set4_blk {w : World} {D p : Nat} {t : TypeId} {cur : Array Value} (h : Blk w D t cur) (e : Ed) : ∃ cur', Blk (set4 w D p e) D t cur' ∧ cur'.size = cur.size :=
  ⟨_, (((h.set p _).set (p + 1) _).set (p + 2) _).set (p + 3) _, by simp⟩
theorem EdR.set {w : World} {D : Nat} {v : Value} {L : List Ed} (h : EdR w D v L) {i : Nat} (hi : i < L.length) (e : Ed) : EdR (set4 w D (i * 4) e) D v (L.set i e) := by
  refine ⟨?_, fun _ => ?_, fun j hj => ?_⟩
  · obtain ⟨a, c, h1, h2⟩ := h.slc
    exact ⟨a, c, by rw [List.length_set]; exact h1, by rw [List.length_set]; exact h2⟩
  · obtain ⟨cur, h1, h2⟩ := h.blk (by omega)
    obtain ⟨cur', h3, h4⟩ := set4_blk h1 e (p := i * 4)
    exact ⟨cur', h3, by rw [List.length_set, h4]; exact h2⟩
  · rw [List.length_set] at hj
    by_cases q : j = i
    · subst q; rw [ed_set_eq hj]; exact set4_same (h.each j hj) e
    · rw [ed_set_ne (fun x => q x.symm)]
      exact (h.each j hj).of_ne fun k hk => set4_other (by omega) e
/-- Two that are swapped. -/
def swp (L : List Ed) (i j : Nat) : List Ed := (L.set i (L.getD j .nul)).set j (L.getD i .nul)
theorem swp_len (L : List Ed) (i j : Nat) : (swp L i j).length = L.length := by unfold swp; rw [List.length_set, List.length_set]
theorem swp_at {L : List Ed} {i j k : Nat} (hi : i < L.length) (hj : j < L.length) : (swp L i j).getD k .nul = if k = j then L.getD i .nul else if k = i then L.getD j .nul else L.getD k .nul := by
  unfold swp
  by_cases h1 : k = j
  · subst h1
    rw [if_pos rfl, ed_set_eq (by rw [List.length_set]; exact hj)]
  · rw [if_neg h1, ed_set_ne (fun e => h1 e.symm)]
    by_cases h2 : k = i
    · subst h2; rw [if_pos rfl, ed_set_eq hi]
    · rw [if_neg h2, ed_set_ne (fun e => h2 e.symm)]
theorem EdR.swap {w : World} {D : Nat} {v : Value} {L : List Ed} (h : EdR w D v L) {i j : Nat} (hi : i < L.length) (hj : j < L.length) : EdR (set4 (set4 w D (i * 4) (L.getD j .nul)) D (j * 4) (L.getD i .nul)) D v (swp L i j) :=
  (h.set hi _).set (by rw [List.length_set]; exact hj) _
theorem set4_wrs {w : World} {D p : Nat} (e : Ed) : Wrs [D] w (set4 w D p e) := ((((Wrs.refl [D] w).set (by simp) _).set (by simp) _).set (by simp) _).set (by simp) _
theorem swap_wrs {w : World} {D p q : Nat} (e e' : Ed) : Wrs [D] w (set4 (set4 w D p e) D q e') := (set4_wrs e).trans (set4_wrs e')
theorem EdR.wrs {w w' : World} {D D' : Nat} {v : Value} {L : List Ed} (h : EdR w D v L) (hw : Wrs [D'] w w') (hne : D ≠ D') : EdR w' D v L :=
  h.keep fun h0 => by obtain ⟨cur, h1, _⟩ := h.blk h0; exact hw.blk D h1.lt (by simp; exact hne)

/-- How two numbers compare. -/
def cmpI (x y : Int) : Int := if x < y then -1 else if y < x then 1 else 0
set_option maxHeartbeats 1000000 in
set_option maxRecDepth 1000000 in
theorem isNaN_any (x : Int) (w : World) : Calls Try.prog 46 #[.int .i64 x] w fun e w' => e = .returned (.bool false) ∧ w' = w := by
  have t : (x != x) = false := by simp
  go_enter Try.func46, Try.ntmps46
  go_wp2
  go_ret
  exact ⟨rfl, rfl⟩
set_option maxHeartbeats 1000000 in
set_option maxRecDepth 1000000 in
theorem cmpInt_any (x y : Int) (w : World) : Calls Try.prog 36 #[.int .i64 x, .int .i64 y] w fun e w' => e = .returned (.int .i64 (cmpI x y)) ∧ w' = w := by
  have HX := hide (fun V => isNaN_any x V)
  have HY := hide (fun V => isNaN_any y V)
  unfold cmpI
  by_cases q1 : x < y
  · have t1 : decide (x < y) = true := decide_eq_true q1
    rw [if_pos q1]
    clear q1
    go_enter Try.func36, Try.ntmps36
    go_wp2_with fail
    refine (HX.out _).mono ?_
    rintro e w1 ⟨rfl, rfl⟩
    go_wp2_with fail
    refine (HY.out _).mono ?_
    rintro e w1 ⟨rfl, rfl⟩
    go_wp2
    go_ret
    exact ⟨rfl, rfl⟩
  have t1 : decide (x < y) = false := decide_eq_false q1
  rw [if_neg q1]
  by_cases q2 : y < x
  · have t2 : decide (y < x) = true := decide_eq_true q2
    rw [if_pos q2]
    clear q1 q2
    go_enter Try.func36, Try.ntmps36
    go_wp2_with fail
    refine (HX.out _).mono ?_
    rintro e w1 ⟨rfl, rfl⟩
    go_wp2_with fail
    refine (HY.out _).mono ?_
    rintro e w1 ⟨rfl, rfl⟩
    go_wp2
    go_ret
    exact ⟨rfl, rfl⟩
  have t2 : decide (y < x) = false := decide_eq_false q2
  rw [if_neg q2]
  clear q1 q2
  go_enter Try.func36, Try.ntmps36
  go_wp2_with fail
  refine (HX.out _).mono ?_
  rintro e w1 ⟨rfl, rfl⟩
  go_wp2_with fail
  refine (HY.out _).mono ?_
  rintro e w1 ⟨rfl, rfl⟩
  go_wp2
  go_ret
  exact ⟨rfl, rfl⟩
/-- An edge's value. -/
def edagg (e : Ed) : Value := .agg #[.int .i64 e.f, .int .i64 e.t, .int .i64 e.d, .int .i64 e.c]
theorem grow_two (w : World) (A B : Obj) : ∃ q os', (w.alloc A).alloc B = grow (w.drewN q) os' := ⟨0, #[A, B], by
  show _ = grow w _
  rw [Sort.alloc_eq_grow, Sort.alloc_eq_grow, Sort.grow_grow]
  rfl⟩
theorem below_grow (w : World) (n : Nat) (os : Array Obj) : Below w.heap.size w (grow (w.drewN n) os) := by
  refine ⟨rfl, rfl, rfl, ?_, fun k hk => ?_⟩
  · show _ ≤ (w.heap ++ os).size
    rw [Array.size_append]; omega
  · show (w.heap ++ os)[k]? = _
    rw [Array.getElem?_append_left hk]
set_option maxHeartbeats 1000000 in
set_option maxRecDepth 1000000 in
theorem byFrom_g (x y : Ed) (w : World) : Calls Try.prog 35 #[edagg x, edagg y] w fun e w' => e = .returned (.int .i64 (cmpI x.f y.f)) ∧ ∃ q os', w' = grow (w.drewN q) os' := by
  unfold edagg
  obtain ⟨x0, x1, x2, x3⟩ := x
  obtain ⟨y0, y1, y2, y3⟩ := y
  simp only
  have HC := hide (fun V => cmpInt_any x0 y0 V)
  have HG := hide (grow_two w (.cells #[.int .i64 x0, .int .i64 x1, .int .i64 x2, .int .i64 x3] 50) (.cells #[.int .i64 y0, .int .i64 y1, .int .i64 y2, .int .i64 y3] 50))
  go_enter Try.func35, Try.ntmps35
  go_wp2_with fail
  refine (HC.out _).mono ?_
  rintro e w1 ⟨rfl, rfl⟩
  go_wp2
  go_ret
  exact ⟨rfl, HG.out⟩
/-- The cells of an edge, in all worlds that have grown. -/
structure EdG (w : World) (b p : Nat) (e : Ed) : Prop where
  f : ∀ n os, (grow (w.drewN n) os).cell? ⟨b, p, none⟩ = some (.int .i64 e.f)
  t : ∀ n os, (grow (w.drewN n) os).cell? ⟨b, p + 1, none⟩ = some (.int .i64 e.t)
  d : ∀ n os, (grow (w.drewN n) os).cell? ⟨b, p + 2, none⟩ = some (.int .i64 e.d)
  c : ∀ n os, (grow (w.drewN n) os).cell? ⟨b, p + 3, none⟩ = some (.int .i64 e.c)
theorem EdC.grown {w : World} {b p : Nat} {e : Ed} (h : EdC w b p e) : EdG w b p e :=
  ⟨fun n os => cell_kept h.f (below_grow w n os), fun n os => cell_kept h.t (below_grow w n os), fun n os => cell_kept h.d (below_grow w n os), fun n os => cell_kept h.c (below_grow w n os)⟩
end Go.Proofs.Ytochfhoaiekioaa
