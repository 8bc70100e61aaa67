/-
  A layout in the making, as impl keeps it in memory.
  The walks of isSide, isInside, neighbor.
  A range over a function that writes what the body writes too (a row of what is still to be done): a law after the library's for iterators that leave the caller's cells alone.
-/
import Derived.Test.YtijdlbanfdhfnaaGreatDoorJDnDNP
import Derived.Test.YtijdlbanfdhfnaaGreatDoorJDnTgOW
import Derived.Maps.OwnOps
import Derived.Maps.OwnSet
import Derived.Maps.Views
import Derived.WideShapes
import Derived.Test.YtijdlbanfdhfnaaGreatDoorJDnSL4
import Derived.BigQuiet
import Derived.Deep.QuietTactic
import Derived.Test.YtijdlbanfdhfnaaGreatDoorJDnT
import Derived.RangeFuncNested
import Derived.RangeFuncBound
import Derived.RangeFuncCalls
import Derived.RangeFuncLeaves
import Derived.RangeFuncBox
import Derived.RangeFuncWrites
namespace Go.Proofs.YtijdlbanfdhfnaaGreatDoor
open Go.RowKit

/-- What the map of names reads as. -/
def MapN (W : World) (b n : Nat) (f : ByteArray → Nat) : Prop :=
  ∃ D : DataW Unit, W.ownsMap Tryz.prog 9 (plainElem Tryz.prog 3) b n D ∧ ∀ s : ByteArray, s.size ≤ 100000 → D.atKey (.string s.data.toList) (.lit (.int .i64 0)) = .lit (.int .i64 (f s : Nat))
theorem MapN.kept {W W' : World} {row : Option Nat} {b n : Nat} {f : ByteArray → Nat} (h : MapN W b n f) (hg : W.grownBy W' row) (hr : row ≠ some b) : MapN W' b n f := by
  obtain ⟨D, h1, h2⟩ := h
  exact ⟨D, h1.kept hg (fun e => hr e.symm), h2⟩
theorem MapN.lt {W : World} {b n : Nat} {f : ByteArray → Nat} (h : MapN W b n f) : b < W.heap.size := by obtain ⟨_, h1, _⟩ := h; exact h1.lt
theorem MapN.obj {W : World} {b n : Nat} {f : ByteArray → Nat} (h : MapN W b n f) : ∃ es c, W.heap[b]? = some (.map es c) := by
  obtain ⟨_, ⟨es, c, hb, _⟩, _⟩ := h
  exact ⟨es, c, hb⟩
theorem MapN.keep {W W' : World} {b m : Nat} {f : ByteArray → Nat} (h : MapN W b m f) (hk : W'.heap[b]? = W.heap[b]?) : MapN W' b m f := by
  obtain ⟨D, ⟨es, clock, hb, F, hs, e⟩, h2⟩ := h
  exact ⟨D, ⟨es, clock, hk.trans hb, F, hs, e⟩, h2⟩
theorem MapN.look {W : World} {b n : Nat} {f : ByteArray → Nat} (h : MapN W b n f) {s : ByteArray} (hc : s.size ≤ 100000) : (Instr.lookup 55 (.map (some b)) (.string s) false).run Tryz.prog W = .ok (.int .i64 (f s : Nat)) W := by
  obtain ⟨D, h1, h2⟩ := h
  obtain ⟨v, hrun, hat, _⟩ := h1.lookup_int (Maps.string_keyed Tryz.underlying9) Tryz.underlying55 Tryz.underlying3 (Tryz.zeroValue3 _) (WideMaps.keyOf_string_mk Tryz.underlying9 (show s.size ≤ maxLen by unfold maxLen; omega))
  rw [h2 s hc] at hat
  simp at hat
  rw [hrun, hat]
theorem MapN.put {W : World} {b n : Nat} {f : ByteArray → Nat} (h : MapN W b n f) {s : ByteArray} (hc : s.size ≤ 100000) (hn : n < 1000) (hf : f s < 1000) :
    ∃ W', (Instr.mapUpdate 55 (.map (some b)) (.string s) (.int .i64 ((f s : Nat) + 1))).run Tryz.prog W = .ok () W' ∧ MapN W' b (n + 1) (fun x => f x + (if s = x then 1 else 0)) ∧ W.grownBy W' (some b) ∧ W'.heap.size = W.heap.size := by
  obtain ⟨D, h1, h2⟩ := h
  have hwf : (Lit.int .i64 (((f s : Nat) : Int) + 1)).wf = true := by
    simp [Lit.wf, IntKind.min, IntKind.max, IntKind.signed, IntKind.bits]
    omega
  obtain ⟨W', hrun, ho, hg⟩ := h1.store (Maps.string_keyed Tryz.underlying9) Tryz.underlying55 (by unfold maxLen; omega) (WideMaps.keyOf_string_mk Tryz.underlying9 (show s.size ≤ maxLen by unfold maxLen; omega)) (plainElem_int Tryz.underlying3 hwf)
  have hz : W'.heap.size = W.heap.size := by obtain ⟨_, _, _, _, _, rfl⟩ := hg; simp [Go.ChangeMaps.setBlock]
  refine ⟨W', hrun, ⟨_, ho, fun x hx => ?_⟩, hg.grown, hz⟩
  by_cases e : s = x
  · subst e
    rw [Maps.atKey_put_same h1.isMap (by simp [WideAt.IsKeyLit])]
    simp
  · rw [Maps.atKey_put_other (fun he => e (by
      obtain ⟨⟨l⟩⟩ := s
      obtain ⟨⟨m⟩⟩ := x
      have h1 : m = l := by simpa using he
      rw [h1])), h2 x hx]
    simp [e]
theorem MapN.made (w : World) : MapN (w.alloc (.map #[] 0)) w.heap.size 0 (fun _ => 0) :=
  ⟨.map [], World.ownsMap_made w Tryz.prog 9 (plainElem Tryz.prog 3), fun _ _ => rfl⟩
/-- A target stands there; how many have a name. -/
def tkB (L : List Tg) (c : Nat) : Bool := L.any fun t => decide (t.cell = (c : Int))
def nmC (L : List Tg) (s : ByteArray) : Nat := L.countP fun t => decide (t.name = s)
/-- The cells of a cell's ground. -/
def grv (f : Flo) (c : Nat) : Nat → Value
  | 0 => .bool (f.wall c)
  | 1 => .int .i64 (f.cost c)
  | 2 => .int .i64 (smW (f.ways c))
  | _ => .bool (tkB f.tgs c)
/-- Grounds in a block. -/
def GrR (w : World) (cb n : Nat) (g : Nat → Nat → Value) : Prop := ∃ cs, Blk w cb 63 cs ∧ ∀ c i, c < n → i < 4 → cs[c * 4 + i]? = some (g c i)
theorem GrR.cell {w : World} {cb n c i : Nat} {g : Nat → Nat → Value} (h : GrR w cb n g) (hc : c < n) (hi : i < 4) : w.cell? ⟨cb, c * 4 + i, none⟩ = some (g c i) := by
  obtain ⟨cs, h1, h2⟩ := h
  rw [h1.cell, h2 c i hc hi]
theorem GrR.frozen {w : World} {cb n : Nat} {g : Nat → Nat → Value} (h : GrR w cb n g) (k : Nat) : w.frozen? ⟨cb, k, none⟩ = false := by
  obtain ⟨cs, h1, _⟩ := h
  exact h1.frozen k
theorem GrR.keep {w w' : World} {cb n : Nat} {g : Nat → Nat → Value} (h : GrR w cb n g) (hk : ∀ cs, Blk w cb 63 cs → Blk w' cb 63 cs) : GrR w' cb n g := by
  obtain ⟨cs, h1, h2⟩ := h
  exact ⟨cs, hk cs h1, h2⟩
theorem GrR.below {w w' : World} {cb n : Nat} {g : Nat → Nat → Value} (h : GrR w cb n g) (hb : Below w.heap.size w w') : GrR w' cb n g := h.keep fun _ q => q.below hb
theorem GrR.lt {w : World} {cb n : Nat} {g : Nat → Nat → Value} (h : GrR w cb n g) : cb < w.heap.size := by obtain ⟨cs, h1, _⟩ := h; exact h1.lt
theorem GrR.set {w : World} {cb n : Nat} {g : Nat → Nat → Value} (h : GrR w cb n g) {c i : Nat} (hc : c < n) (hi : i < 4) (v : Value) : GrR (w.setCell ⟨cb, c * 4 + i, none⟩ v) cb n (fun x j => if x = c ∧ j = i then v else g x j) := by
  obtain ⟨cs, h1, h2⟩ := h
  refine ⟨_, h1.set (c * 4 + i) v, fun x j hx hj => ?_⟩
  have h3 := h2 x j hx hj
  have hl : x * 4 + j < cs.size := by
    rcases Nat.lt_or_ge (x * 4 + j) cs.size with q | q
    · exact q
    · rw [Array.getElem?_eq_none q] at h3; cases h3
  rw [Array.getElem?_setIfInBounds]
  by_cases e : x = c ∧ j = i
  · obtain ⟨rfl, rfl⟩ := e
    rw [if_pos rfl, if_pos hl]
    simp
  · have hne : c * 4 + i ≠ x * 4 + j := fun q => e ⟨by omega, by omega⟩
    rw [if_neg hne]
    show _ = some (if x = c ∧ j = i then v else g x j)
    rw [if_neg e]
    exact h3
theorem GrR.congr {w : World} {cb n : Nat} {g g' : Nat → Nat → Value} (h : GrR w cb n g) (hg : ∀ c i, c < n → i < 4 → g c i = g' c i) : GrR w cb n g' := by
  obtain ⟨cs, h1, h2⟩ := h
  exact ⟨cs, h1, fun c i hc hi => by rw [h2 c i hc hi, hg c i hc hi]⟩
/-- All four cells of a ground, written whole. -/
theorem GrR.four {w : World} {cb n : Nat} {g : Nat → Nat → Value} (h : GrR w cb n g) {c : Nat} (hc : c < n) (v0 v1 v2 v3 : Value) : GrR ((((w.setCell ⟨cb, c * 4, none⟩ v0).setCell ⟨cb, c * 4 + 1, none⟩ v1).setCell ⟨cb, c * 4 + 2, none⟩ v2).setCell ⟨cb, c * 4 + 3, none⟩ v3) cb n (fun x j => if x = c then (match j with | 0 => v0 | 1 => v1 | 2 => v2 | _ => v3) else g x j) := by
  have h0 := ((((h.set (c := c) (i := 0) hc (by decide) v0).set (c := c) (i := 1) hc (by decide) v1).set (c := c) (i := 2) hc (by decide) v2).set (c := c) (i := 3) hc (by decide) v3)
  refine h0.congr fun x j hx hj => ?_
  by_cases e : x = c
  · subst e
    match j, hj with
    | 0, _ => simp
    | 1, _ => simp
    | 2, _ => simp
    | 3, _ => simp
  · simp [e]
/-- Blocks of other types than a ground's stay. -/
theorem four_typed {w : World} {cb k0 k1 k2 k3 g : Nat} {t T : TypeId} {cs cs0 : Array Value} (hM : Blk w cb T cs0) (h : Blk w g t cs) (ht : t ≠ T) (v0 v1 v2 v3 : Value) : Blk ((((w.setCell ⟨cb, k0, none⟩ v0).setCell ⟨cb, k1, none⟩ v1).setCell ⟨cb, k2, none⟩ v2).setCell ⟨cb, k3, none⟩ v3) g t cs :=
  set_typed ((((hM.set k0 v0)).set k1 v1).set k2 v2) (set_typed ((hM.set k0 v0).set k1 v1) (set_typed (hM.set k0 v0) (set_typed hM h ht) ht) ht) ht
/-- A target's name in a row of bytes of its own. -/
def TgNf (w : World) (p : Tg × Value) : Prop := ∃ g c cs fr, p.2 = .slice (some ⟨g, 0, none⟩) p.1.name.size c ∧ w.heap[g]? = some (.cells cs 5 fr) ∧ (∀ j, j < p.1.name.size → cs[j]? = some (bts p.1.name j)) ∧ p.1.name.size ≤ fr.1
theorem TgNf.keep {w w' : World} {p : Tg × Value} (h : TgNf w p) (hk : ∀ {g : Nat} {cs : Array Value} {fr : Nat × Nat}, w.heap[g]? = some (.cells cs 5 fr) → w'.heap[g]? = some (.cells cs 5 fr)) : TgNf w' p := by
  obtain ⟨g, c, cs, fr, e1, e2, e3, e4⟩ := h
  exact ⟨g, c, cs, fr, e1, hk e2, e3, e4⟩
theorem lt_heap {w : World} {g : Nat} {o : Obj} (h : w.heap[g]? = some o) : g < w.heap.size := by
  rcases Nat.lt_or_ge g w.heap.size with q | q
  · exact q
  · rw [Array.getElem?_eq_none q] at h; cases h
theorem cel_below {w w' : World} {g : Nat} {o : Obj} (h : w.heap[g]? = some o) (hb : Below w.heap.size w w') : w'.heap[g]? = some o := (hb.block g (lt_heap h)).trans h
theorem cel_set {w : World} {M k g : Nat} {v : Value} {t T : TypeId} {cs cs0 : Array Value} {fr : Nat × Nat} (hM : Blk w M T cs0) (h : w.heap[g]? = some (.cells cs t fr)) (ht : t ≠ T) : (w.setCell ⟨M, k, none⟩ v).heap[g]? = some (.cells cs t fr) :=
  (Below.heap_setCell _ _ _ _ (fun e => by
    have e' : g = M := e
    subst e'
    unfold Blk at hM
    rw [h] at hM
    injection hM with h1
    injection h1 with _ h2
    exact ht h2)).trans h
theorem cel_four {w : World} {cb k0 k1 k2 k3 g : Nat} {t T : TypeId} {cs cs0 : Array Value} {fr : Nat × Nat} (hM : Blk w cb T cs0) (h : w.heap[g]? = some (.cells cs t fr)) (ht : t ≠ T) (v0 v1 v2 v3 : Value) : ((((w.setCell ⟨cb, k0, none⟩ v0).setCell ⟨cb, k1, none⟩ v1).setCell ⟨cb, k2, none⟩ v2).setCell ⟨cb, k3, none⟩ v3).heap[g]? = some (.cells cs t fr) :=
  cel_set ((((hM.set k0 v0)).set k1 v1).set k2 v2) (cel_set ((hM.set k0 v0).set k1 v1) (cel_set (hM.set k0 v0) (cel_set hM h ht) ht) ht) ht
/-- The floor f in the block F. -/
structure FlI (w : World) (F cb cc M mn : Nat) (f : Flo) (vt : Value) (ns : List (Tg × Value)) : Prop where
  blk : Blk w F 58 #[.int .i64 (f.w : Nat), .int .i64 (f.h : Nat), .slice (some ⟨cb, 0, none⟩) (f.w * f.h) cc, vt, .map (some M)]
  ce : GrR w cb (f.w * f.h) (grv f)
  mp : MapN w M mn (nmC f.tgs)
  ml : mn ≤ f.tgs.length
  tg : TgOw w (F + 1) vt ns
  tn : ∀ p ∈ ns, TgNf w p
  ts : ns.map Prod.fst = f.tgs
  nd : (ns.map fun p => p.2.ownBlock).Nodup
  nf : ∀ p ∈ ns, ∀ g, p.2.ownBlock = some g → F < g
  lc : F < cb
  lm : F < M ∨ M < F
theorem map_typed {w w' : World} {M g : Nat} {t : TypeId} {cs : Array Value} (h : Blk w g t cs) (hM : ∃ es c, w.heap[M]? = some (.map es c)) (hg : w.grownBy w' (some M)) : Blk w' g t cs := by
  obtain ⟨es, c, hm⟩ := hM
  refine (hg.block g h.lt (fun e => ?_)).trans h
  injection e with e
  subst e
  unfold Blk at h
  rw [h] at hm
  cases hm
theorem MapN.set {w : World} {M n b k : Nat} {f : ByteArray → Nat} {t : TypeId} {cs : Array Value} {v : Value} (h : MapN w M n f) (hb : Blk w b t cs) : MapN (w.setCell ⟨b, k, none⟩ v) M n f := by
  obtain ⟨es, c, hm⟩ := h.obj
  refine h.keep (Below.heap_setCell _ _ _ _ (fun e => ?_))
  have e' : M = b := e
  subst e'
  unfold Blk at hb
  rw [hb] at hm
  cases hm
theorem MapN.grown {w w' : World} {M n B e sz m : Nat} {f : ByteArray → Nat} {v : Value} {xs : List Value} (h : MapN w M n f) (ho : w.ownsRow B e sz v m xs) (hg : w.grownBy w' v.ownBlock) : MapN w' M n f := by
  obtain ⟨es, c, hm⟩ := h.obj
  refine h.kept hg (fun q => ?_)
  rcases ho.2 with ⟨rfl, _⟩ | ⟨g, cap, cur, rfl, _, hgg, _⟩
  · cases q
  · injection q with q
    subst q
    rw [hgg] at hm
    cases hm
theorem FlI.below {w w' : World} {F cb cc M mn : Nat} {f : Flo} {vt : Value} {ns : List (Tg × Value)} (h : FlI w F cb cc M mn f vt ns) (hb : Below w.heap.size w w') : FlI w' F cb cc M mn f vt ns :=
  ⟨h.blk.below hb, h.ce.below hb, h.mp.keep (hb.block _ h.mp.lt), h.ml, h.tg.kept hb, fun p hp => (h.tn p hp).keep fun q => cel_below q hb, h.ts, h.nd, h.nf, h.lc, h.lm⟩
/-- A ground was changed. -/
theorem FlI.lay {w : World} {F cb cc M mn : Nat} {f f' : Flo} {vt : Value} {ns : List (Tg × Value)} (h : FlI w F cb cc M mn f vt ns) {c : Nat} (hc : c < f.w * f.h) (v0 v1 v2 v3 : Value)
    (hs : f'.w = f.w ∧ f'.h = f.h ∧ f'.tgs = f.tgs) (h0 : ∀ x i, x < f.w * f.h → i < 4 → grv f' x i = (if x = c then (match i with | 0 => v0 | 1 => v1 | 2 => v2 | _ => v3) else grv f x i)) :
    FlI ((((w.setCell ⟨cb, c * 4, none⟩ v0).setCell ⟨cb, c * 4 + 1, none⟩ v1).setCell ⟨cb, c * 4 + 2, none⟩ v2).setCell ⟨cb, c * 4 + 3, none⟩ v3) F cb cc M mn f' vt ns := by
  obtain ⟨e1, e2, e3⟩ := hs
  obtain ⟨cs, hcs, hcv⟩ := h.ce
  have hm : MapN ((((w.setCell ⟨cb, c * 4, none⟩ v0).setCell ⟨cb, c * 4 + 1, none⟩ v1).setCell ⟨cb, c * 4 + 2, none⟩ v2).setCell ⟨cb, c * 4 + 3, none⟩ v3) M mn (nmC f.tgs) :=
    ((((h.mp.set hcs).set (hcs.set _ _)).set ((hcs.set _ _).set _ _)).set (((hcs.set _ _).set _ _).set _ _))
  refine ⟨?_, ?_, by rw [e3]; exact hm, by rw [e3]; exact h.ml, own_typed h.tg fun _ _ q => four_typed hcs q (by decide) _ _ _ _, fun p hp => ?_, by rw [e3]; exact h.ts, h.nd, h.nf, h.lc, h.lm⟩
  · rw [e1, e2]; exact four_typed hcs h.blk (by decide) _ _ _ _
  · rw [e1, e2]
    exact (h.ce.four hc v0 v1 v2 v3).congr fun x i hx hi => (h0 x i hx hi).symm
  · exact (h.tn p hp).keep fun q => cel_four hcs q (by decide) _ _ _ _
end Go.Proofs.YtijdlbanfdhfnaaGreatDoor

namespace Go.Proofs.YtijdlbanfdhfnaaGreatDoor
open Go.RowKit

/-- What wayMoves holds. -/
structure MvOk (w : World) : Prop where
  a0 : w.cell? ⟨0, 0, none⟩ = some (.int .i64 0)
  a1 : w.cell? ⟨0, 1, none⟩ = some (.int .i64 (-1))
  a2 : w.cell? ⟨0, 2, none⟩ = some (.int .i64 1)
  a3 : w.cell? ⟨0, 3, none⟩ = some (.int .i64 0)
  a4 : w.cell? ⟨0, 4, none⟩ = some (.int .i64 0)
  a5 : w.cell? ⟨0, 5, none⟩ = some (.int .i64 1)
  a6 : w.cell? ⟨0, 6, none⟩ = some (.int .i64 (-1))
  a7 : w.cell? ⟨0, 7, none⟩ = some (.int .i64 0)
theorem MvOk.below {w w' : World} (h : MvOk w) (hb : Below w.heap.size w w') : MvOk w' :=
  ⟨cell_kept h.a0 hb, cell_kept h.a1 hb, cell_kept h.a2 hb, cell_kept h.a3 hb, cell_kept h.a4 hb, cell_kept h.a5 hb, cell_kept h.a6 hb, cell_kept h.a7 hb⟩

set_option maxRecDepth 1000000 in
theorem isSide_any (n : Int) (w : World) :
    Calls Tryz.prog 48 #[.int .i64 n] w fun e w' => e = .returned (.bool (decide (1 ≤ n) && decide (n ≤ 40))) ∧ w' = w := by
  obtain ⟨b0, t0⟩ : ∃ b, decide (1 ≤ n) = b := ⟨_, rfl⟩
  obtain ⟨b1, t1⟩ : ∃ b, decide (n ≤ 40) = b := ⟨_, rfl⟩
  rw [t0, t1]
  cases b0 <;> cases b1
  all_goals
    go_enter Tryz.func48, Tryz.ntmps48
    go_wp2
    go_ret
    exact ⟨rfl, rfl⟩

/-- Whether a place is one of the grid. -/
def insd (W H x y : Int) : Bool := decide (0 ≤ x) && decide (x < W) && decide (0 ≤ y) && decide (y < H)
set_option maxRecDepth 1000000 in
theorem isInside_any (W H x y : Int) (w : World) :
    Calls Tryz.prog 72 #[.int .i64 W, .int .i64 H, .int .i64 x, .int .i64 y] w fun e w' => e = .returned (.bool (insd W H x y)) ∧ w' = w := by
  unfold insd
  obtain ⟨b0, t0⟩ : ∃ b, decide (0 ≤ x) = b := ⟨_, rfl⟩
  obtain ⟨b1, t1⟩ : ∃ b, decide (x < W) = b := ⟨_, rfl⟩
  obtain ⟨b2, t2⟩ : ∃ b, decide (0 ≤ y) = b := ⟨_, rfl⟩
  obtain ⟨b3, t3⟩ : ∃ b, decide (y < H) = b := ⟨_, rfl⟩
  rw [t0, t1, t2, t3]
  cases b0 <;> cases b1 <;> cases b2 <;> cases b3
  all_goals
    go_enter Tryz.func72, Tryz.ntmps72
    go_wp2
    go_ret
    exact ⟨rfl, rfl⟩

/-- By how much a way leads on. -/
def dxw (d : Nat) : Int := if d = 1 then 1 else if d = 3 then -1 else 0
def dyw (d : Nat) : Int := if d = 0 then -1 else if d = 2 then 1 else 0
/-- The cell's number that neighbor answers. -/
def nbv (W c : Int) (d : Nat) : Int := (c / W + dyw d) * W + (c % W + dxw d)
theorem insd_toC {W H c : Int} {d : Nat} (hw0 : 1 ≤ W) (hc0 : 0 ≤ c) (hc1 : c < W * H) (hd : d < 4) :
    insd W H (c % W + dxw d) (c / W + dyw d) = decide (0 ≤ toC W H c d) ∧ (0 ≤ toC W H c d → nbv W c d = toC W H c d) := by
  obtain ⟨hy0, hy1, hx0, hx1⟩ := toC_div hw0 hc0 hc1
  unfold nbv toC insd dxw dyw
  generalize c / W = y at *
  generalize c % W = x at *
  have e1 : (y - 1) * W = y * W - W := by rw [Int.sub_mul, Int.one_mul]
  have e2 : (y + 1) * W = y * W + W := by rw [Int.add_mul, Int.one_mul]
  have e3 : (y + -1) * W = y * W - W := by rw [Int.add_mul, Int.neg_mul, Int.one_mul]; omega
  have e4 : (y + 0) * W = y * W := by rw [Int.add_zero]
  have p1 : 0 ≤ y * W := Int.mul_nonneg hy0 (by omega)
  have p2 : 1 ≤ y → W ≤ y * W := fun h => by have := Int.mul_le_mul_of_nonneg_right h (show 0 ≤ W by omega); omega
  have hd4 : d = 0 ∨ d = 1 ∨ d = 2 ∨ d = 3 := by omega
  rcases hd4 with rfl | rfl | rfl | rfl
  all_goals simp (decide := true) only [↓reduceIte, e1, e2, e3, e4]
  all_goals
    refine ⟨?_, ?_⟩
    · rw [Bool.eq_iff_iff]
      simp only [Bool.and_eq_true, decide_eq_true_eq]
      split <;> constructor <;> intro h <;> omega
    · split <;> intro h <;> omega

set_option maxHeartbeats 1000000 in
set_option maxRecDepth 1000000 in
theorem neighbor_any (W H c : Int) (d : Nat) (w : World) (hm : MvOk w) (hw0 : 1 ≤ W) (hw1 : W ≤ 40) (hh1 : H ≤ 40) (hc0 : 0 ≤ c) (hc1 : c < W * H) (hd : d < 4) :
    Calls Tryz.prog 74 #[.int .i64 W, .int .i64 H, .int .i64 c, .int .i64 d] w fun e w' => e = .returned (.tuple #[.int .i64 (nbv W c d), .bool (decide (0 ≤ toC W H c d))]) ∧ Below w.heap.size w w' := by
  obtain ⟨hy0, hy1, hx0, hx1⟩ := toC_div hw0 hc0 hc1
  obtain ⟨hin, _⟩ := insd_toC hw0 hc0 hc1 hd
  rw [← hin]
  clear hin
  have hdm : c.tdiv W = c / W := Int.tdiv_eq_ediv_of_nonneg hc0
  have hmm : c.tmod W = c % W := Int.tmod_eq_emod_of_nonneg hc0
  have hWne : (W == 0) = false := by rw [beq_eq_false_iff_ne]; omega
  unfold nbv
  generalize c / W = y at *
  generalize c % W = x at *
  have p1 : 0 ≤ y * W ∧ y * W ≤ 1600 := ⟨Int.mul_nonneg hy0 (by omega), by have := Int.mul_le_mul (show y ≤ 40 by omega) hw1 (by omega) (by omega); omega⟩
  have HI := hide (fun x y w => isInside_any W H x y w)
  obtain ⟨m0, m1, m2, m3, m4, m5, m6, m7⟩ := hm
  have hd4 : d = 0 ∨ d = 1 ∨ d = 2 ∨ d = 3 := by omega
  clear hd hc0 hc1
  have p2 : (y + -1) * W = y * W - W := by rw [Int.add_mul, Int.neg_mul, Int.one_mul]; omega
  have p3 : (y + 1) * W = y * W + W := by rw [Int.add_mul, Int.one_mul]
  have p4 : -1000 ≤ (y + -1) * W ∧ (y + -1) * W ≤ 1700 := by omega
  have p5 : -1000 ≤ (y + 1) * W ∧ (y + 1) * W ≤ 1700 := by omega
  clear p2 p3
  rcases hd4 with rfl | rfl | rfl | rfl
  all_goals
    simp (decide := true) only [dxw, dyw, ↓reduceIte, Int.add_zero]
    go_enter Tryz.func74, Tryz.ntmps74
    go_wp2_with fail
    go_quiet (fail)
    go_wp2_with fail
    go_quiet (fail)
    go_wp2_with fail
    refine (HI.out _ _ _).mono ?_
    rintro e w1 ⟨rfl, rfl⟩
    go_wp2
    go_ret2
    exact ⟨rfl, below_drewN (Below.refl _ _) _⟩
end Go.Proofs.YtijdlbanfdhfnaaGreatDoor

namespace Go.Proofs.YtijdlbanfdhfnaaGreatDoor
open Go.RowKit

/-- HOW THE BODY OF A ROUND IS LEFT: it goes on. -/
def bodyOn (B : Nat) (I : World → Prop) (mu : World → Nat) (W : World) : Exit → Act → World → Prop
  | .normal, _, W' => KeepsFrom B W W' ∧ I W' ∧ mu W' ≤ mu W
  | _, _, _ => False

/-- The record of a loop is ready, and nothing is deferred. -/
def Rdy (r : Loop) (B : Nat) (W : World) : Prop := W.heap[B + 1]? = some (.loop r) ∧ W.heap[B]? = some (.deferred (some []))
theorem Rdy.keep {r : Loop} {B : Nat} {W W' : World} (h : Rdy r B W) (hk : KeepsFrom B W W') : Rdy r B W' :=
  ⟨hk.same _ _ (by omega) h.1 rfl, hk.same _ _ (Nat.le_refl _) h.2 rfl⟩

/-- The range over a function that takes from what the body adds to. I0: ahead of each take; I1 x: x is taken. -/
theorem wpIn_rangeFunc_row {F : Fence} {n : Nat} {P : Program} {α : Type} {g : Operand} {ps : Array Tmp} {assign body : Code} {Q : Exit → Act → World → Prop} {a : Act} {w : World}
    (hro : F.round = none) (h1 : 1 ≤ n) {gf : Nat} {lb : Array Value} (hg : a.eval g = .func (.func gf) #[] lb) (hFg : F.fn gf) (eg : ∀ args w, (callFunc gf args).run P w = .ok (.enter gf args) w)
    {enc : α → Value} (hps : ps.size = 1) (I0 Ie : World → Prop) (I1 : α → World → Prop) (mu : World → Nat)
    (hmu : ∀ {W : World} {l : Nat} {o' : Obj}, w.heap.size ≤ l → mu (W.putObj l o') = mu W)
    (hI0 : ∀ {W : World} {l : Nat} {o o' : Obj}, w.heap.size ≤ l → W.heap[l]? = some o → o.isCells = false → I0 W → I0 (W.putObj l o'))
    (hI1 : ∀ {x : α} {W : World} {l : Nat} {o o' : Obj}, w.heap.size ≤ l → W.heap[l]? = some o → o.isCells = false → I1 x W → I1 x (W.putObj l o'))
    (hIe : ∀ {W : World} {l : Nat} {o o' : Obj}, w.heap.size ≤ l → W.heap[l]? = some o → o.isCells = false → Ie W → Ie (W.putObj l o'))
    (hal : ∀ (W : World) (o : Obj), I0 W → I0 (W.alloc o)) (h0 : I0 w)
    (hseq : ∀ (l : Nat) (Rd : World → Prop) (W : World), w.heap.size ≤ W.heap.size → (∀ {A B : World}, Rd A → KeepsFrom w.heap.size A B → Rd B) →
      (∀ x W1, I1 x W1 → Rd W1 → YieldAt F (n - 1 - 1) P l #[enc x] W1 fun e W' => e = .returned (.bool true) ∧ I0 W' ∧ mu W' ≤ mu W1 ∧ Rd W') → I0 W → Rd W →
      CallsIn F (n - 1) P gf (#[.func (.yield l) #[] #[]] ++ lb) W fun e W' => (∃ v, e = .returned v) ∧ Ie W' ∧ Rd W')
    (a₁ : α → Act)
    (hassign : ∀ (l : Nat) (x : α) (W : World) (K : Act → World → Prop), K (a₁ x) W →
      assign.wpIn (F.inRound l) (n - 1 - 1) P (Exit.then K (fun _ _ _ => False)) { tmps := (ps.zip #[enc x]).foldl (fun t (p, v) => t.setIfInBounds p v) a.tmps, defers := [] } W)
    (hbody : ∀ (l : Nat) (x : α) (W : World), I1 x W → body.wpIn (F.inRound l) (n - 1 - 1) P (bodyOn w.heap.size I0 mu W) (a₁ x) W)
    (hdone : ∀ (D : Nat) (W : World), w.heap.size ≤ D → Ie W → W.heap[D]? = some (.deferred (some [])) → Q .normal { a with defers := { target := .collected D, args := #[] } :: a.defers } W) :
    (Code.rangeFunc g ps assign body).wpIn F n P Q a w := by
  refine wpIn_rangeFunc ?_
  intro fn hfn
  rw [hro]
  obtain ⟨rec, hrec⟩ : ∃ rec : LoopState → Option Code → Loop, rec = fun st pe => { state := st, pending := pe, fn, tmps := a.tmps, params := ps, assign, body, defers := w.heap.size } := ⟨_, rfl⟩
  obtain ⟨W1, hW1⟩ : ∃ W1, (w.alloc (.deferred (some []))).alloc (.loop (rec .ready none)) = W1 := ⟨_, rfl⟩
  have hL1 : W1.heap[w.heap.size + 1]? = some (.loop (rec .ready none)) := by
    rw [← hW1]; have := World.alloc_heap_new (w.alloc (.deferred (some []))) (.loop (rec .ready none)); rwa [World.size_alloc] at this
  have hK1 : W1.heap[w.heap.size]? = some (.deferred (some [])) := by
    rw [← hW1]; exact (Below.heap_alloc _ _ _ (by simp)).trans (World.alloc_heap_new w _)
  have hI1w : I0 W1 := by rw [← hW1]; exact hal _ _ (hal _ _ h0)
  have hz1 : w.heap.size ≤ W1.heap.size := by rw [← hW1]; simp; omega
  refine ⟨w.heap.size + 1, [{ target := .collected w.heap.size, args := #[] }], W1, { target := .fn (.func gf) lb, args := #[.func (.yield (w.heap.size + 1)) #[] #[]] }, W1, gf,
    #[.func (.yield (w.heap.size + 1)) #[] #[]] ++ lb, W1, ?_, ?_, ?_, ?_, fun _ => h1, ?_⟩
  · rw [← hW1, hrec]; exact run_enterLoop_outer _ _ _ _ _
  · simp only [resolve, hg]
    simp [go_sem]
  · intro f' hf'; simp [Target.leads] at hf'; subst hf'; exact hFg
  · simp [invoke, go_sem, eg]
  · refine (hseq (w.heap.size + 1) (Rdy (rec .ready none) w.heap.size) W1 hz1 (fun h k => h.keep k) ?_ hI1w ⟨hL1, hK1⟩).mono ?_
    · rintro x W hi ⟨hl, hk⟩
      have hlt : w.heap.size + 1 < W.heap.size := (Array.getElem?_eq_some_iff.1 hl).1
      have hy := run_yield (P := P) (args := #[enc x]) hl (by rw [hrec]; exact hps.symm)
      rw [hrec] at hy
      refine ⟨fn, _, assign, body, hy, roundIn_of_wpIn hfn (hassign _ x W _ ⟨_, run_beginRound hl (by rw [hrec]), ?_⟩)⟩
      have hl2 : (W.putObj (w.heap.size + 1) (.loop { rec .ready none with state := .busy })).heap[w.heap.size + 1]? = some (.loop { rec .ready none with state := .busy }) := World.putObj_heap_same hlt
      have hk2 : (W.putObj (w.heap.size + 1) (.loop { rec .ready none with state := .busy })).heap[w.heap.size]? = some (.deferred (some [])) := (World.putObj_heap_other (by omega)).trans hk
      refine wpIn_mono (hbody _ x _ (hI1 (by omega) hl rfl hi)) ?_
      rintro e a3 W3 hp
      cases e with
      | normal =>
        obtain ⟨hk3, hi3, hm3⟩ := hp
        have hl3 := hk3.same _ _ (by omega) hl2 rfl
        have hr := run_endRound (P := P) none hl3
        rw [hrec] at hr hl3
        refine ⟨_, _, hr, rfl, hI0 (by omega) hl3 rfl hi3, ?_, ?_, ?_⟩
        · rw [hmu (by omega)]; rw [hmu (by omega)] at hm3; exact hm3
        · rw [hrec]; exact World.putObj_heap_same (Array.getElem?_eq_some_iff.1 hl3).1
        · exact (World.putObj_heap_other (by omega)).trans (hk3.same _ _ (Nat.le_refl _) hk2 rfl)
      | ret => exact hp.elim
      | exit id => exact hp.elim
      | goto t => exact hp.elim
      | panic ch => exact hp.elim
      | outgrown => exact hp.elim
    · rintro e W2 ⟨⟨v, rfl⟩, hi, hl, hk⟩
      exact ⟨none, _, by have := run_endLoop (P := P) hl (by rw [hrec]; simp); rw [hrec] at this; exact this, hdone _ _ (Nat.le_refl _) (hIe (by omega) hl rfl hi) ((World.putObj_heap_other (by omega)).trans hk)⟩
end Go.Proofs.YtijdlbanfdhfnaaGreatDoor
