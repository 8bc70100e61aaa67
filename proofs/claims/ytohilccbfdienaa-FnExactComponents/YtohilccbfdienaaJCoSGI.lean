/-
  A graph under way: what spec.l5graph holds.
  Goals that are alike, closed once.
-/
import Derived.Test.YtohilccbfdienaaJCoRWS
import Derived.Test.YtohilccbfdienaaJCoGOP
import Derived.Test.YtohilccbfdienaaJCoB0
namespace Go.Proofs.Ytohilccbfdienaa
open Go.RowKit

structure GsI (w : World) (n G RB : Nat) (V : Nat → Value) (S : List Ed) (u1 u2 u3 u4 v1 v2 v3 v4 : Value) (L1 L2 L3 L4 : List Int) (W : World) : Prop where
  gr : Blk W G 28 #[.int .i64 n, u1, u2, u3, u4]
  ro : R4 W w.heap.size v1 v2 v3 v4 L1 L2 L3 L4
  rw : Rws W w.heap.size RB n V (rwL S)
  rs : Blk W w.heap.size 28 #[.int .i64 0, .slice none 0 0, .slice none 0 0, .slice none 0 0, .slice none 0 0]
  gb : w.heap.size + 1 = G
  bl : Below w.heap.size w W
theorem GsI.below {w : World} {n G RB : Nat} {V : Nat → Value} {S : List Ed} {u1 u2 u3 u4 v1 v2 v3 v4 : Value} {L1 L2 L3 L4 : List Int} {W W' : World} (h : GsI w n G RB V S u1 u2 u3 u4 v1 v2 v3 v4 L1 L2 L3 L4 W) (hb : Below W.heap.size W W') : GsI w n G RB V S u1 u2 u3 u4 v1 v2 v3 v4 L1 L2 L3 L4 W' :=
  ⟨h.gr.below hb, h.ro.below hb, h.rw.below hb, h.rs.below hb, h.gb, h.bl.trans (hb.mono h.bl.size)⟩
theorem GsI.app {w : World} {n G RB : Nat} {V : Nat → Value} {S : List Ed} {u1 u2 u3 u4 v1 v2 v3 v4 : Value} {L1 L2 L3 L4 : List Int} {W W' : World} (h : GsI w n G RB V S u1 u2 u3 u4 v1 v2 v3 v4 L1 L2 L3 L4 W) {v : Value} {L : List Int} (ho : Ow W w.heap.size v L) (hg : W.grownBy W' v.ownBlock) {M1 M2 M3 M4 : List Int} {w1 w2 w3 w4 : Value} (hr : R4 W' w.heap.size w1 w2 w3 w4 M1 M2 M3 M4) : GsI w n G RB V S u1 u2 u3 u4 w1 w2 w3 w4 M1 M2 M3 M4 W' :=
  ⟨app_typed h.gr (by decide) ho hg, hr, h.rw.keep (fun k t cs ht hk => app_typed hk (by rcases ht with rfl | rfl <;> decide) ho hg), app_typed h.rs (by decide) ho hg, h.gb, h.bl.grown hg h.bl.size (fun k hk => (ho.lt k hk).1)⟩
theorem GsI.app1 {w : World} {n G RB : Nat} {V : Nat → Value} {S : List Ed} {u1 u2 u3 u4 v1 v2 v3 v4 v' : Value} {L1 L2 L3 L4 L : List Int} {W W' : World} (h : GsI w n G RB V S u1 u2 u3 u4 v1 v2 v3 v4 L1 L2 L3 L4 W) (a : Ap W W' w.heap.size v1 v' L) : GsI w n G RB V S u1 u2 u3 u4 v' v2 v3 v4 L L2 L3 L4 W' := h.app h.ro.o1 a.gr (h.ro.app1 a)
theorem GsI.app2 {w : World} {n G RB : Nat} {V : Nat → Value} {S : List Ed} {u1 u2 u3 u4 v1 v2 v3 v4 v' : Value} {L1 L2 L3 L4 L : List Int} {W W' : World} (h : GsI w n G RB V S u1 u2 u3 u4 v1 v2 v3 v4 L1 L2 L3 L4 W) (a : Ap W W' w.heap.size v2 v' L) : GsI w n G RB V S u1 u2 u3 u4 v1 v' v3 v4 L1 L L3 L4 W' := h.app h.ro.o2 a.gr (h.ro.app2 a)
theorem GsI.app3 {w : World} {n G RB : Nat} {V : Nat → Value} {S : List Ed} {u1 u2 u3 u4 v1 v2 v3 v4 v' : Value} {L1 L2 L3 L4 L : List Int} {W W' : World} (h : GsI w n G RB V S u1 u2 u3 u4 v1 v2 v3 v4 L1 L2 L3 L4 W) (a : Ap W W' w.heap.size v3 v' L) : GsI w n G RB V S u1 u2 u3 u4 v1 v2 v' v4 L1 L2 L L4 W' := h.app h.ro.o3 a.gr (h.ro.app3 a)
theorem GsI.app4 {w : World} {n G RB : Nat} {V : Nat → Value} {S : List Ed} {u1 u2 u3 u4 v1 v2 v3 v4 v' : Value} {L1 L2 L3 L4 L : List Int} {W W' : World} (h : GsI w n G RB V S u1 u2 u3 u4 v1 v2 v3 v4 L1 L2 L3 L4 W) (a : Ap W W' w.heap.size v4 v' L) : GsI w n G RB V S u1 u2 u3 u4 v1 v2 v3 v' L1 L2 L3 L W' := h.app h.ro.o4 a.gr (h.ro.app4 a)
theorem GsI.put {w : World} {n G RB : Nat} {V : Nat → Value} {S : List Ed} {u1 u2 u3 u4 v1 v2 v3 v4 : Value} {L1 L2 L3 L4 : List Int} {W : World} (h : GsI w n G RB V S u1 u2 u3 u4 v1 v2 v3 v4 L1 L2 L3 L4 W) (k : Nat) (x : Value) {y1 y2 y3 y4 : Value} (he : (#[.int .i64 n, u1, u2, u3, u4] : Array Value).setIfInBounds k x = #[.int .i64 n, y1, y2, y3, y4]) : GsI w n G RB V S y1 y2 y3 y4 v1 v2 v3 v4 L1 L2 L3 L4 (W.setCell ⟨G, k, none⟩ x) :=
  ⟨he ▸ h.gr.set k x, h.ro.other h.gr (by decide), h.rw.keep (fun j t cs ht hk => set_typed h.gr hk (by rcases ht with rfl | rfl <;> decide)), h.rs.other k x (by have := h.gb; omega), h.gb, Below.setCell h.bl (by show w.heap.size ≤ G; have := h.gb; omega) _⟩
theorem stA_snoc (S : List Ed) (c : Nat) : (List.range c).map (stA S) ++ [((rowsN S c).length : Int)] = (List.range (c + 1)).map (stA S) := by
  rw [List.range_succ, List.map_append]
  rfl
theorem EsOw.addr {W : World} {B n cap : Nat} {a : Option Addr} {L : List Ed} (h : EsOw W B (.slice a n cap) L) (h0 : 0 < L.length) : ∃ g, a = some ⟨g, 0, none⟩ ∧ ∃ cur, Blk W g 53 cur := by
  rcases h.2 with ⟨h1, h2⟩ | ⟨g, c, cur, h1, _, hg, _⟩
  · omega
  · injection h1 with h2 _ _
    exact ⟨g, h2, cur, hg⟩
/-- The cells of an edge of such a row, in every world in which it stands. -/
theorem es_cells {w0 W0 : World} {v : Value} {aV : Option Addr} {m cV k : Nat} {L : List Ed} {x : Ed} (hv : v = .slice aV m cV) (hx : L[k]? = some x) (h0 : EsOw W0 w0.heap.size v L) :
    ∃ bb oo, aV = some ⟨bb, oo, none⟩ ∧ ∀ W : World, EsOw W w0.heap.size v L → W.cell? ⟨bb, oo + k * 4 + 1, none⟩ = some (.int .i64 x.t) ∧ W.cell? ⟨bb, oo + k * 4 + 2, none⟩ = some (.int .i64 x.d) ∧ W.cell? ⟨bb, oo + k * 4 + 3, none⟩ = some (.int .i64 x.c) := by
  subst hv
  have hk : k < L.length := by
    rcases Nat.lt_or_ge k L.length with h | h
    · exact h
    · rw [List.getElem?_eq_none h] at hx; cases hx
  obtain ⟨g, rfl, _⟩ := h0.addr (by omega)
  refine ⟨g, 0, rfl, fun W h => ?_⟩
  obtain ⟨a, b, o, c, h1, h2, h3⟩ := h.rd
  injection h1 with e1 _ _
  have e2 := e1.trans (h2 (by omega))
  injection e2 with e3
  injection e3 with e4 e5 _
  subst e4 e5
  obtain ⟨_, k1, k2, k3⟩ := h3 k hk x hx
  exact ⟨k1, k2, k3⟩
end Go.Proofs.Ytohilccbfdienaa

namespace Go.Proofs.Ytohilccbfdienaa
open Go.RowKit

theorem key_rest {T G : Prop} (rest : Hid T → G) (key : T) : G := rest (hide key)
end Go.Proofs.Ytohilccbfdienaa
