/-
  A list of nodes that came in, as a tree.
-/
import Derived.Test.YtbjaccalloipcaaDoorJVtND6
import Derived.Test.YtbjaccalloipcaaDoorJVtR
import Derived.Deep.Slices
namespace Go.Proofs.YtbjaccalloipcaaDoor
open Go.ChangeShapes Go.WideShapes Go.ChangeAt Go.RowKit Go.Deep

theorem ss_of {H : Type} {enc : TypeId × Value → H} {P : Program} {w : World} {base : Nat} {held : Bool} {t e q : TypeId} (ht : P.underlying t = some (.slice e)) (he : P.underlying e = some (.slice q)) (hq : P.underlying q = some (.int .u8)) (hc : P.cellsOf e = 1) (hcq : P.cellsOf q = 1) {fuel : Nat} {v : Value} {x : DataW H × List MemPlace}
    (h : DataW.trod enc P w base (fun _ => true) held fuel t [v] = some x) : ∃ L : List ByteArray, SS w v L ∧ (L.length : Int) ≤ 9223372036854775807 ∧ ∀ j, j < L.length → ((L.getD j .empty).size : Int) ≤ 9223372036854775807 := by
  have mf := max_fits
  rcases open_slice1 ht hc h with ⟨hcs, _⟩ | ⟨a, len, cap, m, n, V, D, Pl, hcs, _, hl, hm, hmm, _, hx⟩
  · simp only [List.cons.injEq, and_true] at hcs
    exact ⟨[], ⟨none, 0, 0, 0, hcs, fun h => absurd h (by decide), fun j hj => absurd hj (Nat.not_lt_zero _)⟩, by simp, fun j hj => absurd hj (Nat.not_lt_zero _)⟩
  · simp only [List.cons.injEq, and_true] at hcs
    have hmc : m = cap := by simpa using hmm
    obtain ⟨S, hS⟩ := choose_lt (α := ByteArray) (n := len) (p := fun i s => BS w (V i) s ∧ (s.size : Int) ≤ 9223372036854775807) (fun i hi => bs_of he hq hcq (hx i (by omega)).2)
    have hlen : ((List.range len).map S).length = len := by simp
    by_cases h0 : len = 0
    · subst h0
      exact ⟨[], ⟨some a, 0, 0, cap, hcs, fun h => absurd h (by decide), fun j hj => absurd hj (Nat.not_lt_zero _)⟩, by simp, fun j hj => absurd hj (Nat.not_lt_zero _)⟩
    · obtain ⟨b, off, spot⟩ := a
      have hspot : spot = none := by simpa [Addr.add] using World.cell?_spot (hx 0 (by omega)).1
      subst hspot
      refine ⟨(List.range len).map S, ⟨_, b, off, cap, by rw [hcs, hlen], fun _ => rfl, fun j hj => ?_⟩, by omega, fun j hj => ?_⟩
      · rw [hlen] at hj
        refine ⟨V j, ?_, ?_⟩
        · rw [← Go.WideShapes.add_plain]; exact (hx j (by omega)).1
        · rw [range_getD S _ _ _ hj]; exact (hS j hj).1
      · rw [hlen] at hj
        rw [range_getD S _ _ _ hj]; exact (hS j hj).2

theorem ns_of {H : Type} {enc : TypeId × Value → H} {P : Program} {w : World} {base : Nat} {held : Bool} {t e tb ts ti q : TypeId} {f0 f1 f2 f3 f4 f5 : Field} (ht : P.underlying t = some (.slice e)) (he : P.underlying e = some (.struct #[f0, f1, f2, f3, f4, f5])) (ce : P.cellsOf e = 6)
    (o : f0.offset = 0 ∧ f1.offset = 1 ∧ f2.offset = 2 ∧ f3.offset = 3 ∧ f4.offset = 4 ∧ f5.offset = 5) (y : f0.type = q ∧ f1.type = q ∧ f2.type = tb ∧ f3.type = ts ∧ f4.type = ti ∧ f5.type = q)
    {u : TypeId} (hq : P.underlying q = some (.int .i64)) (hu : P.underlying u = some (.int .u8)) (htb : P.underlying tb = some (.slice u)) (hts : P.underlying ts = some (.slice tb)) (hti : P.underlying ti = some (.slice q))
    (cq : P.cellsOf q = 1) (cu : P.cellsOf u = 1) (ctb : P.cellsOf tb = 1) (cts : P.cellsOf ts = 1) (cti : P.cellsOf ti = 1) {fuel : Nat} {v : Value} {x : DataW H × List MemPlace}
    (h : DataW.trod enc P w base (fun _ => true) held fuel t [v] = some x) : ∃ L : List Nd, NS w v L ∧ (L.length : Int) ≤ 9223372036854775807 ∧ ∀ j, j < L.length → NL (L.getD j .zero) := by
  have mf := max_fits
  obtain ⟨o0, o1, o2, o3, o4, o5⟩ := o
  obtain ⟨y0, y1, y2, y3, y4, y5⟩ := y
  rcases open_slice ht h with ⟨hcs, _⟩ | ⟨a, len, cap, m, n, D, Pl, hcs, _, hl, hm, hmm, _, hx⟩
  · simp only [List.cons.injEq, and_true] at hcs
    exact ⟨[], ⟨none, 0, 0, 0, hcs, fun h => absurd h (by decide), fun j hj => absurd hj (Nat.not_lt_zero _)⟩, by simp, fun j hj => absurd hj (Nat.not_lt_zero _)⟩
  · simp only [List.cons.injEq, and_true] at hcs
    have hmc : m = cap := by simpa using hmm
    have each : ∀ i, i < len → ∃ d : Nd, ∃ vt vn vy, (w.cell? (a.add (i * 6)) = some (.int .i64 d.kind) ∧ w.cell? (a.add (i * 6 + 1)) = some (.int .i64 d.n) ∧ w.cell? (a.add (i * 6 + 2)) = some vt ∧ w.cell? (a.add (i * 6 + 3)) = some vn ∧ w.cell? (a.add (i * 6 + 4)) = some vy ∧ w.cell? (a.add (i * 6 + 5)) = some (.int .i64 d.count)) ∧ NV w d vt vn vy ∧ NL d := by
      intro i hi
      obtain ⟨cs', h1, h2⟩ := hx i (by omega)
      rw [ce] at h1
      obtain ⟨_, hlen, hcell⟩ := World.cells?_some h1
      obtain ⟨xs, k, hk, _, _, hxl, hf⟩ := DataW.trod_struct he h2
      match xs, hxl, cs', hlen with
      | [z0, z1, z2, z3, z4, z5], _, [v0, v1, v2, v3, v4, v5], _ =>
        have g0 := hf 0 f0 rfl
        have g1 := hf 1 f1 rfl
        have g2 := hf 2 f2 rfl
        have g3 := hf 3 f3 rfl
        have g4 := hf 4 f4 rfl
        have g5 := hf 5 f5 rfl
        rw [o0, y0, cq] at g0
        rw [o1, y1, cq] at g1
        rw [o2, y2, ctb] at g2
        rw [o3, y3, cts] at g3
        rw [o4, y4, cti] at g4
        rw [o5, y5, cq] at g5
        have e0 := hcell 0 (by omega)
        have e1 := hcell 1 (by omega)
        have e2 := hcell 2 (by omega)
        have e3 := hcell 3 (by omega)
        have e4 := hcell 4 (by omega)
        have e5 := hcell 5 (by omega)
        rw [add_add] at e0 e1 e2 e3 e4 e5
        obtain ⟨K, hK, _⟩ := DataW.trod_int hq (x := z0) g0
        obtain ⟨N, hN, _⟩ := DataW.trod_int hq (x := z1) g1
        obtain ⟨C, hC, _⟩ := DataW.trod_int hq (x := z5) g5
        obtain ⟨T, hT, hT2⟩ := bs_of htb hu cu (x := z2) (v := v2) g2
        obtain ⟨M, hM, hM2, hM3⟩ := ss_of hts htb hu ctb cu (x := z3) (v := v3) g3
        obtain ⟨Y, hY, hY2⟩ := is_of hti hq cq (x := z4) (v := v4) g4
        simp at hK hN hC
        subst hK hN hC
        refine ⟨⟨K, N, T, M, Y, C⟩, v2, v3, v4, ⟨by simpa using e0, by simpa using e1, by simpa using e2, by simpa using e3, by simpa using e4, by simpa using e5⟩, ⟨hT, hM, hY⟩, ?_⟩
        exact ⟨by show (T.size : Int) ≤ _; omega, by show (M.length : Int) ≤ _; omega, fun j hj => by have := hM3 j hj; show ((M.getD j .empty).size : Int) ≤ _; omega, by show (Y.length : Int) ≤ _; exact hY2.len⟩
    have : Inhabited Nd := ⟨.zero⟩
    obtain ⟨S, hS⟩ := choose_lt (α := Nd) each
    have hlen : ((List.range len).map S).length = len := by simp
    by_cases h0 : len = 0
    · subst h0
      exact ⟨[], ⟨some a, 0, 0, cap, hcs, fun h => absurd h (by decide), fun j hj => absurd hj (Nat.not_lt_zero _)⟩, by simp, fun j hj => absurd hj (Nat.not_lt_zero _)⟩
    · obtain ⟨b, off, spot⟩ := a
      have hspot : spot = none := by
        obtain ⟨_, _, _, hh, _⟩ := hS 0 (by omega)
        simpa [Addr.add] using World.cell?_spot hh.1
      subst hspot
      refine ⟨(List.range len).map S, ⟨_, b, off, cap, by rw [hcs, hlen], fun _ => rfl, fun j hj => ?_⟩, by omega, fun j hj => ?_⟩
      · rw [hlen] at hj
        rw [range_getD S _ _ _ hj]
        obtain ⟨vt, vn, vy, ⟨k0, k1, k2, k3, k4, k5⟩, hv, _⟩ := hS j hj
        simp only [Go.WideShapes.add_plain] at k0 k1 k2 k3 k4 k5
        exact ⟨vt, vn, vy, ⟨k0, k1, k2, k3, k4, k5⟩, hv⟩
      · rw [hlen] at hj
        rw [range_getD S _ _ _ hj]
        obtain ⟨_, _, _, _, _, hn⟩ := hS j hj
        exact hn
end Go.Proofs.YtbjaccalloipcaaDoor
