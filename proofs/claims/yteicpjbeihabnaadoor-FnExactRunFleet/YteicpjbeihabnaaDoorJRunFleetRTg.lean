/-
  A Target that came in.
  A Tables that came in.
  Robots that came in.
-/
import Derived.Test.YteicpjbeihabnaaDoorJRunFleetIIS0
import Derived.Test.YteicpjbeihabnaaDoorJRunFleetIRR
import Derived.Test.YteicpjbeihabnaaDoorJRunFleetTbMK
namespace Go.Proofs.YteicpjbeihabnaaDoor
open Go.ChangeShapes Go.WideShapes Go.ChangeAt Go.RowKit Go.Deep

theorem tg_of {H : Type} {enc : TypeId × Value → H} {P : Program} {w : World} {base : Nat} {held : Bool} {q tb tetg u : TypeId} {ftg0 ftg1 ftg2 : Field} (hq : P.underlying q = some (.int .i64)) (cq : P.cellsOf q = 1) (htb : P.underlying tb = some (.slice u)) (hu : P.underlying u = some (.int .u8)) (cu : P.cellsOf u = 1) (ctb : P.cellsOf tb = 1) (hetg : P.underlying tetg = some (.struct #[ftg0, ftg1, ftg2])) (cetg : P.cellsOf tetg = 3) (otg : ftg0.offset = 0 ∧ ftg1.offset = 1 ∧ ftg2.offset = 2) (ytg : ftg0.type = tb ∧ ftg1.type = q ∧ ftg2.type = q) {fuel : Nat} {cs : List Value} {x : DataW H × List MemPlace}
    (h : DataW.trod enc P w base (fun _ => true) held fuel tetg cs = some x) : ∃ (d : Tg) (v0 : Value), cs = [v0, .int .i64 d.kind, .int .i64 d.cell] ∧ TgV w d v0 ∧ TgL d := by
  obtain ⟨o0, o1, o2⟩ := otg
  obtain ⟨y0, y1, y2⟩ := ytg
  obtain ⟨xs, n, hk, _, hlen, hxl, hf⟩ := DataW.trod_struct hetg h
  rw [cetg] at hlen
  match xs, hxl, cs, hlen with
  | [z0, z1, z2], _, [u0, u1, u2], _ =>
    have g0 := hf 0 ftg0 rfl
    have g1 := hf 1 ftg1 rfl
    have g2 := hf 2 ftg2 rfl
    rw [o0, y0, ctb] at g0
    rw [o1, y1, cq] at g1
    rw [o2, y2, cq] at g2
    obtain ⟨l0, hl0, hb0⟩ := bs_of htb hu cu (x := z0) (v := u0) g0
    obtain ⟨l1, hl1, _, hb1⟩ := DataW.trod_int hq (x := z1) g1
    obtain ⟨l2, hl2, _, hb2⟩ := DataW.trod_int hq (x := z2) g2
    simp at hl1 hl2
    subst hl1 hl2
    exact ⟨⟨l0, l1, l2⟩, u0, rfl, ⟨hl0⟩, ⟨hb0, hb1, hb2⟩⟩

theorem tgs_of {H : Type} {enc : TypeId × Value → H} {P : Program} {w : World} {base : Nat} {held : Bool} {tstg q tb tetg u : TypeId} {ftg0 ftg1 ftg2 : Field} (htstg : P.underlying tstg = some (.slice tetg)) (hq : P.underlying q = some (.int .i64)) (cq : P.cellsOf q = 1) (htb : P.underlying tb = some (.slice u)) (hu : P.underlying u = some (.int .u8)) (cu : P.cellsOf u = 1) (ctb : P.cellsOf tb = 1) (hetg : P.underlying tetg = some (.struct #[ftg0, ftg1, ftg2])) (cetg : P.cellsOf tetg = 3) (otg : ftg0.offset = 0 ∧ ftg1.offset = 1 ∧ ftg2.offset = 2) (ytg : ftg0.type = tb ∧ ftg1.type = q ∧ ftg2.type = q) {fuel : Nat} {v : Value} {x : DataW H × List MemPlace}
    (h : DataW.trod enc P w base (fun _ => true) held fuel tstg [v] = some x) : ∃ L : List Tg, TgS w v L ∧ TgSL L := by
  have mf := max_fits
  rcases open_slice htstg h with ⟨hcs, _⟩ | ⟨a, len, cap, m, n, D, Pl, hcs, _, hl, hm, hmm, _, hx⟩
  · simp only [List.cons.injEq, and_true] at hcs
    exact ⟨[], ⟨none, 0, 0, 0, hcs, fun h => absurd h (by decide), fun j hj => absurd hj (Nat.not_lt_zero _)⟩, ⟨by simp, fun j hj => absurd hj (Nat.not_lt_zero _)⟩⟩
  · simp only [List.cons.injEq, and_true] at hcs
    have hmc : m = cap := by simpa using hmm
    have each : ∀ i, i < len → ∃ d : Tg, ∃ v0, (w.cell? (a.add (i * 3)) = some v0 ∧ w.cell? (a.add (i * 3 + 1)) = some (.int .i64 d.kind) ∧ w.cell? (a.add (i * 3 + 2)) = some (.int .i64 d.cell)) ∧ TgV w d v0 ∧ TgL d := by
      intro i hi
      obtain ⟨cs', h1, h2⟩ := hx i (by omega)
      rw [cetg] at h1
      obtain ⟨_, hlen, hcell⟩ := World.cells?_some h1
      obtain ⟨d, v0, rfl, hv, hL⟩ := tg_of hq cq htb hu cu ctb hetg cetg otg ytg h2
      have e0 := hcell 0 (by omega)
      have e1 := hcell 1 (by omega)
      have e2 := hcell 2 (by omega)
      rw [add_add] at e0 e1 e2
      exact ⟨d, v0, ⟨by simpa using e0, by simpa using e1, by simpa using e2⟩, hv, hL⟩
    have : Inhabited Tg := ⟨.zero⟩
    obtain ⟨S, hS⟩ := choose_lt (α := Tg) each
    have hlen : ((List.range len).map S).length = len := by simp
    by_cases h0 : len = 0
    · subst h0
      exact ⟨[], ⟨some a, 0, 0, cap, hcs, fun h => absurd h (by decide), fun j hj => absurd hj (Nat.not_lt_zero _)⟩, ⟨by simp, fun j hj => absurd hj (Nat.not_lt_zero _)⟩⟩
    · obtain ⟨b, off, spot⟩ := a
      have hspot : spot = none := by
        obtain ⟨_, hh, _⟩ := hS 0 (by omega)
        simpa [Addr.add] using World.cell?_spot hh.1
      subst hspot
      refine ⟨(List.range len).map S, ⟨_, b, off, cap, by rw [hcs, hlen], fun _ => rfl, fun j hj => ?_⟩, ⟨by omega, fun j hj => ?_⟩⟩
      · rw [hlen] at hj
        rw [range_getD S _ _ _ hj]
        obtain ⟨v0, ⟨k0, k1, k2⟩, hv, _⟩ := hS j hj
        simp only [Go.WideShapes.add_plain] at k0 k1 k2
        exact ⟨v0, ⟨k0, k1, k2⟩, hv⟩
      · rw [hlen] at hj
        rw [range_getD S _ _ _ hj]
        obtain ⟨_, _, _, hn⟩ := hS j hj
        exact hn
end Go.Proofs.YteicpjbeihabnaaDoor

namespace Go.Proofs.YteicpjbeihabnaaDoor
open Go.ChangeShapes Go.WideShapes Go.ChangeAt Go.RowKit Go.Deep

theorem tb_of {H : Type} {enc : TypeId × Value → H} {P : Program} {w : World} {base : Nat} {held : Bool} {q tb tetb tetg ti tiis tstg u : TypeId} {ftb0 ftb1 ftb2 ftb3 ftb4 ftg0 ftg1 ftg2 : Field} (hq : P.underlying q = some (.int .i64)) (cq : P.cellsOf q = 1) (htstg : P.underlying tstg = some (.slice tetg)) (htb : P.underlying tb = some (.slice u)) (hu : P.underlying u = some (.int .u8)) (cu : P.cellsOf u = 1) (ctb : P.cellsOf tb = 1) (hetg : P.underlying tetg = some (.struct #[ftg0, ftg1, ftg2])) (cetg : P.cellsOf tetg = 3) (otg : ftg0.offset = 0 ∧ ftg1.offset = 1 ∧ ftg2.offset = 2) (ytg : ftg0.type = tb ∧ ftg1.type = q ∧ ftg2.type = q) (ctstg : P.cellsOf tstg = 1) (htiis : P.underlying tiis = some (.slice ti)) (hti : P.underlying ti = some (.slice q)) (cti : P.cellsOf ti = 1) (ctiis : P.cellsOf tiis = 1) (hetb : P.underlying tetb = some (.struct #[ftb0, ftb1, ftb2, ftb3, ftb4])) (cetb : P.cellsOf tetb = 5) (otb : ftb0.offset = 0 ∧ ftb1.offset = 1 ∧ ftb2.offset = 2 ∧ ftb3.offset = 3 ∧ ftb4.offset = 4) (ytb : ftb0.type = q ∧ ftb1.type = q ∧ ftb2.type = tstg ∧ ftb3.type = tiis ∧ ftb4.type = tiis) {fuel : Nat} {cs : List Value} {x : DataW H × List MemPlace}
    (h : DataW.trod enc P w base (fun _ => true) held fuel tetb cs = some x) : ∃ (d : Tb) (v2 v3 v4 : Value), cs = [.int .i64 d.w, .int .i64 d.h, v2, v3, v4] ∧ TbV w d v2 v3 v4 ∧ TbL d := by
  obtain ⟨o0, o1, o2, o3, o4⟩ := otb
  obtain ⟨y0, y1, y2, y3, y4⟩ := ytb
  obtain ⟨xs, n, hk, _, hlen, hxl, hf⟩ := DataW.trod_struct hetb h
  rw [cetb] at hlen
  match xs, hxl, cs, hlen with
  | [z0, z1, z2, z3, z4], _, [u0, u1, u2, u3, u4], _ =>
    have g0 := hf 0 ftb0 rfl
    have g1 := hf 1 ftb1 rfl
    have g2 := hf 2 ftb2 rfl
    have g3 := hf 3 ftb3 rfl
    have g4 := hf 4 ftb4 rfl
    rw [o0, y0, cq] at g0
    rw [o1, y1, cq] at g1
    rw [o2, y2, ctstg] at g2
    rw [o3, y3, ctiis] at g3
    rw [o4, y4, ctiis] at g4
    obtain ⟨l0, hl0, _, hb0⟩ := DataW.trod_int hq (x := z0) g0
    obtain ⟨l1, hl1, _, hb1⟩ := DataW.trod_int hq (x := z1) g1
    obtain ⟨l2, hl2, hb2⟩ := tgs_of htstg hq cq htb hu cu ctb hetg cetg otg ytg (x := z2) (v := u2) g2
    obtain ⟨l3, hl3, hb3⟩ := iis_of htiis hti hq cq cti (x := z3) (v := u3) g3
    obtain ⟨l4, hl4, hb4⟩ := iis_of htiis hti hq cq cti (x := z4) (v := u4) g4
    simp at hl0 hl1
    subst hl0 hl1
    exact ⟨⟨l0, l1, l2, l3, l4⟩, u2, u3, u4, rfl, ⟨hl2, hl3, hl4⟩, ⟨hb0, hb1, hb2, hb3, hb4⟩⟩
end Go.Proofs.YteicpjbeihabnaaDoor

namespace Go.Proofs.YteicpjbeihabnaaDoor
open Go.ChangeShapes Go.WideShapes Go.ChangeAt Go.RowKit Go.Deep

theorem ro_of {H : Type} {enc : TypeId × Value → H} {P : Program} {w : World} {base : Nat} {held : Bool} {q qb tero : TypeId} {fro0 fro1 fro2 fro3 fro4 : Field} (hq : P.underlying q = some (.int .i64)) (cq : P.cellsOf q = 1) (hqb : P.underlying qb = some .bool) (cqb : P.cellsOf qb = 1) (hero : P.underlying tero = some (.struct #[fro0, fro1, fro2, fro3, fro4])) (cero : P.cellsOf tero = 5) (oro : fro0.offset = 0 ∧ fro1.offset = 1 ∧ fro2.offset = 2 ∧ fro3.offset = 3 ∧ fro4.offset = 4) (yro : fro0.type = q ∧ fro1.type = q ∧ fro2.type = q ∧ fro3.type = q ∧ fro4.type = qb) {fuel : Nat} {cs : List Value} {x : DataW H × List MemPlace}
    (h : DataW.trod enc P w base (fun _ => true) held fuel tero cs = some x) : ∃ d : Ro, cs = [.int .i64 d.cell, .int .i64 d.target, .int .i64 d.moves, .int .i64 d.waits, .bool d.done] ∧ W64 d.cell ∧ W64 d.target ∧ W64 d.moves ∧ W64 d.waits := by
  obtain ⟨o0, o1, o2, o3, o4⟩ := oro
  obtain ⟨y0, y1, y2, y3, y4⟩ := yro
  obtain ⟨xs, n, hk, _, hlen, hxl, hf⟩ := DataW.trod_struct hero h
  rw [cero] at hlen
  match xs, hxl, cs, hlen with
  | [z0, z1, z2, z3, z4], _, [u0, u1, u2, u3, u4], _ =>
    have g0 := hf 0 fro0 rfl
    have g1 := hf 1 fro1 rfl
    have g2 := hf 2 fro2 rfl
    have g3 := hf 3 fro3 rfl
    have g4 := hf 4 fro4 rfl
    rw [o0, y0, cq] at g0
    rw [o1, y1, cq] at g1
    rw [o2, y2, cq] at g2
    rw [o3, y3, cq] at g3
    rw [o4, y4, cqb] at g4
    obtain ⟨l0, hl0, _, hb0⟩ := DataW.trod_int hq (x := z0) g0
    obtain ⟨l1, hl1, _, hb1⟩ := DataW.trod_int hq (x := z1) g1
    obtain ⟨l2, hl2, _, hb2⟩ := DataW.trod_int hq (x := z2) g2
    obtain ⟨l3, hl3, _, hb3⟩ := DataW.trod_int hq (x := z3) g3
    obtain ⟨l4, hl4, _⟩ := DataW.trod_bool hqb (x := z4) g4
    simp at hl0 hl1 hl2 hl3 hl4
    subst hl0 hl1 hl2 hl3 hl4
    exact ⟨⟨l0, l1, l2, l3, l4⟩, rfl, hb0, hb1, hb2, hb3⟩

theorem ros_of {H : Type} {enc : TypeId × Value → H} {P : Program} {w : World} {base : Nat} {held : Bool} {tsro q qb tero : TypeId} {fro0 fro1 fro2 fro3 fro4 : Field} (htsro : P.underlying tsro = some (.slice tero)) (hq : P.underlying q = some (.int .i64)) (cq : P.cellsOf q = 1) (hqb : P.underlying qb = some .bool) (cqb : P.cellsOf qb = 1) (hero : P.underlying tero = some (.struct #[fro0, fro1, fro2, fro3, fro4])) (cero : P.cellsOf tero = 5) (oro : fro0.offset = 0 ∧ fro1.offset = 1 ∧ fro2.offset = 2 ∧ fro3.offset = 3 ∧ fro4.offset = 4) (yro : fro0.type = q ∧ fro1.type = q ∧ fro2.type = q ∧ fro3.type = q ∧ fro4.type = qb) {fuel : Nat} {v : Value} {x : DataW H × List MemPlace}
    (h : DataW.trod enc P w base (fun _ => true) held fuel tsro [v] = some x) : ∃ L : List Ro, RoS w v L ∧ RoL L := by
  have mf := max_fits
  rcases open_slice htsro h with ⟨hcs, _⟩ | ⟨a, len, cap, m, n, D, Pl, hcs, _, hl, hm, hmm, _, hx⟩
  · simp only [List.cons.injEq, and_true] at hcs
    exact ⟨[], ⟨none, 0, 0, 0, hcs, fun h => absurd h (by decide), fun j hj => absurd hj (Nat.not_lt_zero _)⟩, ⟨by simp, fun j hj => absurd hj (Nat.not_lt_zero _), fun j hj => absurd hj (Nat.not_lt_zero _), fun j hj => absurd hj (Nat.not_lt_zero _), fun j hj => absurd hj (Nat.not_lt_zero _)⟩⟩
  · simp only [List.cons.injEq, and_true] at hcs
    have hmc : m = cap := by simpa using hmm
    have each : ∀ i, i < len → ∃ d : Ro, (w.cell? (a.add (i * 5)) = some (.int .i64 d.cell) ∧ w.cell? (a.add (i * 5 + 1)) = some (.int .i64 d.target) ∧ w.cell? (a.add (i * 5 + 2)) = some (.int .i64 d.moves) ∧ w.cell? (a.add (i * 5 + 3)) = some (.int .i64 d.waits) ∧ w.cell? (a.add (i * 5 + 4)) = some (.bool d.done)) ∧ W64 d.cell ∧ W64 d.target ∧ W64 d.moves ∧ W64 d.waits := by
      intro i hi
      obtain ⟨cs', h1, h2⟩ := hx i (by omega)
      rw [cero] at h1
      obtain ⟨_, hlen, hcell⟩ := World.cells?_some h1
      obtain ⟨d, rfl, hL⟩ := ro_of hq cq hqb cqb hero cero oro yro h2
      have e0 := hcell 0 (by omega)
      have e1 := hcell 1 (by omega)
      have e2 := hcell 2 (by omega)
      have e3 := hcell 3 (by omega)
      have e4 := hcell 4 (by omega)
      rw [add_add] at e0 e1 e2 e3 e4
      exact ⟨d, ⟨by simpa using e0, by simpa using e1, by simpa using e2, by simpa using e3, by simpa using e4⟩, hL⟩
    have : Inhabited Ro := ⟨.zero⟩
    obtain ⟨S, hS⟩ := choose_lt (α := Ro) each
    have hlen : ((List.range len).map S).length = len := by simp
    by_cases h0 : len = 0
    · subst h0
      exact ⟨[], ⟨some a, 0, 0, cap, hcs, fun h => absurd h (by decide), fun j hj => absurd hj (Nat.not_lt_zero _)⟩, ⟨by simp, fun j hj => absurd hj (Nat.not_lt_zero _), fun j hj => absurd hj (Nat.not_lt_zero _), fun j hj => absurd hj (Nat.not_lt_zero _), fun j hj => absurd hj (Nat.not_lt_zero _)⟩⟩
    · obtain ⟨b, off, spot⟩ := a
      have hspot : spot = none := by
        obtain ⟨hh, _⟩ := hS 0 (by omega)
        simpa [Addr.add] using World.cell?_spot hh.1
      subst hspot
      refine ⟨(List.range len).map S, ⟨_, b, off, cap, by rw [hcs, hlen], fun _ => rfl, fun j hj => ?_⟩, ⟨by omega, fun j hj => ?_, fun j hj => ?_, fun j hj => ?_, fun j hj => ?_⟩⟩
      · rw [hlen] at hj
        rw [range_getD S _ _ _ hj]
        obtain ⟨⟨k0, k1, k2, k3, k4⟩, _⟩ := hS j hj
        simp only [Go.WideShapes.add_plain] at k0 k1 k2 k3 k4
        exact ⟨k0, k1, k2, k3, k4⟩
      all_goals
        rw [hlen] at hj
        rw [range_getD S _ _ _ hj]
        obtain ⟨_, h1, h2, h3, h4⟩ := hS j hj
        assumption
end Go.Proofs.YteicpjbeihabnaaDoor
