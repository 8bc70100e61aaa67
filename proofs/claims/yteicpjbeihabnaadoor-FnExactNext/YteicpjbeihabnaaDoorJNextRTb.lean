/-
  A Tables that came in.
-/
import Derived.Test.YteicpjbeihabnaaDoorJNextTb0
import Derived.Test.YteicpjbeihabnaaDoorJNextRB
import Derived.Test.YteicpjbeihabnaaDoorJNextRIIS
import Derived.Test.YteicpjbeihabnaaDoorJNextRTg
namespace Go.Proofs.YteicpjbeihabnaaDoor
open Go.ChangeShapes Go.WideShapes Go.ChangeAt Go.RowKit Go.Deep

theorem tb_of {H : Type} {enc : TypeId × Value → H} {P : Program} {w : World} {base : Nat} {held : Bool} {q tb tetb tetg ti tiis tstg u : TypeId} {ftb0 ftb1 ftb2 ftb3 ftb4 ftg0 ftg1 ftg2 : Field} (hq : P.underlying q = some (.int .i64)) (cq : P.cellsOf q = 1) (htstg : P.underlying tstg = some (.slice tetg)) (htb : P.underlying tb = some (.slice u)) (hu : P.underlying u = some (.int .u8)) (cu : P.cellsOf u = 1) (ctb : P.cellsOf tb = 1) (hetg : P.underlying tetg = some (.struct #[ftg0, ftg1, ftg2])) (cetg : P.cellsOf tetg = 3) (otg : ftg0.offset = 0 ∧ ftg1.offset = 1 ∧ ftg2.offset = 2) (ytg : ftg0.type = tb ∧ ftg1.type = q ∧ ftg2.type = q) (ctstg : P.cellsOf tstg = 1) (htiis : P.underlying tiis = some (.slice ti)) (hti : P.underlying ti = some (.slice q)) (cti : P.cellsOf ti = 1) (ctiis : P.cellsOf tiis = 1) (hetb : P.underlying tetb = some (.struct #[ftb0, ftb1, ftb2, ftb3, ftb4])) (cetb : P.cellsOf tetb = 5) (otb : ftb0.offset = 0 ∧ ftb1.offset = 1 ∧ ftb2.offset = 2 ∧ ftb3.offset = 3 ∧ ftb4.offset = 4) (ytb : ftb0.type = q ∧ ftb1.type = q ∧ ftb2.type = tstg ∧ ftb3.type = tiis ∧ ftb4.type = tiis) {fuel : Nat} {cs : List Value} {x : DataW H × List MemPlace}
    (h : DataW.trod enc P w base (fun _ => true) held fuel tetb cs = some x) : ∃ (d : Tb) (v2 v3 v4 : Value), cs = [.int .i64 d.w, .int .i64 d.h, v2, v3, v4] ∧ TbV w d v2 v3 v4 ∧ TbL d := by
  obtain ⟨o0, o1, o2, o3, o4⟩ := otb
  obtain ⟨y0, y1, y2, y3, y4⟩ := ytb
  obtain ⟨xs, n, hk, _, hlen, hxl, hf⟩ := DataW.trod_struct hetb h
  rw [cetb] at hlen
  match xs, hxl, cs, hlen with
  | [z0, z1, z2, z3, z4], _, [u0, u1, u2, u3, u4], _ =>
    have g0 := hf 0 ftb0 rfl
    have g1 := hf 1 ftb1 rfl
    have g2 := hf 2 ftb2 rfl
    have g3 := hf 3 ftb3 rfl
    have g4 := hf 4 ftb4 rfl
    rw [o0, y0, cq] at g0
    rw [o1, y1, cq] at g1
    rw [o2, y2, ctstg] at g2
    rw [o3, y3, ctiis] at g3
    rw [o4, y4, ctiis] at g4
    obtain ⟨l0, hl0, _, hb0⟩ := DataW.trod_int hq (x := z0) g0
    obtain ⟨l1, hl1, _, hb1⟩ := DataW.trod_int hq (x := z1) g1
    obtain ⟨l2, hl2, hb2⟩ := tgs_of htstg hq cq htb hu cu ctb hetg cetg otg ytg (x := z2) (v := u2) g2
    obtain ⟨l3, hl3, hb3⟩ := iis_of htiis hti hq cq cti (x := z3) (v := u3) g3
    obtain ⟨l4, hl4, hb4⟩ := iis_of htiis hti hq cq cti (x := z4) (v := u4) g4
    simp at hl0 hl1
    subst hl0 hl1
    exact ⟨⟨l0, l1, l2, l3, l4⟩, u2, u3, u4, rfl, ⟨hl2, hl3, hl4⟩, ⟨hb0, hb1, hb2, hb3, hb4⟩⟩
end Go.Proofs.YteicpjbeihabnaaDoor
