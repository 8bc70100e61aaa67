/-
  A Graph that came in.
-/
import Derived.Test.YtonhehndoifipabJReachGr0
import Derived.Test.YtonhehndoifipabJReachRB
namespace Go.Proofs.Ytonhehndoifipab
open Go.ChangeShapes Go.WideShapes Go.ChangeAt Go.RowKit Go.Deep

theorem gr_of {H : Type} {enc : TypeId × Value → H} {P : Program} {w : World} {base : Nat} {held : Bool} {q tegr ti : TypeId} {fgr0 fgr1 fgr2 fgr3 fgr4 : Field} (hq : P.underlying q = some (.int .i64)) (cq : P.cellsOf q = 1) (hti : P.underlying ti = some (.slice q)) (cti : P.cellsOf ti = 1) (hegr : P.underlying tegr = some (.struct #[fgr0, fgr1, fgr2, fgr3, fgr4])) (cegr : P.cellsOf tegr = 5) (ogr : fgr0.offset = 0 ∧ fgr1.offset = 1 ∧ fgr2.offset = 2 ∧ fgr3.offset = 3 ∧ fgr4.offset = 4) (ygr : fgr0.type = q ∧ fgr1.type = ti ∧ fgr2.type = ti ∧ fgr3.type = ti ∧ fgr4.type = ti) {fuel : Nat} {cs : List Value} {x : DataW H × List MemPlace}
    (h : DataW.trod enc P w base (fun _ => true) held fuel tegr cs = some x) : ∃ (d : Gr) (v1 v2 v3 v4 : Value), cs = [.int .i64 d.n, v1, v2, v3, v4] ∧ GrV w d v1 v2 v3 v4 ∧ GrL d := by
  obtain ⟨o0, o1, o2, o3, o4⟩ := ogr
  obtain ⟨y0, y1, y2, y3, y4⟩ := ygr
  obtain ⟨xs, n, hk, _, hlen, hxl, hf⟩ := DataW.trod_struct hegr h
  rw [cegr] at hlen
  match xs, hxl, cs, hlen with
  | [z0, z1, z2, z3, z4], _, [u0, u1, u2, u3, u4], _ =>
    have g0 := hf 0 fgr0 rfl
    have g1 := hf 1 fgr1 rfl
    have g2 := hf 2 fgr2 rfl
    have g3 := hf 3 fgr3 rfl
    have g4 := hf 4 fgr4 rfl
    rw [o0, y0, cq] at g0
    rw [o1, y1, cti] at g1
    rw [o2, y2, cti] at g2
    rw [o3, y3, cti] at g3
    rw [o4, y4, cti] at g4
    obtain ⟨l0, hl0, _, hb0⟩ := DataW.trod_int hq (x := z0) g0
    obtain ⟨l1, hl1, hb1⟩ := is_of hti hq cq (x := z1) (v := u1) g1
    obtain ⟨l2, hl2, hb2⟩ := is_of hti hq cq (x := z2) (v := u2) g2
    obtain ⟨l3, hl3, hb3⟩ := is_of hti hq cq (x := z3) (v := u3) g3
    obtain ⟨l4, hl4, hb4⟩ := is_of hti hq cq (x := z4) (v := u4) g4
    simp at hl0
    subst hl0
    exact ⟨⟨l0, l1, l2, l3, l4⟩, u1, u2, u3, u4, rfl, ⟨hl1, hl2, hl3, hl4⟩, ⟨hb0, hb1, hb2, hb3, hb4⟩⟩
end Go.Proofs.Ytonhehndoifipab
