/-
  The walk of impl.Walk.
-/
import Derived.Test.YteicpjbeihabnaaDoorJWalkINX
import Derived.Test.YteicpjbeihabnaaDoorJWalkWK
import Derived.Test.YteicpjbeihabnaaDoorJWalkAP
import Derived.Deep.LoopGhost
namespace Go.Proofs.YteicpjbeihabnaaDoor
open Go.RowKit

/-- A row of the call's own, with its block. -/
theorem own_if {w0 w : World} {B : Nat} {v : Value} {l : List Int} (h : w.ownsRow B 3 1 v l.length (ci l)) (hB : w0.heap.size ≤ B) : ∃ bl, IF w v l bl ∧ Fr w0 w bl := by
  rcases h.2 with ⟨hv, h0⟩ | ⟨g, c, cur, hv, hb, hg, _⟩
  · have e : l = [] := List.length_eq_zero_iff.1 h0
    subst e
    exact ⟨[], ⟨none, 0, 0, 0, hv, fun h => absurd h (Nat.not_lt_zero _), rfl, fun j hj => absurd hj (Nat.not_lt_zero _)⟩, ⟨List.nodup_nil, (fun x hx => nomatch hx), (fun x hx => nomatch hx)⟩⟩
  · have hlt : g < w.heap.size := (Array.getElem?_eq_some_iff.1 hg).1
    refine ⟨_, ⟨some ⟨g, 0, none⟩, g, 0, c, hv, fun _ => rfl, rfl, fun j hj => ?_⟩, Fr.one (by omega) hlt _⟩
    rw [hv] at h
    rw [Nat.zero_add]
    refine ⟨?_, ?_⟩
    · rw [h.cellAt j (by omega)]
      simp [ci, List.getD, hj]
    · exact Blk.frozen hg j

/-- What comes next, and its code. -/
def nxP (d : Tb) (i c : Nat) : Value := .tuple #[.int .i64 (nxA d i c), .int .i64 (nxB d i c)]

set_option maxHeartbeats 4000000 in
set_option maxRecDepth 1000000 in
theorem implWalk_any (d : Tb) (v2 v3 v4 : Value) (tg ce : Int) (w : World) (hb : TbB d) (hd : TbL d) (hmv : MvOk w) (hT : Lib.Utf8Tabs 2 3 w) (h : TbV w d v2 v3 v4) :
    Calls Tryd.prog 19 #[tbagg d v2 v3 v4, .int .i64 tg, .int .i64 ce] w fun e w' => ∃ v bl, e = .returned (.tuple #[v, .int .i64 (wkC tg ce d)]) ∧ IF w' v (wkF tg ce d) bl ∧ Fr w w' bl ∧ Below w.heap.size w w' := by
  have HVT := hide (fun V (hV : Below w.heap.size w V) => validTrip_any d v2 v3 v4 tg ce V hb hd (hmv.below hV) (Utf8Tabs_below hT hV) (h.below hV))
  have HNX := hide (fun V (i c : Nat) (hV : Below w.heap.size w V) hok hi hc => nextCell_any d v2 v3 v4 i c V hb (h.below hV) hok hi hc (hmv.below hV))
  obtain ⟨a2, c2, rfl⟩ := h.targets.slice
  obtain ⟨a3, c3, rfl⟩ := h.dist.slice
  obtain ⟨a4, c4, rfl⟩ := h.hop.slice
  clear h hb hd hmv hT
  unfold tbagg at HVT HNX ⊢
  obtain ⟨X, Y, T, Ds, Hs⟩ := d
  simp only at HVT HNX ⊢
  obtain ⟨W0, hW0⟩ : ∃ W, w.alloc (.cells #[.int .i64 X, .int .i64 Y, .slice a2 T.length c2, .slice a3 Ds.length c3, .slice a4 Hs.length c4] 31) = W := ⟨_, rfl⟩
  have hB0 : Below w.heap.size w W0 := by rw [← hW0]; exact (Below.refl _ _).alloc (Nat.le_refl _) _
  have hA0 : Blk W0 w.heap.size 31 #[.int .i64 X, .int .i64 Y, .slice a2 T.length c2, .slice a3 Ds.length c3, .slice a4 Hs.length c4] := by rw [← hW0]; exact Blk.new _ _ _
  have z0 := hA0.cell 0
  have z1 := hA0.cell 1
  have z2 := hA0.cell 2
  have z3 := hA0.cell 3
  have z4 := hA0.cell 4
  simp only [List.getElem?_toArray, List.getElem?_cons_succ, List.getElem?_cons_zero] at z0 z1 z2 z3 z4
  have HB := hide hB0
  have HTC := hide (HVT.out W0 hB0)
  have hW := hW0
  clear hW0 hB0 hA0 HVT
  go_enter Tryd.func19, Tryd.ntmps19
  go_wp2_with fail
  refine HTC.out.mono ?_
  rintro e w1 ⟨⟨tb, rfl, hti⟩, hb1⟩
  have HTI := hide hti
  have HB1 : Hid (Below w.heap.size w w1) := HB.out.trans (hb1.mono HB.out.size)
  have y0 := cell_kept z0 hb1
  have y1 := cell_kept z1 hb1
  have y2 := cell_kept z2 hb1
  have y3 := cell_kept z3 hb1
  have y4 := cell_kept z4 hb1
  clear hti hb1 z0 z1 z2 z3 z4 hW HTC
  cases tb with
  | false =>
    have HR : Hid (¬ NxIn ⟨X, Y, T, Ds, Hs⟩ tg ce) := fun h => by have := HTI.out.2 h; cases this
    go_wp2
    go_ret2
    rw [wkF_no HR.out, wkC_no HR.out]
    exact ⟨_, [], rfl, if_nil _ 0, ⟨List.nodup_nil, (fun x hx => nomatch hx), (fun x hx => nomatch hx)⟩, HB1.out⟩
  | true =>
  have HIN := hide (HTI.out.1 rfl)
  obtain ⟨q0, q1, q2, q3, q4⟩ := HIN.out
  have HOK := hide q0
  simp only at q2 q4
  obtain ⟨i, rfl⟩ : ∃ i : Nat, tg = i := ⟨tg.toNat, by omega⟩
  obtain ⟨c, rfl⟩ : ∃ c : Nat, ce = c := ⟨ce.toNat, by omega⟩
  have hcn : (c : Int) < X * Y := q4
  have hiT : i < T.length := by omega
  have HNV := hide (fun V (c : Nat) (hV : Below w.heap.size w V) (hc : (c : Int) < X * Y) => HNX.out V i c hV HOK.out hiT hc)
  clear q0 q1 q2 q3 q4 HNX HTI
  have hb2 : Below w1.heap.size w1 (w1.alloc (.cells #[.int .i64 c] 3)) := (Below.refl _ _).alloc (Nat.le_refl _) _
  obtain ⟨w2, hw2⟩ : ∃ W, w1.alloc (.cells #[.int .i64 c] 3) = W := ⟨_, rfl⟩
  have HRW : Hid (w2.ownsRow w1.heap.size 3 1 (.slice (some ⟨w1.heap.size, 0, none⟩) 1 1) [(c : Int)].length (ci [(c : Int)])) := by rw [← hw2]; exact World.ownsRow_lit _ _ 1 (Nat.le_refl _) (by decide) rfl
  rw [hw2] at hb2
  have HBN := hide hb2
  have HB2 : Hid (Below w.heap.size w w2) := HB1.out.trans (hb2.mono HB1.out.size)
  have x0 := cell_kept y0 hb2
  have x1 := cell_kept y1 hb2
  have x2 := cell_kept y2 hb2
  have x3 := cell_kept y3 hb2
  have x4 := cell_kept y4 hb2
  have HC2 := hide (HNV.out w2 c HB2.out hcn)
  clear hb2
  go_wp2_with fail
  refine HC2.out.mono ?_
  rintro e w3 ⟨rfl, hb3⟩
  have HB3 : Hid (Below w1.heap.size w1 w3) := HBN.out.trans (hb3.mono HBN.out.size)
  have HO3 := hide (kept_i HRW.out hb3)
  have hs13 : w.heap.size ≤ w1.heap.size := HB1.out.size
  clear hb3 x0 x1 x2 x3 x4 hw2 HRW
  obtain ⟨R, hR⟩ : ∃ R, wk ⟨X, Y, T, Ds, Hs⟩ i c = R := ⟨_, rfl⟩
  have HR := hide hR
  clear hR
  go_wp2
  go_loopw [8, 9, 10] (fun ox nx cx wr => ∃ (b : Nat) (P : List Int), (b : Int) < X * Y ∧ nx = .int .i64 (nxA ⟨X, Y, T, Ds, Hs⟩ i b) ∧ cx = .int .i64 (nxB ⟨X, Y, T, Ds, Hs⟩ i b) ∧ wr.ownsRow w1.heap.size 3 1 ox (P ++ [(b : Int)]).length (ci (P ++ [(b : Int)])) ∧ P.length + (wk ⟨X, Y, T, Ds, Hs⟩ i b).1.length ≤ 65536 ∧ R = (P ++ (wk ⟨X, Y, T, Ds, Hs⟩ i b).1, (wk ⟨X, Y, T, Ds, Hs⟩ i b).2) ∧ Below w1.heap.size w1 wr) (fun _ nx cx _ => if intOf cx = 0 then ((Ds.getD i []).getD (intOf nx).toNat 0).toNat + 1 else 0)
  case atStart => exact ⟨c, [], hcn, rfl, rfl, HO3.out, by have := wk_len ⟨X, Y, T, Ds, Hs⟩ i c; simpa using this, by rw [HR.out]; rfl, HB3.out⟩
  case round =>
    obtain ⟨b, P, hbn, rfl, rfl, hown, hlen, hRR, hbl⟩ := hrel
    rename World => V
    have HO := hide hown
    have HLE := hide hlen
    have HRR := hide hRR
    have HBV1 := hide hbl
    have HBE : Hid (Below w.heap.size w V) := HB1.out.trans (HBV1.out.mono HB1.out.size)
    have HNXT := hide (HOK.out.next (c := b) hiT hbn)
    have HSTP := hide (wk_step HOK.out (c := b) hiT hbn)
    have hcs := nxB_cases ⟨X, Y, T, Ds, Hs⟩ i b
    obtain ⟨nb, hnb⟩ : ∃ z, nxB ⟨X, Y, T, Ds, Hs⟩ i b = z := ⟨_, rfl⟩
    obtain ⟨na, hna⟩ : ∃ z, nxA ⟨X, Y, T, Ds, Hs⟩ i b = z := ⟨_, rfl⟩
    simp only [hnb, hna] at HNXT HSTP hcs ⊢
    have HWS : Hid (¬ nb = 0 → wk ⟨X, Y, T, Ds, Hs⟩ i b = ([(b : Int)], if nb = 11 then 0 else 10)) := fun h => by
      have := wk_stop (d := ⟨X, Y, T, Ds, Hs⟩) (i := i) (c := b) (by rw [hnb]; exact h)
      rw [hnb] at this
      exact this
    clear hown hlen hRR hbl hnb hna hbn
    rcases hcs with ⟨rfl, -⟩ | ⟨rfl, -⟩ | ⟨rfl, -, -, -⟩
    · have HE : Hid (wk ⟨X, Y, T, Ds, Hs⟩ i c = (P ++ [(b : Int)], 0)) := by
        show _ = _
        rw [HR.out, HRR.out, HWS.out (by decide)]
        rfl
      have HI5 := hide (own_if HO.out hs13)
      go_wp2
      go_ret2
      rw [wkF_yes HIN.out, wkC_yes HIN.out, HE.out]
      obtain ⟨bl, hI, hF⟩ := HI5.out
      first | exact ⟨_, bl, rfl, hI, hF, HBE.out⟩ | exact ⟨_, rfl, bl, hI, hF, HBE.out⟩ | exact ⟨_, rfl, ⟨bl, hI, hF⟩, HBE.out⟩
    · have HE : Hid (wk ⟨X, Y, T, Ds, Hs⟩ i c = (P ++ [(b : Int)], 10)) := by
        show _ = _
        rw [HR.out, HRR.out, HWS.out (by decide)]
        rfl
      have HI5 := hide (own_if HO.out hs13)
      go_wp2
      go_ret2
      rw [wkF_yes HIN.out, wkC_yes HIN.out, HE.out]
      obtain ⟨bl, hI, hF⟩ := HI5.out
      first | exact ⟨_, bl, rfl, hI, hF, HBE.out⟩ | exact ⟨_, rfl, bl, hI, hF, HBE.out⟩ | exact ⟨_, rfl, ⟨bl, hI, hF⟩, HBE.out⟩
    · obtain ⟨n0, n1, n2, n3⟩ := HNXT.out rfl
      obtain ⟨m, rfl⟩ : ∃ m : Nat, na = m := ⟨na.toNat, by omega⟩
      have HN1 : Hid ((m : Int) < X * Y) := n1
      have HST := hide (HSTP.out rfl)
      clear n0 n1 n2 n3
      obtain ⟨Z, hZ⟩ : ∃ Z, P ++ [(b : Int)] = Z := ⟨_, rfl⟩
      have HZ := hide hZ
      rw [hZ] at HO
      have HZL : Hid (Z.length ≤ 65536) := by
        show _ ≤ _
        have h1 := HLE.out
        rw [HST.out] at h1
        rw [← hZ]
        simp only [List.length_append, List.length_cons, List.length_nil] at h1 ⊢
        omega
      clear hZ
      have hw25 : w1.heap.size ≤ V.heap.size := HBV1.out.size
      go_wp2_with (at_builtin; refine wp_app_i rfl _ _ rfl w1.heap.size _ Z rfl (HO.out.alloc _) V.heap.size 1 [(m : Int)] rfl ?n1 ?l1 ?b1 ?_)
      case l1 => have := HZL.out; first | omega | (simp; omega)
      case b1 => first | omega | (simp; omega)
      intro v' w6 l hl6 ho hg
      have HO6 := hide ho
      have HB6 : Hid (Below w1.heap.size w1 w6) := app_below_i (HBV1.out.alloc hw25 _) (HO.out.alloc _) (by simp; omega) hg
      have HL6 := hl6
      have HBE6 : Hid (Below w.heap.size w w6) := HB1.out.trans (HB6.out.mono HB1.out.size)
      have x0 := cell_kept y0 HB6.out
      have x1 := cell_kept y1 HB6.out
      have x2 := cell_kept y2 HB6.out
      have x3 := cell_kept y3 HB6.out
      have x4 := cell_kept y4 HB6.out
      have HC6 := hide (HNV.out w6 m HBE6.out HN1.out)
      clear ho hg hl6
      go_wp2_with fail
      refine HC6.out.mono ?_
      rintro e w7 ⟨rfl, hb7⟩
      have HB7 : Hid (Below w1.heap.size w1 w7) := HB6.out.trans (hb7.mono HB6.out.size)
      have HO7 := hide (kept_i HO6.out hb7)
      clear hb7 x0 x1 x2 x3 x4
      go_wp2
      go_roundw
      case rel =>
        refine ⟨m, Z, HN1.out, rfl, rfl, by rw [← HL6.out]; exact HO7.out, ?_, ?_, HB7.out⟩
        · have h1 := HLE.out
          rw [HST.out, Int.toNat_natCast] at h1
          rw [← HZ.out]
          simp only [List.length_append, List.length_cons, List.length_nil] at h1 ⊢
          omega
        · rw [HRR.out, HST.out, Int.toNat_natCast, ← HZ.out]
          simp
      case measure =>
        simp only [intOf, Int.toNat_natCast]
        by_cases e : nxB ⟨X, Y, T, Ds, Hs⟩ i m = 0
        · have h3 := HOK.out.next (c := m) hiT HN1.out e
          simp only at h3
          simp only [e, ↓reduceIte]
          omega
        · simp only [e, ↓reduceIte]
          omega
end Go.Proofs.YteicpjbeihabnaaDoor
