/-
  The walk of spec.Walk.
-/
import Derived.Test.YteicpjbeihabnaaDoorJWalkSNX
import Derived.Test.YteicpjbeihabnaaDoorJWalkWK
import Derived.Test.YteicpjbeihabnaaDoorJWalkAP
import Derived.Deep.LoopGhost
namespace Go.Proofs.YteicpjbeihabnaaDoor
open Go.RowKit

set_option maxHeartbeats 4000000 in
set_option maxRecDepth 1000000 in
theorem specWalk_any (d : Tb) (v2 v3 v4 : Value) (tg ce : Int) (w : World) (hb : TbB d) (h : TbV w d v2 v3 v4) :
    Calls Tryd.prog 18 #[tbagg d v2 v3 v4, .int .i64 tg, .int .i64 ce] w fun e w' => ∃ v, e = .returned (.tuple #[v, .int .i64 (wkC tg ce d)]) ∧ IS w' v (wkF tg ce d) ∧ Below w.heap.size w w' := by
  have HVT := hide (fun V (hV : Below w.heap.size w V) => specTables_any d v2 v3 v4 V hb (h.below hV))
  have HAS := hide (fun V (hok : TbOk d) => l8asks_any d v2 v3 v4 tg ce V hb.targets.len hok.w0 hok.w1 hok.h0 hok.h1 h.targets.slice)
  have HNX := hide (fun V (i c : Nat) (hV : Below w.heap.size w V) hok hi hc => l8next_any d v2 v3 v4 i c V hb (h.below hV) hok hi hc)
  obtain ⟨a2, c2, rfl⟩ := h.targets.slice
  obtain ⟨a3, c3, rfl⟩ := h.dist.slice
  obtain ⟨a4, c4, rfl⟩ := h.hop.slice
  clear h hb
  unfold tbagg at HVT HAS HNX ⊢
  obtain ⟨X, Y, T, Ds, Hs⟩ := d
  simp only at HVT HAS HNX ⊢
  obtain ⟨W0, hW0⟩ : ∃ W, w.alloc (.cells #[.int .i64 X, .int .i64 Y, .slice a2 T.length c2, .slice a3 Ds.length c3, .slice a4 Hs.length c4] 31) = W := ⟨_, rfl⟩
  have hB0 : Below w.heap.size w W0 := by rw [← hW0]; exact (Below.refl _ _).alloc (Nat.le_refl _) _
  have hA0 : Blk W0 w.heap.size 31 #[.int .i64 X, .int .i64 Y, .slice a2 T.length c2, .slice a3 Ds.length c3, .slice a4 Hs.length c4] := by rw [← hW0]; exact Blk.new _ _ _
  have z0 := hA0.cell 0
  have z1 := hA0.cell 1
  have z2 := hA0.cell 2
  have z3 := hA0.cell 3
  have z4 := hA0.cell 4
  simp only [List.getElem?_toArray, List.getElem?_cons_succ, List.getElem?_cons_zero] at z0 z1 z2 z3 z4
  have HB := hide hB0
  have HTC := hide (HVT.out W0 hB0)
  have hW := hW0
  clear hW0 hB0 hA0 HVT
  go_enter Tryd.func18, Tryd.ntmps18
  go_wp2_with fail
  refine HTC.out.mono ?_
  rintro e w1 ⟨⟨tb, rfl, hti⟩, hb1⟩
  have HTI := hide hti
  have HB1 : Hid (Below w.heap.size w w1) := HB.out.trans (hb1.mono HB.out.size)
  have y0 := cell_kept z0 hb1
  have y1 := cell_kept z1 hb1
  have y2 := cell_kept z2 hb1
  have y3 := cell_kept z3 hb1
  have y4 := cell_kept z4 hb1
  clear hti hb1 z0 z1 z2 z3 z4 hW HTC
  cases tb with
  | false =>
    have HR : Hid (¬ NxIn ⟨X, Y, T, Ds, Hs⟩ tg ce) := fun h => by have := HTI.out.2 h.1; cases this
    go_wp2
    go_ret2
    rw [wkF_no HR.out, wkC_no HR.out]
    exact ⟨_, rfl, is_nil _ 0, HB1.out⟩
  | true =>
  have HOK := hide (HTI.out.1 rfl)
  have HA1 := hide (HAS.out w1 HOK.out)
  go_wp2_with fail
  refine HA1.out.mono ?_
  rintro e w2 ⟨⟨ab, rfl, hai⟩, hb2⟩
  have HAI := hide hai
  have HB2 : Hid (Below w.heap.size w w2) := HB1.out.trans (hb2.mono HB1.out.size)
  have x0 := cell_kept y0 hb2
  have x1 := cell_kept y1 hb2
  have x2 := cell_kept y2 hb2
  have x3 := cell_kept y3 hb2
  have x4 := cell_kept y4 hb2
  clear hai hb2 y0 y1 y2 y3 y4 HA1
  cases ab with
  | false =>
    have HR : Hid (¬ NxIn ⟨X, Y, T, Ds, Hs⟩ tg ce) := fun h => by have := HAI.out.2 h.2; cases this
    go_wp2
    go_ret2
    rw [wkF_no HR.out, wkC_no HR.out]
    exact ⟨_, rfl, is_nil _ 0, HB2.out⟩
  | true =>
  obtain ⟨q1, q2, q3, q4⟩ := HAI.out.1 rfl
  simp only at q2 q4
  have HIN : Hid (NxIn ⟨X, Y, T, Ds, Hs⟩ tg ce) := ⟨HOK.out, q1, q2, q3, q4⟩
  obtain ⟨i, rfl⟩ : ∃ i : Nat, tg = i := ⟨tg.toNat, by omega⟩
  obtain ⟨c, rfl⟩ : ∃ c : Nat, ce = c := ⟨ce.toNat, by omega⟩
  have hcn : (c : Int) < X * Y := q4
  have hiT : i < T.length := by omega
  have HNV := hide (fun V (c : Nat) (hV : Below w.heap.size w V) (hc : (c : Int) < X * Y) => HNX.out V i c hV HOK.out hiT hc)
  clear q1 q2 q3 q4 HNX
  go_wp2
  have HRW : Hid ((w2.alloc (.cells #[.int .i64 c] 3)).ownsRow w2.heap.size 3 1 (.slice (some ⟨w2.heap.size, 0, none⟩) 1 1) [(c : Int)].length (ci [(c : Int)])) := World.ownsRow_lit _ _ 1 (Nat.le_refl _) (by decide) rfl
  have HBN : Hid (Below w2.heap.size w2 (w2.alloc (.cells #[.int .i64 c] 3))) := (Below.refl _ _).alloc (Nat.le_refl _) _
  obtain ⟨R, hR⟩ : ∃ R, wk ⟨X, Y, T, Ds, Hs⟩ i c = R := ⟨_, rfl⟩
  have HR := hide hR
  clear hR
  go_loopw [2, 8] (fun cx ox wr => ∃ (b : Nat) (P : List Int), (b : Int) < X * Y ∧ cx = .int .i64 b ∧ wr.ownsRow w2.heap.size 3 1 ox (P ++ [(b : Int)]).length (ci (P ++ [(b : Int)])) ∧ P.length + (wk ⟨X, Y, T, Ds, Hs⟩ i b).1.length ≤ 65536 ∧ R = (P ++ (wk ⟨X, Y, T, Ds, Hs⟩ i b).1, (wk ⟨X, Y, T, Ds, Hs⟩ i b).2) ∧ Below w2.heap.size w2 wr) (fun cx _ _ => ((Ds.getD i []).getD (intOf cx).toNat 0).toNat)
  case atStart => exact ⟨c, [], hcn, rfl, HRW.out, by have := wk_len ⟨X, Y, T, Ds, Hs⟩ i c; simpa using this, by rw [HR.out]; rfl, HBN.out⟩
  case round =>
    obtain ⟨b, P, hbn, rfl, hown, hlen, hRR, hbl⟩ := hrel
    rename World => V
    have HO := hide hown
    have HLE := hide hlen
    have HRR := hide hRR
    have HBV := hide hbl
    have HBE : Hid (Below w.heap.size w V) := HB2.out.trans (hbl.mono HB2.out.size)
    have y0 := cell_kept x0 hbl
    have y1 := cell_kept x1 hbl
    have y2 := cell_kept x2 hbl
    have y3 := cell_kept x3 hbl
    have y4 := cell_kept x4 hbl
    have HBN' := hide hbn
    have HCL := hide (HNV.out V b HBE.out hbn)
    have HNXT := hide (HOK.out.next (c := b) hiT hbn)
    have HSTP := hide (wk_step HOK.out (c := b) hiT hbn)
    have hcs := nxB_cases ⟨X, Y, T, Ds, Hs⟩ i b
    obtain ⟨nb, hnb⟩ : ∃ z, nxB ⟨X, Y, T, Ds, Hs⟩ i b = z := ⟨_, rfl⟩
    obtain ⟨na, hna⟩ : ∃ z, nxA ⟨X, Y, T, Ds, Hs⟩ i b = z := ⟨_, rfl⟩
    simp only [hnb, hna] at HCL HNXT HSTP hcs
    have HWS : Hid (¬ nb = 0 → wk ⟨X, Y, T, Ds, Hs⟩ i b = ([(b : Int)], if nb = 11 then 0 else 10)) := fun h => by
      have := wk_stop (d := ⟨X, Y, T, Ds, Hs⟩) (i := i) (c := b) (by rw [hnb]; exact h)
      rw [hnb] at this
      exact this
    clear hown hlen hRR hbl hnb hna x0 x1 x2 x3 x4 hbn
    rcases hcs with ⟨rfl, -⟩ | ⟨rfl, -⟩ | ⟨rfl, -, -, -⟩
    · have HE : Hid (wk ⟨X, Y, T, Ds, Hs⟩ i c = (P ++ [(b : Int)], 0)) := by
        show _ = _
        rw [HR.out, HRR.out, HWS.out (by decide)]
        rfl
      go_wp2_with fail
      refine HCL.out.mono ?_
      rintro e w5 ⟨rfl, hb5⟩
      have HB5 : Hid (Below w.heap.size w w5) := HBE.out.trans (hb5.mono HBE.out.size)
      have HI5 := hide ((own_is HO.out).below hb5)
      clear hb5
      go_wp2
      go_ret2
      rw [wkF_yes HIN.out, wkC_yes HIN.out, HE.out]
      exact ⟨_, rfl, HI5.out, HB5.out⟩
    · have HE : Hid (wk ⟨X, Y, T, Ds, Hs⟩ i c = (P ++ [(b : Int)], 10)) := by
        show _ = _
        rw [HR.out, HRR.out, HWS.out (by decide)]
        rfl
      go_wp2_with fail
      refine HCL.out.mono ?_
      rintro e w5 ⟨rfl, hb5⟩
      have HB5 : Hid (Below w.heap.size w w5) := HBE.out.trans (hb5.mono HBE.out.size)
      have HI5 := hide ((own_is HO.out).below hb5)
      clear hb5
      go_wp2
      go_ret2
      rw [wkF_yes HIN.out, wkC_yes HIN.out, HE.out]
      exact ⟨_, rfl, HI5.out, HB5.out⟩
    · obtain ⟨n0, n1, n2, n3⟩ := HNXT.out rfl
      have HN2 := hide n2
      have HN3 := hide n3
      obtain ⟨m, rfl⟩ : ∃ m : Nat, na = m := ⟨na.toNat, by omega⟩
      have HN1 : Hid ((m : Int) < X * Y) := n1
      have HST := hide (HSTP.out rfl)
      clear n0 n1 n2 n3
      obtain ⟨Z, hZ⟩ : ∃ Z, P ++ [(b : Int)] = Z := ⟨_, rfl⟩
      have HZ := hide hZ
      rw [hZ] at HO
      have HZL : Hid (Z.length ≤ 65536) := by
        show _ ≤ _
        have h1 := HLE.out
        rw [HST.out] at h1
        rw [← hZ]
        simp only [List.length_append, List.length_cons, List.length_nil] at h1 ⊢
        omega
      clear hZ
      go_wp2_with fail
      refine HCL.out.mono ?_
      rintro e w5 ⟨rfl, hb5⟩
      have HBV5 : Hid (Below w2.heap.size w2 w5) := HBV.out.trans (hb5.mono HBV.out.size)
      have hw5 : w.heap.size ≤ w5.heap.size := Nat.le_trans HBE.out.size hb5.size
      have hw25 : w2.heap.size ≤ w5.heap.size := HBV5.out.size
      have HO5 := hide (kept_i HO.out hb5)
      clear hb5
      go_wp2_with (at_builtin; refine wp_app_i rfl _ _ rfl w2.heap.size _ Z rfl (HO5.out.alloc _) w5.heap.size 1 [(m : Int)] rfl ?n1 ?l1 ?b1 ?_)
      case n1 =>
        intro j hj
        obtain rfl : j = 0 := by simp at hj; omega
        exact (Blk.new _ _ _).cell 0
      case l1 => have := HZL.out; first | omega | (simp; omega)
      case b1 => first | omega | (simp; omega)
      intro v' w6 l hl6 ho hg
      have HO6 := hide ho
      have HB6 : Hid (Below w2.heap.size w2 w6) := app_below_i (HBV5.out.alloc hw25 _) (HO5.out.alloc _) (by simp; omega) hg
      have HL6 := hl6
      clear ho hg hl6
      go_wp2
      go_roundw
      case rel =>
        refine ⟨m, Z, HN1.out, rfl, by rw [← HL6.out]; exact HO6.out, ?_, ?_, HB6.out⟩
        · have h1 := HLE.out
          rw [HST.out, Int.toNat_natCast] at h1
          rw [← HZ.out]
          simp only [List.length_append, List.length_cons, List.length_nil] at h1 ⊢
          omega
        · rw [HRR.out, HST.out, Int.toNat_natCast, ← HZ.out]
          simp
      case measure =>
        have h2 := HN2.out
        have h3 := HN3.out
        rw [Int.toNat_natCast] at h2 h3
        simp only [intOf, Int.toNat_natCast]
        omega
end Go.Proofs.YteicpjbeihabnaaDoor
