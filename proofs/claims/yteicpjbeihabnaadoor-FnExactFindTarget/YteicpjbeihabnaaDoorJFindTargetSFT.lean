/-
  The walk of spec.FindTarget.
-/
import Derived.Test.YteicpjbeihabnaaDoorJFindTargetSTC
import Derived.Test.YteicpjbeihabnaaDoorJFindTargetFT
import Derived.BigQuiet
import Derived.Deep.QuietTactic
namespace Go.Proofs.YteicpjbeihabnaaDoor
open Go.RowKit

set_option maxHeartbeats 4000000 in
set_option maxRecDepth 1000000 in
theorem specFind_any (d : Tb) (v2 v3 v4 : Value) (s : ByteArray) (u : Value) (w : World) (hb : TbB d) (h : TbV w d v2 v3 v4) (hu : BS w u s) :
    Calls Tryd.prog 10 #[tbagg d v2 v3 v4, u] w fun e w' => e = .returned (.int .i64 (ftF d s)) ∧ Below w.heap.size w w' := by
  have HVT := hide (fun V (hV : Below w.heap.size w V) => specTables_any d v2 v3 v4 V hb (h.below hV))
  have hl2 := hb.targets.len
  obtain ⟨a2, b2, o2, c2, rfl, ha2, hc2⟩ := h.targets
  have HRN : Hid (∀ V, Below w.heap.size w V → ∀ j, j < d.targets.length → ∃ u, V.cell? ⟨b2, o2 + j * 3, none⟩ = some u ∧ BS V u (d.targets.getD j .zero).name) := fun V hV j hj => by
    obtain ⟨u, h1, h2⟩ := hc2 j hj
    exact ⟨u, cell_kept h1.name hV, h2.name.below hV⟩
  have HUS := hide (fun V (hV : Below w.heap.size w V) => hu.below hV)
  obtain ⟨a3, c3, rfl⟩ := h.dist.slice
  obtain ⟨a4, c4, rfl⟩ := h.hop.slice
  obtain ⟨au, cu, rfl⟩ := hu.slice
  have HA2 := hide ha2
  clear h hb hc2 hu ha2
  unfold tbagg at HVT ⊢
  obtain ⟨X, Y, T, Ds, Hs⟩ := d
  simp only at HVT hl2 HRN HA2 ⊢
  obtain ⟨W0, hW0⟩ : ∃ W, w.alloc (.cells #[.int .i64 X, .int .i64 Y, .slice a2 T.length c2, .slice a3 Ds.length c3, .slice a4 Hs.length c4] 31) = W := ⟨_, rfl⟩
  have hB0 : Below w.heap.size w W0 := by rw [← hW0]; exact (Below.refl _ _).alloc (Nat.le_refl _) _
  have hA0 : Blk W0 w.heap.size 31 #[.int .i64 X, .int .i64 Y, .slice a2 T.length c2, .slice a3 Ds.length c3, .slice a4 Hs.length c4] := by rw [← hW0]; exact Blk.new _ _ _
  have z0 := hA0.cell 0
  have z1 := hA0.cell 1
  have z2 := hA0.cell 2
  have z3 := hA0.cell 3
  have z4 := hA0.cell 4
  simp only [List.getElem?_toArray, List.getElem?_cons_succ, List.getElem?_cons_zero] at z0 z1 z2 z3 z4
  have HB := hide hB0
  have HTC := hide (HVT.out W0 hB0)
  have hW := hW0
  clear hW0 hB0 hA0 HVT
  go_enter Tryd.func10, Tryd.ntmps10
  go_wp2_with fail
  refine HTC.out.mono ?_
  rintro e w1 ⟨⟨tb, rfl, hti⟩, hb1⟩
  have HTI := hide hti
  have HB1 : Hid (Below w.heap.size w w1) := HB.out.trans (hb1.mono HB.out.size)
  have y0 := cell_kept z0 hb1
  have y1 := cell_kept z1 hb1
  have y2 := cell_kept z2 hb1
  have y3 := cell_kept z3 hb1
  have y4 := cell_kept z4 hb1
  clear hti hb1 z0 z1 z2 z3 z4 hW HTC
  cases tb with
  | false =>
    have HR : Hid (¬ TbOk ⟨X, Y, T, Ds, Hs⟩) := fun h => by have := HTI.out.2 h; cases this
    go_wp2
    go_ret
    exact ⟨by rw [ftF_no HR.out]; rfl, HB1.out⟩
  | true =>
  have HOK := hide (HTI.out.1 rfl)
  have HE : Hid (ftF ⟨X, Y, T, Ds, Hs⟩ s = ftL T s 0) := ftF_yes HOK.out
  go_wp2
  go_loopw [5] (fun ix wr => ∃ i : Nat, i ≤ T.length ∧ ix = .int .i64 i ∧ ftL (T.drop i) s i = ftL T s 0 ∧ Below w1.heap.size w1 wr) (fun ix _ => T.length - (intOf ix).toNat)
  case atStart => exact ⟨0, Nat.zero_le _, rfl, rfl, Below.refl _ _⟩
  case round =>
    obtain ⟨i, hi, rfl, hft, hbl⟩ := hrel
    rename World => V
    have HFT := hide hft
    have HBV := hide hbl
    have HBE : Hid (Below w.heap.size w V) := HB1.out.trans (hbl.mono HB1.out.size)
    have x0 := cell_kept y0 hbl
    have x1 := cell_kept y1 hbl
    have x2 := cell_kept y2 hbl
    clear hft hbl y0 y1 y2 y3 y4
    by_cases hlt : i < T.length
    · have hlti : (i : Int) < (T.length : Int) := by omega
      obtain rfl := HA2.out (by omega)
      obtain ⟨v, f0, hbs⟩ := HRN.out V HBE.out i hlt
      have HST := hide (ftL_at (s := s) hlt (i : Int))
      obtain ⟨nm, hnm⟩ : ∃ m, (T.getD i .zero).name = m := ⟨_, rfl⟩
      rw [hnm] at hbs HST
      obtain ⟨an, cn, rfl⟩ := hbs.slice
      have c5 : ∀ n, (convert 26 9 (.slice an nm.size cn)).run Tryd.prog (V.drewN n) = .ok (.string nm) (V.drewN n) := fun n => toStr_bs (w := V.drewN n) hbs
      have c6 : ∀ n, (convert 26 9 (.slice au s.size cu)).run Tryd.prog (V.drewN n) = .ok (.string s) (V.drewN n) := fun n => toStr_bs (w := V.drewN n) (HUS.out V HBE.out)
      clear hnm hbs
      by_cases q : nm = s
      · subst q
        have HK : Hid (ftF ⟨X, Y, T, Ds, Hs⟩ nm = i) := by show _ = _; rw [HE.out, ← HFT.out, HST.out, if_pos rfl]
        go_wp2_with fail
        go_quiet (fail)
        go_wp2
        go_ret
        exact ⟨by rw [HK.out]; rfl, below_drewN HBE.out _⟩
      · have s6 : (nm.toList == s.toList) = false := by
          rw [beq_eq_false_iff_ne]
          intro h
          rw [ByteArray.toList_eq, ByteArray.toList_eq] at h
          exact q (ByteArray.ext (Array.toList_inj.1 h))
        have HK : Hid (ftL (T.drop (i + 1)) s ((i + 1 : Nat) : Int) = ftL T s 0) := by show _ = _; rw [← HFT.out, HST.out, if_neg q]; rfl
        clear q
        go_wp2_with fail
        go_quiet (fail)
        go_wp2
        go_roundw
        case rel => exact ⟨i + 1, by omega, by go_num, HK.out, below_drewN HBV.out _⟩
        case measure => simp [intOf]; omega
    · have hge : ¬ (i : Int) < (T.length : Int) := by omega
      have HK : Hid (ftF ⟨X, Y, T, Ds, Hs⟩ s = -1) := by
        show _ = _
        rw [HE.out, ← HFT.out, List.drop_eq_nil_of_le (by omega)]
        rfl
      go_wp2
      go_ret
      exact ⟨by rw [HK.out]; rfl, HBE.out⟩
end Go.Proofs.YteicpjbeihabnaaDoor
