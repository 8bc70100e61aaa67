/-
  The walks of validNames, validFields.
-/
import Derived.Test.YtbjaccalloipcaaDoorJVtVF
import Derived.Test.YtbjaccalloipcaaDoorJVtIW
import Derived.Test.YtbjaccalloipcaaDoorJVtND4
import Derived.BigQuiet
import Derived.Deep.QuietTactic
import Derived.Deep.RegionWith
namespace Go.Proofs.YtbjaccalloipcaaDoor
open Go.RowKit

/-- Whether a node's names may stand. -/
def vNs (d : Nd) : Bool := ((d.names.length : Int) == nOf d) && d.names.all vNm
set_option maxHeartbeats 2000000 in
set_option maxRecDepth 1000000 in
theorem validNames_any (d : Nd) (vt vn vy : Value) (w : World) (h : NV w d vt vn vy) (hb : NB d) (hT : Lib.Utf8Tabs 0 1 w) :
    Calls Tryd.prog 40 #[nagg d vt vn vy] w fun e w' => e = .returned (.bool (vNs d)) ∧ Below w.heap.size w w' := by
  obtain ⟨W1, hW1⟩ : ∃ W1, w.alloc (.cells #[.int .i64 d.kind, .int .i64 d.n, vt, vn, vy, .int .i64 d.count] 35) = W1 := ⟨_, rfl⟩
  have hB1 : Below w.heap.size w W1 := by rw [← hW1]; exact (Below.refl _ _).alloc (Nat.le_refl _) _
  have hBk : Blk W1 w.heap.size 35 #[.int .i64 d.kind, .int .i64 d.n, vt, vn, vy, .int .i64 d.count] := by rw [← hW1]; exact Blk.new _ _ _
  have HO := hide (namesOf_any d vt vn vy W1.drew (h.types.below hB1.drew) hb.types)
  have HN : Hid (vNs d = (((d.names.length : Int) == nOf d) && d.names.all vNm)) := rfl
  have HS := hide h.names
  have HE := hide hb.each
  have HT := hide hT
  have hML := hb.names
  obtain ⟨Z, hZ⟩ : ∃ Z, nOf d = Z := ⟨_, rfl⟩
  rw [hZ] at HO HN
  obtain ⟨an, bn, on, cn, hvn, han, hcn⟩ := h.names
  subst hvn
  have HC := hide hcn
  unfold nagg at *
  obtain ⟨K, N, T, M, Y, C⟩ := d
  simp only at HO HN HS HE han HC hBk hW1 hML ⊢
  have HW := hide hW1
  have HB1 := hide hB1
  have HBK := hide hBk
  clear hW1 hB1 hBk hcn h hb hT hZ
  have b0 := HBK.out.cell 0
  have b1 := HBK.out.cell 1
  have b2 := HBK.out.cell 2
  have b3 := HBK.out.cell 3
  have b4 := HBK.out.cell 4
  have b5 := HBK.out.cell 5
  simp only [List.getElem?_toArray, List.getElem?_cons_succ, List.getElem?_cons_zero] at b0 b1 b2 b3 b4 b5
  have hmx : Tryd.prog.follows .mixedOrders = true := by kernel_rfl
  have HK : Hid (∀ w2, Below W1.drew.heap.size W1.drew w2 → w2.cell? ⟨w.heap.size, 3, none⟩ = some (.slice an M.length cn) ∧ Below w.heap.size w w2) := fun w2 hb2 =>
    ⟨by have := cell_kept (w := W1.drew) (p := ⟨w.heap.size, 3, none⟩) b3 hb2; exact this, HB1.out.drew.trans (hb2.mono HB1.out.size)⟩
  by_cases hne : (M.length : Int) = Z
  · have e1 : ((M.length : Int) != Z) = false := by rw [bne_eq_false_iff_eq]; exact hne
    have HN2 : Hid (vNs ⟨K, N, T, M, Y, C⟩ = M.all vNm) := by show _ = _; rw [HN.out, beq_iff_eq.2 hne]; rfl
    clear hne
    go_enter Tryd.func40, Tryd.ntmps40
    go_wp2_with fail
    rw [HW.out]
    go_region_with (go_at_call 48; refine HO.out.mono ?_; rintro e w2 ⟨rfl, hb2⟩; have c3 := (HK.out w2 hb2).1; have HB2 := hide (HK.out w2 hb2).2; clear hb2)
    all_goals go_wp2
    all_goals
      go_loopw [14] (fun ix wr => ∃ k : Nat, k ≤ M.length ∧ ix = .int .i64 k ∧ (M.drop k).all vNm = M.all vNm ∧ Below w.heap.size w wr) (fun ix _ => M.length - (intOf ix).toNat)
      case atStart => exact ⟨0, Nat.zero_le _, rfl, rfl, HB2.out⟩
      case round =>
        obtain ⟨k, hk, rfl, hok, hb⟩ := hrel
        have HB := hide hb
        by_cases hlt : k < M.length
        · obtain rfl := han (by omega)
          obtain ⟨x, hx, hxs⟩ := HC.out k hlt
          have g := cell_kept hx hb
          have hz := HE.out k hlt
          have hd : M.drop k = M.getD k .empty :: M.drop (k + 1) := by
            rw [List.drop_eq_getElem_cons hlt, List.getD_eq_getElem?_getD, List.getElem?_eq_getElem hlt]; rfl
          rw [hd, List.all_cons] at hok
          obtain ⟨s, hs⟩ : ∃ s, M.getD k .empty = s := ⟨_, rfl⟩
          rw [hs] at hxs hz hok
          have HV := hide (validName_any x s wr (hxs.below hb) hz (Utf8Tabs_below HT.out hb))
          obtain ⟨B, hB⟩ : ∃ B, vNm s = B := ⟨_, rfl⟩
          rw [hB] at HV hok
          have HOK := hide hok
          have hlti : (k : Int) < (M.length : Int) := by omega
          clear hd hs hx hxs hz hok hB hb
          go_wp2_with fail
          refine HV.out.mono ?_
          rintro e w4 ⟨rfl, hb4⟩
          have HB4 : Hid (Below w.heap.size w w4) := HB.out.trans (hb4.mono HB.out.size)
          clear hb4
          cases B with
          | true =>
            have HR : Hid ((M.drop (k + 1)).all vNm = M.all vNm) := HOK.out
            go_wp2
            go_roundw
            case rel => exact ⟨k + 1, by omega, by go_num, HR.out, HB4.out⟩
            case measure => simp [intOf]; omega
          | false =>
            have HR : Hid (M.all vNm = false) := HOK.out.symm
            go_wp2
            go_ret
            exact ⟨by rw [HN2.out, HR.out]; rfl, HB4.out⟩
        · have e : k = M.length := by omega
          have hge : ¬ (k : Int) < (M.length : Int) := by omega
          have HR : Hid (M.all vNm = true) := by show _ = _; rw [← hok, e, List.drop_length]; rfl
          clear hok hb
          go_wp2
          go_ret
          exact ⟨by rw [HN2.out, HR.out]; rfl, HB.out⟩
  · have e1 : ((M.length : Int) != Z) = true := by rw [bne_iff_ne]; exact hne
    have HN2 : Hid (vNs ⟨K, N, T, M, Y, C⟩ = false) := by show _ = _; rw [HN.out, beq_eq_false_iff_ne.2 hne]; rfl
    clear hne
    go_enter Tryd.func40, Tryd.ntmps40
    go_wp2_with fail
    rw [HW.out]
    go_region_with (go_at_call 48; refine HO.out.mono ?_; rintro e w2 ⟨rfl, hb2⟩; have c3 := (HK.out w2 hb2).1; have HB2 := hide (HK.out w2 hb2).2; clear hb2)
    all_goals go_wp2
    all_goals go_ret
    all_goals exact ⟨by rw [HN2.out]; rfl, HB2.out⟩
end Go.Proofs.YtbjaccalloipcaaDoor
