/-
  toIntSS with its blocks.
  toByteS with its block.
  toTarget with its blocks.
-/
import Derived.Test.YteicpjbeihabnaaDoorJRunFleetFL
import Derived.Test.YteicpjbeihabnaaDoorJRunFleetTgSF
import Derived.Laws.MakeOwn
import Derived.Test.YteicpjbeihabnaaDoorJRunFleetIB
namespace Go.Proofs.YteicpjbeihabnaaDoor
open Go.RowKit

set_option maxHeartbeats 4000000 in
set_option maxRecDepth 1000000 in
theorem toIIS_f {w : World} {v : Value} {L : List (List Int)} (hs : IISB L) (h : IIS w v L) :
    Calls Tryd.prog 42 #[v] w fun e w' => ∃ v' bl, e = .returned v' ∧ IISF w' v' L bl ∧ Fr w w' bl ∧ Below w.heap.size w w' := by
  obtain ⟨a0, b, off, cap, rfl, ha, hc⟩ := h
  obtain ⟨hs, hz⟩ := hs
  have hmk := run_make_row' (P := Tryd.prog) 23 40 (.slice none 0 0) 24 Tryd.underlying23 (by kernel_rfl) rfl .i64 .i64 L.length (by omega) (by omega)
  have HC := hide hc
  have HZ := hide hz
  clear hc hz
  go_enter Tryd.func42, Tryd.ntmps42
  go_wp2
  clear hmk
  go_loopw [4] (fun i wr => ∃ (k : Nat) (V : Nat → Value) (NB : Nat → List Nat), k ≤ L.length ∧ i = .int .i64 k ∧ wr.rowIs w.heap.size 40 L.length (fun j => if j < k then V j else .slice none 0 0) ∧ (∀ j, j < k → IF wr (V j) (L.getD j []) (NB j)) ∧ ((List.range k).map NB).flatten.Nodup ∧ (∀ g ∈ ((List.range k).map NB).flatten, w.heap.size < g) ∧ Below w.heap.size w wr ∧ w.heap.size < wr.heap.size) (fun i _ => L.length - (intOf i).toNat)
  case atStart => exact ⟨0, fun _ => .slice none 0 0, fun _ => [], Nat.zero_le _, rfl, (World.rowIs_made w _ L.length 40).congr (fun j _ => by simp), fun j hj => absurd hj (Nat.not_lt_zero _), List.nodup_nil, fun g hg => (by cases hg), (Below.refl _ _).alloc (Nat.le_refl _) _, by simp⟩
  case round =>
    obtain ⟨k, V, NB, hk, rfl, hrow, hu, hnd, hlo, hbl, hsz⟩ := hrel
    have HROW := hide hrow
    have HU := hide hu
    have HND := hide hnd
    have HLO := hide hlo
    have HBL := hide hbl
    by_cases hlt : k < L.length
    · obtain rfl := ha (by omega)
      obtain ⟨x, hx, hxs⟩ := HC.out k hlt
      have g0 : wr.cell? ⟨b, off + k, none⟩ = some x := cell_kept hx hbl
      obtain ⟨s, hs'⟩ : ∃ s, L.getD k [] = s := ⟨_, rfl⟩
      have hzs := HZ.out k hlt
      rw [hs'] at hxs hzs
      have HSK := hide hs'
      have HT := hide (toI_f (w := wr) hzs (hxs.below hbl))
      obtain ⟨ax, cx, rfl⟩ := hxs.slice
      have d1 : decide ((k : Int) < (L.length : Int)) = true := decide_eq_true (by omega)
      clear hrow hu hnd hlo hbl hx hxs hs' hzs
      go_wp2_with fail
      refine HT.out.mono ?_
      rintro e w2 ⟨v2, bln, rfl, hn2, hfr, hb2⟩
      have HR2 := hide (row_kept HROW.out hb2)
      have g1 : w2.cell? ⟨w.heap.size, k, none⟩ = some (.slice none 0 0) := by rw [HR2.out.cell hlt]; simp
      have g2 : w2.frozen? ⟨w.heap.size, k, none⟩ = false := HR2.out.frozen k
      have HB2 := hide hb2
      have HFR := hide hfr
      have HLN : Hid (∀ g ∈ bln, w.heap.size < g) := fun g hg => Nat.lt_of_lt_of_le hsz (hfr.lo g hg)
      have HBW : Hid (Below w.heap.size w w2) := HBL.out.trans (hb2.mono HBL.out.size)
      obtain ⟨gx, kx, rfl⟩ := hn2.slice
      have HN := hide hn2
      have hsz2 : w.heap.size < w2.heap.size := by have := hb2.size; omega
      clear hn2 hfr hb2 HT
      go_wp2
      go_roundw
      case rel =>
        have hfl : ((List.range (k + 1)).map (fun j => if j = k then bln else NB j)).flatten = ((List.range k).map NB).flatten ++ bln := by
          rw [List.range_succ, List.map_append, List.flatten_append]
          congr 1
          · congr 1
            refine List.map_congr_left (fun j hj => ?_)
            have := List.mem_range.1 hj
            rw [if_neg (by omega)]
          · simp
        refine ⟨k + 1, fun j => if j = k then .slice gx s.length kx else V j, fun j => if j = k then bln else NB j, by omega, by go_num, (HR2.out.set k _).congr (fun j _ => ?_), fun j hj => ?_, ?_, ?_, HBW.out.setCell (Nat.le_refl _) _, by simp; omega⟩
        · by_cases e : j = k
          · subst e; simp
          · rw [if_neg e]; by_cases hj : j < k
            · rw [if_pos hj, if_pos (by omega)]; show V j = if j = k then _ else V j; rw [if_neg e]
            · rw [if_neg hj, if_neg (by omega)]
        · by_cases e : j = k
          · subst e; simp only [if_pos]; rw [HSK.out]
            exact HN.out.keep (fun g hg => Below.heap_setCell _ _ _ _ (Nat.ne_of_gt (HLN.out g hg)))
          · simp only [if_neg e]
            exact ((HU.out j (by omega)).below HB2.out).keep (fun g hg => Below.heap_setCell _ _ _ _ (Nat.ne_of_gt (HLO.out g (mem_flat (by omega) hg))))
        · rw [hfl]
          refine List.nodup_append.2 ⟨HND.out, HFR.out.nd, fun p hp p' hp' e => ?_⟩
          obtain ⟨i, hi, hp⟩ := of_mem_flat hp
          have h4 := (HU.out i hi).lt p hp
          have h5 := HFR.out.lo p' hp'
          omega
        · rw [hfl]
          intro g hg
          rcases List.mem_append.1 hg with hg | hg
          · exact HLO.out g hg
          · exact HLN.out g hg
      case measure => simp [intOf]; omega
    · have d1 : decide ((k : Int) < (L.length : Int)) = false := decide_eq_false (by omega)
      have e : k = L.length := by omega
      subst e
      clear hrow hu hnd hlo hbl
      go_wp2
      go_ret
      refine ⟨_, _, rfl, ⟨_, w.heap.size, 0, _, V, NB, rfl, fun _ => rfl, rfl, fun j hj => ⟨by rw [Nat.zero_add, HROW.out.cell hj, if_pos hj], HU.out j hj⟩⟩, ⟨?_, ?_, ?_⟩, HBL.out⟩
      · refine List.nodup_append.2 ⟨(Fr.one (w := w) (w' := wr) (Nat.le_refl _) hsz _).nd, HND.out, fun p hp p' hp' e => ?_⟩
        have h4 := HLO.out p' hp'
        have h5 : p = w.heap.size := by
          by_cases hz : 0 < L.length
          · rw [if_pos hz] at hp; exact List.mem_singleton.1 hp
          · rw [if_neg hz] at hp; cases hp
        omega
      · intro g hg
        rcases List.mem_append.1 hg with hg | hg
        · exact (Fr.one (w := w) (w' := wr) (Nat.le_refl _) hsz _).lo g hg
        · exact Nat.le_of_lt (HLO.out g hg)
      · intro g hg
        rcases List.mem_append.1 hg with hg | hg
        · exact (Fr.one (w := w) (w' := wr) (Nat.le_refl _) hsz _).hi g hg
        · obtain ⟨i, hi, hg⟩ := of_mem_flat hg
          exact (HU.out i hi).lt g hg
end Go.Proofs.YteicpjbeihabnaaDoor

namespace Go.Proofs.YteicpjbeihabnaaDoor
open Go.RowKit

theorem toB_f {w : World} {v : Value} {s : ByteArray} (hs : s.size ≤ 1048576) (h : BS w v s) :
    Calls Tryd.prog 12 #[v] w fun e w' => ∃ v' bl, e = .returned v' ∧ BF w' v' s bl ∧ Fr w w' bl ∧ Below w.heap.size w w' :=
  (toB_bs hs h).mono fun _ _ ⟨h1, h2, h3⟩ => ⟨_, _, h1, ⟨_, w.heap.size, 0, _, rfl, fun _ => rfl, rfl, fun j hj => by rw [Nat.zero_add]; exact ⟨h2.cell j hj, h2.frozen j⟩⟩, Fr.one (Nat.le_refl _) h2.lt _, h3⟩
end Go.Proofs.YteicpjbeihabnaaDoor

namespace Go.Proofs.YteicpjbeihabnaaDoor
open Go.RowKit

set_option maxHeartbeats 4000000 in
set_option maxRecDepth 1000000 in
theorem toTg_f (d : Tg) (v0 : Value) (w : World) (hb : TgB d) (h : TgV w d v0) :
    Calls Tryd.prog 66 #[tgagg d v0] w fun e w' => ∃ v0' bl, e = .returned (tgagg d v0') ∧ TgF w' d v0' bl ∧ Fr w w' bl ∧ Below w.heap.size w w' := by
  obtain ⟨x0, x1, x2⟩ := d
  have HH := hide h
  have hk0 := hb.name
  simp only at hk0
  unfold tgagg
  simp only
  obtain ⟨W0, hW0⟩ : ∃ W, ((w.alloc (.cells #[v0, .int .i64 x1, .int .i64 x2] 92)).alloc (.cells #[.slice none 0 0, .int .i64 0, .int .i64 0] 66)).alloc (.cells #[.slice none 0 0, .int .i64 0, .int .i64 0] 66) = W := ⟨_, rfl⟩
  have hb0 : Below w.heap.size w W0 := by
    rw [← hW0]; exact (((Below.refl _ _).alloc (Nat.le_refl _) _).alloc (by simp) _).alloc (by simp; omega) _
  have hA : Blk W0 w.heap.size 92 #[v0, .int .i64 x1, .int .i64 x2] := by
    rw [← hW0]; exact ((Blk.new _ _ _).alloc _).alloc _
  have hO : Blk W0 (w.heap.size + 1 + 1) 66 #[.slice none 0 0, .int .i64 0, .int .i64 0] := by
    rw [← hW0]
    have := Blk.new ((w.alloc (.cells #[v0, .int .i64 x1, .int .i64 x2] 92)).alloc (.cells #[.slice none 0 0, .int .i64 0, .int .i64 0] 66)) 66 #[.slice none 0 0, .int .i64 0, .int .i64 0]
    simpa using this
  have hR : Blk W0 (w.heap.size + 1) 66 #[.slice none 0 0, .int .i64 0, .int .i64 0] := by
    rw [← hW0]
    have := (Blk.new (w.alloc (.cells #[v0, .int .i64 x1, .int .i64 x2] 92)) 66 #[.slice none 0 0, .int .i64 0, .int .i64 0]).alloc (.cells #[.slice none 0 0, .int .i64 0, .int .i64 0] 66)
    simpa using this
  have HR0 := hide hR
  have HB0 := hide hb0
  have HBZ : Hid (w.heap.size ≤ W0.heap.size) := hb0.size
  have HA0 := hide hA
  have HO0 := hide hO
  have HW := hide hW0
  clear h hb hb0 hA hO hR hW0
  go_enter Tryd.func66, Tryd.ntmps66
  go_wp2_with fail
  rw [HW.out]
  clear HW
  refine (toB_f (w := W0) (v := v0) hk0 (HH.out.name.below HB0.out)).mono ?_
  rintro e w2 ⟨u2, bl0, rfl, hs2, hr2, hb2⟩
  obtain ⟨g0, k0, rfl⟩ := hs2.slice
  have HS0_2 := hide hs2
  have HR_0 : Hid (Fr W0 w2 bl0) := hr2
  have HL_0 : Hid (∀ g ∈ bl0, w.heap.size + 1 + 1 < g) := fun g hg => Nat.lt_of_lt_of_le HO0.out.lt (hr2.lo g hg)
  have HZ_0 : Hid (W0.heap.size ≤ w2.heap.size) := hb2.size
  have HA2 := hide (HA0.out.below hb2)
  have HO2 := hide (HO0.out.below hb2)
  have HR2 := hide (HR0.out.below hb2)
  have HB2 : Hid (Below w.heap.size w w2) := HB0.out.trans (hb2.mono HB0.out.size)
  have a1 := HA2.out.cell 1
  have a2 := HA2.out.cell 2
  have c0 := HO2.out.cell 0
  have d0 := HO2.out.frozen 0
  have r0 := HR2.out.cell 0
  have s0 := HR2.out.frozen 0
  have c1 := HO2.out.cell 1
  have d1 := HO2.out.frozen 1
  have r1 := HR2.out.cell 1
  have s1 := HR2.out.frozen 1
  have c2 := HO2.out.cell 2
  have d2 := HO2.out.frozen 2
  have r2 := HR2.out.cell 2
  have s2 := HR2.out.frozen 2
  simp only [List.getElem?_toArray, List.getElem?_cons_succ, List.getElem?_cons_zero] at a1 a2 c0 c1 c2 r0 r1 r2
  clear hs2 hr2 hb2 HA0 HO0 HB0 HR0
  go_wp2
  (try simp only [Exit.inBlock, Exit.then])
  refine bodyPost_ret (results_cell_row rfl _ _ (w.heap.size + 1) 66 #[.slice g0 (x0.size) k0, .int .i64 x1, .int .i64 x2] (0, 0) _ rfl ?hg Tryd.underlying66 rfl (by kernel_rfl)) rfl ?_
  case hg => exact ((((((HR2.out.other 0 _ (by omega)).other 1 _ (by omega)).other 2 _ (by omega)).set 0 _).set 1 _).set 2 _)
  refine ⟨_, bl0, rfl, ?_, ?_, ?_⟩
  · exact HS0_2.out.keep (fun g hg => by
      have hn : ∀ g ∈ bl0, g ≠ w.heap.size + 1 + 1 ∧ g ≠ w.heap.size + 1 := fun g hg => by have := HL_0.out g hg; omega
      exact ((Below.heap_setCell _ _ _ _ (hn g hg).2).trans ((Below.heap_setCell _ _ _ _ (hn g hg).2).trans ((Below.heap_setCell _ _ _ _ (hn g hg).2).trans ((Below.heap_setCell _ _ _ _ (hn g hg).1).trans ((Below.heap_setCell _ _ _ _ (hn g hg).1).trans (Below.heap_setCell _ _ _ _ (hn g hg).1)))))))
  · exact HR_0.out.mono HBZ.out (by simp [World.size_setCell])
  · exact ((((((HB2.out.setCell (by show w.heap.size ≤ w.heap.size + 1 + 1; omega) _).setCell (by show w.heap.size ≤ w.heap.size + 1 + 1; omega) _).setCell (by show w.heap.size ≤ w.heap.size + 1 + 1; omega) _).setCell (by show w.heap.size ≤ w.heap.size + 1; omega) _).setCell (by show w.heap.size ≤ w.heap.size + 1; omega) _).setCell (by show w.heap.size ≤ w.heap.size + 1; omega) _)
end Go.Proofs.YteicpjbeihabnaaDoor
