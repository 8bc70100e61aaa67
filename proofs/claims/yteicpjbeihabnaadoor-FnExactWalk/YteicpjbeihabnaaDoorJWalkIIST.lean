/-
  toIntSS with its blocks.
-/
import Derived.Test.YteicpjbeihabnaaDoorJWalkIISF
import Derived.Test.YteicpjbeihabnaaDoorJWalkTgSF
import Derived.Laws.MakeOwn
namespace Go.Proofs.YteicpjbeihabnaaDoor
open Go.RowKit

set_option maxHeartbeats 4000000 in
set_option maxRecDepth 1000000 in
theorem toIIS_f {w : World} {v : Value} {L : List (List Int)} (hs : IISB L) (h : IIS w v L) :
    Calls Tryd.prog 42 #[v] w fun e w' => ∃ v' bl, e = .returned v' ∧ IISF w' v' L bl ∧ Fr w w' bl ∧ Below w.heap.size w w' := by
  obtain ⟨a0, b, off, cap, rfl, ha, hc⟩ := h
  obtain ⟨hs, hz⟩ := hs
  have hmk := run_make_row' (P := Tryd.prog) 23 40 (.slice none 0 0) 24 Tryd.underlying23 (by kernel_rfl) rfl .i64 .i64 L.length (by omega) (by omega)
  have HC := hide hc
  have HZ := hide hz
  clear hc hz
  go_enter Tryd.func42, Tryd.ntmps42
  go_wp2
  clear hmk
  go_loopw [4] (fun i wr => ∃ (k : Nat) (V : Nat → Value) (NB : Nat → List Nat), k ≤ L.length ∧ i = .int .i64 k ∧ wr.rowIs w.heap.size 40 L.length (fun j => if j < k then V j else .slice none 0 0) ∧ (∀ j, j < k → IF wr (V j) (L.getD j []) (NB j)) ∧ ((List.range k).map NB).flatten.Nodup ∧ (∀ g ∈ ((List.range k).map NB).flatten, w.heap.size < g) ∧ Below w.heap.size w wr ∧ w.heap.size < wr.heap.size) (fun i _ => L.length - (intOf i).toNat)
  case atStart => exact ⟨0, fun _ => .slice none 0 0, fun _ => [], Nat.zero_le _, rfl, (World.rowIs_made w _ L.length 40).congr (fun j _ => by simp), fun j hj => absurd hj (Nat.not_lt_zero _), List.nodup_nil, fun g hg => (by cases hg), (Below.refl _ _).alloc (Nat.le_refl _) _, by simp⟩
  case round =>
    obtain ⟨k, V, NB, hk, rfl, hrow, hu, hnd, hlo, hbl, hsz⟩ := hrel
    have HROW := hide hrow
    have HU := hide hu
    have HND := hide hnd
    have HLO := hide hlo
    have HBL := hide hbl
    by_cases hlt : k < L.length
    · obtain rfl := ha (by omega)
      obtain ⟨x, hx, hxs⟩ := HC.out k hlt
      have g0 : wr.cell? ⟨b, off + k, none⟩ = some x := cell_kept hx hbl
      obtain ⟨s, hs'⟩ : ∃ s, L.getD k [] = s := ⟨_, rfl⟩
      have hzs := HZ.out k hlt
      rw [hs'] at hxs hzs
      have HSK := hide hs'
      have HT := hide (toI_f (w := wr) hzs (hxs.below hbl))
      obtain ⟨ax, cx, rfl⟩ := hxs.slice
      have d1 : decide ((k : Int) < (L.length : Int)) = true := decide_eq_true (by omega)
      clear hrow hu hnd hlo hbl hx hxs hs' hzs
      go_wp2_with fail
      refine HT.out.mono ?_
      rintro e w2 ⟨v2, bln, rfl, hn2, hfr, hb2⟩
      have HR2 := hide (row_kept HROW.out hb2)
      have g1 : w2.cell? ⟨w.heap.size, k, none⟩ = some (.slice none 0 0) := by rw [HR2.out.cell hlt]; simp
      have g2 : w2.frozen? ⟨w.heap.size, k, none⟩ = false := HR2.out.frozen k
      have HB2 := hide hb2
      have HFR := hide hfr
      have HLN : Hid (∀ g ∈ bln, w.heap.size < g) := fun g hg => Nat.lt_of_lt_of_le hsz (hfr.lo g hg)
      have HBW : Hid (Below w.heap.size w w2) := HBL.out.trans (hb2.mono HBL.out.size)
      obtain ⟨gx, kx, rfl⟩ := hn2.slice
      have HN := hide hn2
      have hsz2 : w.heap.size < w2.heap.size := by have := hb2.size; omega
      clear hn2 hfr hb2 HT
      go_wp2
      go_roundw
      case rel =>
        have hfl : ((List.range (k + 1)).map (fun j => if j = k then bln else NB j)).flatten = ((List.range k).map NB).flatten ++ bln := by
          rw [List.range_succ, List.map_append, List.flatten_append]
          congr 1
          · congr 1
            refine List.map_congr_left (fun j hj => ?_)
            have := List.mem_range.1 hj
            rw [if_neg (by omega)]
          · simp
        refine ⟨k + 1, fun j => if j = k then .slice gx s.length kx else V j, fun j => if j = k then bln else NB j, by omega, by go_num, (HR2.out.set k _).congr (fun j _ => ?_), fun j hj => ?_, ?_, ?_, HBW.out.setCell (Nat.le_refl _) _, by simp; omega⟩
        · by_cases e : j = k
          · subst e; simp
          · rw [if_neg e]; by_cases hj : j < k
            · rw [if_pos hj, if_pos (by omega)]; show V j = if j = k then _ else V j; rw [if_neg e]
            · rw [if_neg hj, if_neg (by omega)]
        · by_cases e : j = k
          · subst e; simp only [if_pos]; rw [HSK.out]
            exact HN.out.keep (fun g hg => Below.heap_setCell _ _ _ _ (Nat.ne_of_gt (HLN.out g hg)))
          · simp only [if_neg e]
            exact ((HU.out j (by omega)).below HB2.out).keep (fun g hg => Below.heap_setCell _ _ _ _ (Nat.ne_of_gt (HLO.out g (mem_flat (by omega) hg))))
        · rw [hfl]
          refine List.nodup_append.2 ⟨HND.out, HFR.out.nd, fun p hp p' hp' e => ?_⟩
          obtain ⟨i, hi, hp⟩ := of_mem_flat hp
          have h4 := (HU.out i hi).lt p hp
          have h5 := HFR.out.lo p' hp'
          omega
        · rw [hfl]
          intro g hg
          rcases List.mem_append.1 hg with hg | hg
          · exact HLO.out g hg
          · exact HLN.out g hg
      case measure => simp [intOf]; omega
    · have d1 : decide ((k : Int) < (L.length : Int)) = false := decide_eq_false (by omega)
      have e : k = L.length := by omega
      subst e
      clear hrow hu hnd hlo hbl
      go_wp2
      go_ret
      refine ⟨_, _, rfl, ⟨_, w.heap.size, 0, _, V, NB, rfl, fun _ => rfl, rfl, fun j hj => ⟨by rw [Nat.zero_add, HROW.out.cell hj, if_pos hj], HU.out j hj⟩⟩, ⟨?_, ?_, ?_⟩, HBL.out⟩
      · refine List.nodup_append.2 ⟨(Fr.one (w := w) (w' := wr) (Nat.le_refl _) hsz _).nd, HND.out, fun p hp p' hp' e => ?_⟩
        have h4 := HLO.out p' hp'
        have h5 : p = w.heap.size := by
          by_cases hz : 0 < L.length
          · rw [if_pos hz] at hp; exact List.mem_singleton.1 hp
          · rw [if_neg hz] at hp; cases hp
        omega
      · intro g hg
        rcases List.mem_append.1 hg with hg | hg
        · exact (Fr.one (w := w) (w' := wr) (Nat.le_refl _) hsz _).lo g hg
        · exact Nat.le_of_lt (HLO.out g hg)
      · intro g hg
        rcases List.mem_append.1 hg with hg | hg
        · exact (Fr.one (w := w) (w' := wr) (Nat.le_refl _) hsz _).hi g hg
        · obtain ⟨i, hi, hg⟩ := of_mem_flat hg
          exact (HU.out i hi).lt g hg
end Go.Proofs.YteicpjbeihabnaaDoor
