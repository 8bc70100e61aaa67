/-
  toTargetS with its blocks.
-/
import Derived.Test.YteicpjbeihabnaaDoorJRunFleetTgSF
import Derived.Test.YteicpjbeihabnaaDoorJRunFleetIIST
import Derived.Test.YteicpjbeihabnaaDoorJRunFleetTgS1
namespace Go.Proofs.YteicpjbeihabnaaDoor
open Go.RowKit

set_option maxHeartbeats 4000000 in
set_option maxRecDepth 1000000 in
theorem toTgS_f {w : World} {v : Value} {L : List Tg} (hs : TgSB L) (h : TgS w v L) :
    Calls Tryd.prog 41 #[v] w fun e w' => ∃ v' bl, e = .returned v' ∧ TgSF w' v' L bl ∧ Fr w w' bl ∧ Below w.heap.size w w' := by
  obtain ⟨a0, b, off, cap, rfl, ha, hc⟩ := h
  obtain ⟨hs, hz⟩ := hs
  obtain ⟨i0, hi0, hz0, hsz0, hby0⟩ : ∃ i : TypeInfo, Tryd.prog.info? 66 = some i ∧ i.zero = some (.agg #[.slice none 0 0, .int .i64 0, .int .i64 0]) ∧ i.size = 3 ∧ i.bytes = 40 := ⟨_, rfl, by kernel_rfl, by kernel_rfl, by kernel_rfl⟩
  have hmk := run_make (P := Tryd.prog) w 29 66 i0 _ Tryd.underlying29 hi0 hz0 .i64 .i64 L.length L.length (by omega) (Int.le_refl _) (by rw [hby0]; omega) (by omega)
  simp only [Int.toNat_natCast, hsz0] at hmk
  obtain ⟨CS, hCS⟩ : ∃ CS, madeCells (Value.agg #[.slice none 0 0, .int .i64 0, .int .i64 0]).cells (L.length * 3) = CS := ⟨_, rfl⟩
  have hCz : CS.size = L.length * 3 := by rw [← hCS]; exact size_madeCells _ _
  rw [hCS] at hmk
  have HC := hide hc
  have HZ := hide hz
  have HCZ := hide hCz
  clear hc hz hCS hCz hi0 hz0 hsz0 hby0
  go_enter Tryd.func41, Tryd.ntmps41
  go_wp2
  clear hmk
  go_loopw [4] (fun i wr => ∃ (k : Nat) (V : Nat → Value) (NB : Nat → List Nat), k ≤ L.length ∧ i = .int .i64 k ∧ (∃ cur, Blk wr w.heap.size 66 cur ∧ cur.size = L.length * 3) ∧ (∀ j, j < k → TgC wr w.heap.size (j * 3) (L.getD j .zero) (V j) ∧ TgF wr (L.getD j .zero) (V j) (NB j)) ∧ ((List.range k).map NB).flatten.Nodup ∧ (∀ g ∈ ((List.range k).map NB).flatten, w.heap.size < g) ∧ Below w.heap.size w wr) (fun i _ => L.length - (intOf i).toNat)
  case atStart => exact ⟨0, fun _ => .slice none 0 0, fun _ => [], Nat.zero_le _, rfl, ⟨CS, Blk.new _ _ _, HCZ.out⟩, fun j hj => absurd hj (Nat.not_lt_zero _), List.nodup_nil, fun g hg => (by cases hg), (Below.refl _ _).alloc (Nat.le_refl _) _⟩
  case round =>
    obtain ⟨k, V, NB, hk, rfl, hrow, hu, hnd, hlo, hbl⟩ := hrel
    have HROW := hide hrow
    have HU := hide hu
    have HND := hide hnd
    have HLO := hide hlo
    have HBL := hide hbl
    by_cases hlt : k < L.length
    · obtain rfl := ha (by omega)
      obtain ⟨v0, hnc, hnv⟩ := HC.out k hlt
      have hnb := HZ.out k hlt
      obtain ⟨d, hd⟩ : ∃ d, L.getD k .zero = d := ⟨_, rfl⟩
      rw [hd] at hnc hnv hnb
      have HD := hide hd
      have HT := hide (toTg_f d v0 wr hnb (hnv.below hbl))
      obtain ⟨g0, g1, g2⟩ := hnc.below hbl
      unfold tgagg at HT
      obtain ⟨x0, x1, x2⟩ := d
      simp only at HT g1 g2
      have d1 : decide ((k : Int) < (L.length : Int)) = true := decide_eq_true (by omega)
      clear hrow hu hnd hlo hbl hnc hnv hnb hd
      go_wp2_with fail
      refine HT.out.mono ?_
      rintro e w2 ⟨v0', bln, rfl, hno, hfr, hb2⟩
      obtain ⟨cur, hcur0, hcz⟩ := HROW.out
      obtain ⟨g0', k0', rfl⟩ := BF.slice hno
      have HN2 := hide hno
      have HFR := hide hfr
      have hcur := hcur0.below hb2
      have HLN : Hid (∀ g ∈ bln, w.heap.size < g) := fun g hg => Nat.lt_of_lt_of_le hcur0.lt (hfr.lo g hg)
      obtain ⟨z0, r0⟩ := row_cellTg ⟨cur, hcur, hcz⟩ (k * 3) (by omega)
      have s0 := hcur.frozen (k * 3)
      obtain ⟨z1, r1⟩ := row_cellTg ⟨cur, hcur, hcz⟩ (k * 3 + 1) (by omega)
      have s1 := hcur.frozen (k * 3 + 1)
      obtain ⟨z2, r2⟩ := row_cellTg ⟨cur, hcur, hcz⟩ (k * 3 + 2) (by omega)
      have s2 := hcur.frozen (k * 3 + 2)
      have HCUR := hide hcur
      have HCZ2 := hide hcz
      have HB2 := hide hb2
      have HBW : Hid (Below w.heap.size w w2) := HBL.out.trans (hb2.mono HBL.out.size)
      clear hcur hcz hb2 hno hfr hcur0 HT
      go_wp2
      go_roundw
      case rel =>
        have hp6 : k * 3 + 3 ≤ cur.size := by have := HCZ2.out; omega
        obtain ⟨cur', h1, h2, ⟨m0, m1, m2⟩, h3⟩ := setTg HCUR.out hp6 (.slice g0' (x0.size) k0') (.int .i64 x1) (.int .i64 x2)
        have hfl : ((List.range (k + 1)).map (fun j => if j = k then bln else NB j)).flatten = ((List.range k).map NB).flatten ++ bln := by
          rw [List.range_succ, List.map_append, List.flatten_append]
          congr 1
          · congr 1
            refine List.map_congr_left (fun j hj => ?_)
            have := List.mem_range.1 hj
            rw [if_neg (by omega)]
          · simp
        refine ⟨k + 1, fun j => if j = k then (.slice g0' (x0.size) k0') else V j, fun j => if j = k then bln else NB j, by omega, by go_num, ⟨cur', h1, h2.trans HCZ2.out⟩, fun j hj => ?_, ?_, ?_, (((HBW.out.setCell (Nat.le_refl _) _).setCell (Nat.le_refl _) _).setCell (Nat.le_refl _) _)⟩
        · by_cases e : j = k
          · subst e
            rw [HD.out]
            simp only [if_pos]
            exact ⟨⟨(h1.cell _).trans m0, (h1.cell _).trans m1, (h1.cell _).trans m2⟩, TgF.keep HN2.out (fun g hg => by
              have hne : g ≠ w.heap.size := Nat.ne_of_gt (HLN.out g hg)
              exact ((Below.heap_setCell _ _ _ _ hne).trans ((Below.heap_setCell _ _ _ _ hne).trans (Below.heap_setCell _ _ _ _ hne))))⟩
          · simp only [if_neg e]
            obtain ⟨q1, q2⟩ := HU.out j (by omega)
            have q1' := q1.below HB2.out
            have c : ∀ i, i < 3 → cur'[j * 3 + i]? = cur[j * 3 + i]? := fun i hi => h3 _ (by omega)
            exact ⟨⟨(h1.cell _).trans ((c 0 (by omega)).trans ((HCUR.out.cell _).symm.trans q1'.name)), (h1.cell _).trans ((c 1 (by omega)).trans ((HCUR.out.cell _).symm.trans q1'.kind)), (h1.cell _).trans ((c 2 (by omega)).trans ((HCUR.out.cell _).symm.trans q1'.cell))⟩, (q2.below HB2.out).keep (fun g hg => by
              have hne : g ≠ w.heap.size := Nat.ne_of_gt (HLO.out g (mem_flat (by omega) hg))
              exact ((Below.heap_setCell _ _ _ _ hne).trans ((Below.heap_setCell _ _ _ _ hne).trans (Below.heap_setCell _ _ _ _ hne))))⟩
        · rw [hfl]
          refine List.nodup_append.2 ⟨HND.out, HFR.out.nd, fun p hp p' hp' e => ?_⟩
          obtain ⟨i, hi, hp⟩ := of_mem_flat hp
          have h4 := (HU.out i hi).2.lt p hp
          have h5 := HFR.out.lo p' hp'
          omega
        · rw [hfl]
          intro g hg
          rcases List.mem_append.1 hg with hg | hg
          · exact HLO.out g hg
          · exact HLN.out g hg
      case measure => simp [intOf]; omega
    · have d1 : decide ((k : Int) < (L.length : Int)) = false := decide_eq_false (by omega)
      have e : k = L.length := by omega
      subst e
      clear hrow hu hnd hlo hbl
      go_wp2
      go_ret
      obtain ⟨cur, hcur0, _⟩ := HROW.out
      refine ⟨_, _, rfl, ⟨_, w.heap.size, 0, _, V, NB, rfl, fun _ => rfl, rfl, fun j _ => by rw [Nat.zero_add]; exact hcur0.frozen j, fun j hj => ?_⟩, ⟨?_, ?_, ?_⟩, HBL.out⟩
      · rw [Nat.zero_add]; exact HU.out j hj
      · refine List.nodup_append.2 ⟨(Fr.one (w := w) (w' := wr) (Nat.le_refl _) hcur0.lt _).nd, HND.out, fun p hp p' hp' e => ?_⟩
        have h4 := HLO.out p' hp'
        have h5 : p = w.heap.size := by
          by_cases hz : 0 < L.length
          · rw [if_pos hz] at hp; exact List.mem_singleton.1 hp
          · rw [if_neg hz] at hp; cases hp
        omega
      · intro g hg
        rcases List.mem_append.1 hg with hg | hg
        · exact (Fr.one (w := w) (w' := wr) (Nat.le_refl _) hcur0.lt _).lo g hg
        · exact Nat.le_of_lt (HLO.out g hg)
      · intro g hg
        rcases List.mem_append.1 hg with hg | hg
        · exact (Fr.one (w := w) (w' := wr) (Nat.le_refl _) hcur0.lt _).hi g hg
        · obtain ⟨i, hi, hg⟩ := of_mem_flat hg
          exact (HU.out i hi).2.lt g hg
end Go.Proofs.YteicpjbeihabnaaDoor
