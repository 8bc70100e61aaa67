/-
  A Layout with its blocks; marked.
  toIntS with its block.
  toByteS with its block.
  toTarget with its blocks.
  toTargetS with its blocks.
-/
import Derived.Test.YtpoanbpgpgflcaaDoorJBgTg0
import Derived.Test.YtpoanbpgpgflcaaDoorJBgFL
import Derived.Test.YtpoanbpgpgflcaaDoorJBgB
import Derived.Laws.MakeOwn
import Derived.Test.YtpoanbpgpgflcaaDoorJBgTgS1
namespace Go.Proofs.YtpoanbpgpgflcaaDoor
open Go.RowKit

/-- It reads as d; its blocks. -/
def LyF (w : World) (d : Ly) (v2 v3 v4 : Value) (bl : List Nat) : Prop := ∃ bl2 bl3 bl4, bl = bl2 ++ (bl3 ++ (bl4)) ∧ IF w v2 d.cost bl2 ∧ IF w v3 d.exits bl3 ∧ TgSF w v4 d.targets bl4
theorem LyF.rd {w : World} {d : Ly} {v2 v3 v4 : Value} {bl : List Nat} (h : LyF w d v2 v3 v4 bl) : LyV w d v2 v3 v4 := by
  obtain ⟨bl2, bl3, bl4, _, h2, h3, h4⟩ := h
  exact ⟨h2.rd, h3.rd, h4.rd⟩
theorem LyF.keep {w w' : World} {d : Ly} {v2 v3 v4 : Value} {bl : List Nat} (h : LyF w d v2 v3 v4 bl) (hk : ∀ g ∈ bl, w'.heap[g]? = w.heap[g]?) : LyF w' d v2 v3 v4 bl := by
  obtain ⟨bl2, bl3, bl4, rfl, h2, h3, h4⟩ := h
  exact ⟨_, _, _, rfl, h2.keep (fun g hg => hk g (List.mem_append_left _ hg)), h3.keep (fun g hg => hk g (List.mem_append_right _ (List.mem_append_left _ hg))), h4.keep (fun g hg => hk g (List.mem_append_right _ (List.mem_append_right _ (hg))))⟩
theorem LyF.lt {w : World} {d : Ly} {v2 v3 v4 : Value} {bl : List Nat} (h : LyF w d v2 v3 v4 bl) : ∀ g ∈ bl, g < w.heap.size := by
  obtain ⟨bl2, bl3, bl4, rfl, h2, h3, h4⟩ := h
  intro g hg
  simp only [List.mem_append] at hg
  rcases hg with hg | hg | hg
  · exact h2.lt g hg
  · exact h3.lt g hg
  · exact h4.lt g hg
theorem LyF.below {w w' : World} {d : Ly} {v2 v3 v4 : Value} {bl : List Nat} (h : LyF w d v2 v3 v4 bl) (hb : Below w.heap.size w w') : LyF w' d v2 v3 v4 bl := h.keep fun g hg => hb.block g (h.lt g hg)
/-- It is marked from k on; its blocks. -/
def LyM (w : World) (d : Ly) (v2 v3 v4 : Value) (k : Nat) (bl : List Nat) : Prop := ∃ bl2 bl3 bl4, bl = bl2 ++ (bl3 ++ (bl4)) ∧ IM w v2 (d.cost.length) (k) bl2 ∧ IM w v3 (d.exits.length) (k + d.cost.length) bl3 ∧ TgSM w v4 d.targets (k + d.cost.length + d.exits.length) bl4
theorem LyM.keep {w w' : World} {d : Ly} {v2 v3 v4 : Value} {k : Nat} {bl : List Nat} (h : LyM w d v2 v3 v4 k bl) (hk : ∀ g ∈ bl, w'.heap[g]? = w.heap[g]?) : LyM w' d v2 v3 v4 k bl := by
  obtain ⟨bl2, bl3, bl4, rfl, h2, h3, h4⟩ := h
  exact ⟨_, _, _, rfl, h2.keep (fun g hg => hk g (List.mem_append_left _ hg)), h3.keep (fun g hg => hk g (List.mem_append_right _ (List.mem_append_left _ hg))), h4.keep (fun g hg => hk g (List.mem_append_right _ (List.mem_append_right _ (hg))))⟩
theorem LyM.lt {w : World} {d : Ly} {v2 v3 v4 : Value} {k : Nat} {bl : List Nat} (h : LyM w d v2 v3 v4 k bl) : ∀ g ∈ bl, g < w.heap.size := by
  obtain ⟨bl2, bl3, bl4, rfl, h2, h3, h4⟩ := h
  intro g hg
  simp only [List.mem_append] at hg
  rcases hg with hg | hg | hg
  · exact h2.lt g hg
  · exact h3.lt g hg
  · exact h4.lt g hg
theorem LyM.below {w w' : World} {d : Ly} {v2 v3 v4 : Value} {k : Nat} {bl : List Nat} (h : LyM w d v2 v3 v4 k bl) (hb : Below w.heap.size w w') : LyM w' d v2 v3 v4 k bl := h.keep fun g hg => hb.block g (h.lt g hg)
/-- How many marks it takes. -/
def LyNv (d : Ly) : Nat := d.cost.length + d.exits.length + (TgSn d.targets d.targets.length)
end Go.Proofs.YtpoanbpgpgflcaaDoor

namespace Go.Proofs.YtpoanbpgpgflcaaDoor
open Go.RowKit

theorem toI_f {w : World} {v : Value} {s : List Int} (hs : s.length ≤ 1048576) (h : IS w v s) :
    Calls Tryd.prog 19 #[v] w fun e w' => ∃ v' bl, e = .returned v' ∧ IF w' v' s bl ∧ Fr w w' bl ∧ Below w.heap.size w w' :=
  (toI_row v s w hs h).mono fun _ _ ⟨⟨c, he, _⟩, hlt, hf, hc, hb⟩ => ⟨_, _, he, ⟨_, w.heap.size, 0, c, rfl, fun _ => rfl, rfl, fun j hj => by rw [Nat.zero_add]; exact ⟨hc j hj, hf j⟩⟩, Fr.one (Nat.le_refl _) hlt _, hb⟩
end Go.Proofs.YtpoanbpgpgflcaaDoor

namespace Go.Proofs.YtpoanbpgpgflcaaDoor
open Go.RowKit

theorem toB_f {w : World} {v : Value} {s : ByteArray} (hs : s.size ≤ 1048576) (h : BS w v s) :
    Calls Tryd.prog 48 #[v] w fun e w' => ∃ v' bl, e = .returned v' ∧ BF w' v' s bl ∧ Fr w w' bl ∧ Below w.heap.size w w' :=
  (toB_bs hs h).mono fun _ _ ⟨h1, h2, h3⟩ => ⟨_, _, h1, ⟨_, w.heap.size, 0, _, rfl, fun _ => rfl, rfl, fun j hj => by rw [Nat.zero_add]; exact ⟨h2.cell j hj, h2.frozen j⟩⟩, Fr.one (Nat.le_refl _) h2.lt _, h3⟩
end Go.Proofs.YtpoanbpgpgflcaaDoor

namespace Go.Proofs.YtpoanbpgpgflcaaDoor
open Go.RowKit

set_option maxHeartbeats 4000000 in
set_option maxRecDepth 1000000 in
theorem toTg_f (d : Tg) (v0 : Value) (w : World) (hb : TgB d) (h : TgV w d v0) :
    Calls Tryd.prog 32 #[tgagg d v0] w fun e w' => ∃ v0' bl, e = .returned (tgagg d v0') ∧ TgF w' d v0' bl ∧ Fr w w' bl ∧ Below w.heap.size w w' := by
  obtain ⟨x0, x1, x2⟩ := d
  have HH := hide h
  have hk0 := hb.name
  simp only at hk0
  unfold tgagg
  simp only
  obtain ⟨W0, hW0⟩ : ∃ W, ((w.alloc (.cells #[v0, .int .i64 x1, .int .i64 x2] 67)).alloc (.cells #[.slice none 0 0, .int .i64 0, .int .i64 0] 69)).alloc (.cells #[.slice none 0 0, .int .i64 0, .int .i64 0] 69) = W := ⟨_, rfl⟩
  have hb0 : Below w.heap.size w W0 := by
    rw [← hW0]; exact (((Below.refl _ _).alloc (Nat.le_refl _) _).alloc (by simp) _).alloc (by simp; omega) _
  have hA : Blk W0 w.heap.size 67 #[v0, .int .i64 x1, .int .i64 x2] := by
    rw [← hW0]; exact ((Blk.new _ _ _).alloc _).alloc _
  have hO : Blk W0 (w.heap.size + 1 + 1) 69 #[.slice none 0 0, .int .i64 0, .int .i64 0] := by
    rw [← hW0]
    have := Blk.new ((w.alloc (.cells #[v0, .int .i64 x1, .int .i64 x2] 67)).alloc (.cells #[.slice none 0 0, .int .i64 0, .int .i64 0] 69)) 69 #[.slice none 0 0, .int .i64 0, .int .i64 0]
    simpa using this
  have hR : Blk W0 (w.heap.size + 1) 69 #[.slice none 0 0, .int .i64 0, .int .i64 0] := by
    rw [← hW0]
    have := (Blk.new (w.alloc (.cells #[v0, .int .i64 x1, .int .i64 x2] 67)) 69 #[.slice none 0 0, .int .i64 0, .int .i64 0]).alloc (.cells #[.slice none 0 0, .int .i64 0, .int .i64 0] 69)
    simpa using this
  have HR0 := hide hR
  have HB0 := hide hb0
  have HBZ : Hid (w.heap.size ≤ W0.heap.size) := hb0.size
  have HA0 := hide hA
  have HO0 := hide hO
  have HW := hide hW0
  clear h hb hb0 hA hO hR hW0
  go_enter Tryd.func32, Tryd.ntmps32
  go_wp2_with fail
  rw [HW.out]
  clear HW
  refine (toB_f (w := W0) (v := v0) hk0 (HH.out.name.below HB0.out)).mono ?_
  rintro e w2 ⟨u2, bl0, rfl, hs2, hr2, hb2⟩
  obtain ⟨g0, k0, rfl⟩ := hs2.slice
  have HS0_2 := hide hs2
  have HR_0 : Hid (Fr W0 w2 bl0) := hr2
  have HL_0 : Hid (∀ g ∈ bl0, w.heap.size + 1 + 1 < g) := fun g hg => Nat.lt_of_lt_of_le HO0.out.lt (hr2.lo g hg)
  have HZ_0 : Hid (W0.heap.size ≤ w2.heap.size) := hb2.size
  have HA2 := hide (HA0.out.below hb2)
  have HO2 := hide (HO0.out.below hb2)
  have HR2 := hide (HR0.out.below hb2)
  have HB2 : Hid (Below w.heap.size w w2) := HB0.out.trans (hb2.mono HB0.out.size)
  have a1 := HA2.out.cell 1
  have a2 := HA2.out.cell 2
  have c0 := HO2.out.cell 0
  have d0 := HO2.out.frozen 0
  have r0 := HR2.out.cell 0
  have s0 := HR2.out.frozen 0
  have c1 := HO2.out.cell 1
  have d1 := HO2.out.frozen 1
  have r1 := HR2.out.cell 1
  have s1 := HR2.out.frozen 1
  have c2 := HO2.out.cell 2
  have d2 := HO2.out.frozen 2
  have r2 := HR2.out.cell 2
  have s2 := HR2.out.frozen 2
  simp only [List.getElem?_toArray, List.getElem?_cons_succ, List.getElem?_cons_zero] at a1 a2 c0 c1 c2 r0 r1 r2
  clear hs2 hr2 hb2 HA0 HO0 HB0 HR0
  go_wp2
  (try simp only [Exit.inBlock, Exit.then])
  refine bodyPost_ret (results_cell_row rfl _ _ (w.heap.size + 1) 69 #[.slice g0 (x0.size) k0, .int .i64 x1, .int .i64 x2] (0, 0) _ rfl ?hg Tryd.underlying69 rfl (by kernel_rfl)) rfl ?_
  case hg => exact ((((((HR2.out.other 0 _ (by omega)).other 1 _ (by omega)).other 2 _ (by omega)).set 0 _).set 1 _).set 2 _)
  refine ⟨_, bl0, rfl, ?_, ?_, ?_⟩
  · exact HS0_2.out.keep (fun g hg => by
      have hn : ∀ g ∈ bl0, g ≠ w.heap.size + 1 + 1 ∧ g ≠ w.heap.size + 1 := fun g hg => by have := HL_0.out g hg; omega
      exact ((Below.heap_setCell _ _ _ _ (hn g hg).2).trans ((Below.heap_setCell _ _ _ _ (hn g hg).2).trans ((Below.heap_setCell _ _ _ _ (hn g hg).2).trans ((Below.heap_setCell _ _ _ _ (hn g hg).1).trans ((Below.heap_setCell _ _ _ _ (hn g hg).1).trans (Below.heap_setCell _ _ _ _ (hn g hg).1)))))))
  · exact HR_0.out.mono HBZ.out (by simp [World.size_setCell])
  · exact ((((((HB2.out.setCell (by show w.heap.size ≤ w.heap.size + 1 + 1; omega) _).setCell (by show w.heap.size ≤ w.heap.size + 1 + 1; omega) _).setCell (by show w.heap.size ≤ w.heap.size + 1 + 1; omega) _).setCell (by show w.heap.size ≤ w.heap.size + 1; omega) _).setCell (by show w.heap.size ≤ w.heap.size + 1; omega) _).setCell (by show w.heap.size ≤ w.heap.size + 1; omega) _)
end Go.Proofs.YtpoanbpgpgflcaaDoor

namespace Go.Proofs.YtpoanbpgpgflcaaDoor
open Go.RowKit

set_option maxHeartbeats 4000000 in
set_option maxRecDepth 1000000 in
theorem toTgS_f {w : World} {v : Value} {L : List Tg} (hs : TgSB L) (h : TgS w v L) :
    Calls Tryd.prog 20 #[v] w fun e w' => ∃ v' bl, e = .returned v' ∧ TgSF w' v' L bl ∧ Fr w w' bl ∧ Below w.heap.size w w' := by
  obtain ⟨a0, b, off, cap, rfl, ha, hc⟩ := h
  obtain ⟨hs, hz⟩ := hs
  obtain ⟨i0, hi0, hz0, hsz0, hby0⟩ : ∃ i : TypeInfo, Tryd.prog.info? 69 = some i ∧ i.zero = some (.agg #[.slice none 0 0, .int .i64 0, .int .i64 0]) ∧ i.size = 3 ∧ i.bytes = 40 := ⟨_, rfl, by kernel_rfl, by kernel_rfl, by kernel_rfl⟩
  have hmk := run_make (P := Tryd.prog) w 31 69 i0 _ Tryd.underlying31 hi0 hz0 .i64 .i64 L.length L.length (by omega) (Int.le_refl _) (by rw [hby0]; omega) (by omega)
  simp only [Int.toNat_natCast, hsz0] at hmk
  obtain ⟨CS, hCS⟩ : ∃ CS, madeCells (Value.agg #[.slice none 0 0, .int .i64 0, .int .i64 0]).cells (L.length * 3) = CS := ⟨_, rfl⟩
  have hCz : CS.size = L.length * 3 := by rw [← hCS]; exact size_madeCells _ _
  rw [hCS] at hmk
  have HC := hide hc
  have HZ := hide hz
  have HCZ := hide hCz
  clear hc hz hCS hCz hi0 hz0 hsz0 hby0
  go_enter Tryd.func20, Tryd.ntmps20
  go_wp2
  clear hmk
  go_loopw [4] (fun i wr => ∃ (k : Nat) (V : Nat → Value) (NB : Nat → List Nat), k ≤ L.length ∧ i = .int .i64 k ∧ (∃ cur, Blk wr w.heap.size 69 cur ∧ cur.size = L.length * 3) ∧ (∀ j, j < k → TgC wr w.heap.size (j * 3) (L.getD j .zero) (V j) ∧ TgF wr (L.getD j .zero) (V j) (NB j)) ∧ ((List.range k).map NB).flatten.Nodup ∧ (∀ g ∈ ((List.range k).map NB).flatten, w.heap.size < g) ∧ Below w.heap.size w wr) (fun i _ => L.length - (intOf i).toNat)
  case atStart => exact ⟨0, fun _ => .slice none 0 0, fun _ => [], Nat.zero_le _, rfl, ⟨CS, Blk.new _ _ _, HCZ.out⟩, fun j hj => absurd hj (Nat.not_lt_zero _), List.nodup_nil, fun g hg => (by cases hg), (Below.refl _ _).alloc (Nat.le_refl _) _⟩
  case round =>
    obtain ⟨k, V, NB, hk, rfl, hrow, hu, hnd, hlo, hbl⟩ := hrel
    have HROW := hide hrow
    have HU := hide hu
    have HND := hide hnd
    have HLO := hide hlo
    have HBL := hide hbl
    by_cases hlt : k < L.length
    · obtain rfl := ha (by omega)
      obtain ⟨v0, hnc, hnv⟩ := HC.out k hlt
      have hnb := HZ.out k hlt
      obtain ⟨d, hd⟩ : ∃ d, L.getD k .zero = d := ⟨_, rfl⟩
      rw [hd] at hnc hnv hnb
      have HD := hide hd
      have HT := hide (toTg_f d v0 wr hnb (hnv.below hbl))
      obtain ⟨g0, g1, g2⟩ := hnc.below hbl
      unfold tgagg at HT
      obtain ⟨x0, x1, x2⟩ := d
      simp only at HT g1 g2
      have d1 : decide ((k : Int) < (L.length : Int)) = true := decide_eq_true (by omega)
      clear hrow hu hnd hlo hbl hnc hnv hnb hd
      go_wp2_with fail
      refine HT.out.mono ?_
      rintro e w2 ⟨v0', bln, rfl, hno, hfr, hb2⟩
      obtain ⟨cur, hcur0, hcz⟩ := HROW.out
      obtain ⟨g0', k0', rfl⟩ := BF.slice hno
      have HN2 := hide hno
      have HFR := hide hfr
      have hcur := hcur0.below hb2
      have HLN : Hid (∀ g ∈ bln, w.heap.size < g) := fun g hg => Nat.lt_of_lt_of_le hcur0.lt (hfr.lo g hg)
      obtain ⟨z0, r0⟩ := row_cellTg ⟨cur, hcur, hcz⟩ (k * 3) (by omega)
      have s0 := hcur.frozen (k * 3)
      obtain ⟨z1, r1⟩ := row_cellTg ⟨cur, hcur, hcz⟩ (k * 3 + 1) (by omega)
      have s1 := hcur.frozen (k * 3 + 1)
      obtain ⟨z2, r2⟩ := row_cellTg ⟨cur, hcur, hcz⟩ (k * 3 + 2) (by omega)
      have s2 := hcur.frozen (k * 3 + 2)
      have HCUR := hide hcur
      have HCZ2 := hide hcz
      have HB2 := hide hb2
      have HBW : Hid (Below w.heap.size w w2) := HBL.out.trans (hb2.mono HBL.out.size)
      clear hcur hcz hb2 hno hfr hcur0 HT
      go_wp2
      go_roundw
      case rel =>
        have hp6 : k * 3 + 3 ≤ cur.size := by have := HCZ2.out; omega
        obtain ⟨cur', h1, h2, ⟨m0, m1, m2⟩, h3⟩ := setTg HCUR.out hp6 (.slice g0' (x0.size) k0') (.int .i64 x1) (.int .i64 x2)
        have hfl : ((List.range (k + 1)).map (fun j => if j = k then bln else NB j)).flatten = ((List.range k).map NB).flatten ++ bln := by
          rw [List.range_succ, List.map_append, List.flatten_append]
          congr 1
          · congr 1
            refine List.map_congr_left (fun j hj => ?_)
            have := List.mem_range.1 hj
            rw [if_neg (by omega)]
          · simp
        refine ⟨k + 1, fun j => if j = k then (.slice g0' (x0.size) k0') else V j, fun j => if j = k then bln else NB j, by omega, by go_num, ⟨cur', h1, h2.trans HCZ2.out⟩, fun j hj => ?_, ?_, ?_, (((HBW.out.setCell (Nat.le_refl _) _).setCell (Nat.le_refl _) _).setCell (Nat.le_refl _) _)⟩
        · by_cases e : j = k
          · subst e
            rw [HD.out]
            simp only [if_pos]
            exact ⟨⟨(h1.cell _).trans m0, (h1.cell _).trans m1, (h1.cell _).trans m2⟩, TgF.keep HN2.out (fun g hg => by
              have hne : g ≠ w.heap.size := Nat.ne_of_gt (HLN.out g hg)
              exact ((Below.heap_setCell _ _ _ _ hne).trans ((Below.heap_setCell _ _ _ _ hne).trans (Below.heap_setCell _ _ _ _ hne))))⟩
          · simp only [if_neg e]
            obtain ⟨q1, q2⟩ := HU.out j (by omega)
            have q1' := q1.below HB2.out
            have c : ∀ i, i < 3 → cur'[j * 3 + i]? = cur[j * 3 + i]? := fun i hi => h3 _ (by omega)
            exact ⟨⟨(h1.cell _).trans ((c 0 (by omega)).trans ((HCUR.out.cell _).symm.trans q1'.name)), (h1.cell _).trans ((c 1 (by omega)).trans ((HCUR.out.cell _).symm.trans q1'.kind)), (h1.cell _).trans ((c 2 (by omega)).trans ((HCUR.out.cell _).symm.trans q1'.cell))⟩, (q2.below HB2.out).keep (fun g hg => by
              have hne : g ≠ w.heap.size := Nat.ne_of_gt (HLO.out g (mem_flat (by omega) hg))
              exact ((Below.heap_setCell _ _ _ _ hne).trans ((Below.heap_setCell _ _ _ _ hne).trans (Below.heap_setCell _ _ _ _ hne))))⟩
        · rw [hfl]
          refine List.nodup_append.2 ⟨HND.out, HFR.out.nd, fun p hp p' hp' e => ?_⟩
          obtain ⟨i, hi, hp⟩ := of_mem_flat hp
          have h4 := (HU.out i hi).2.lt p hp
          have h5 := HFR.out.lo p' hp'
          omega
        · rw [hfl]
          intro g hg
          rcases List.mem_append.1 hg with hg | hg
          · exact HLO.out g hg
          · exact HLN.out g hg
      case measure => simp [intOf]; omega
    · have d1 : decide ((k : Int) < (L.length : Int)) = false := decide_eq_false (by omega)
      have e : k = L.length := by omega
      subst e
      clear hrow hu hnd hlo hbl
      go_wp2
      go_ret
      obtain ⟨cur, hcur0, _⟩ := HROW.out
      refine ⟨_, _, rfl, ⟨_, w.heap.size, 0, _, V, NB, rfl, fun _ => rfl, rfl, fun j _ => by rw [Nat.zero_add]; exact hcur0.frozen j, fun j hj => ?_⟩, ⟨?_, ?_, ?_⟩, HBL.out⟩
      · rw [Nat.zero_add]; exact HU.out j hj
      · refine List.nodup_append.2 ⟨(Fr.one (w := w) (w' := wr) (Nat.le_refl _) hcur0.lt _).nd, HND.out, fun p hp p' hp' e => ?_⟩
        have h4 := HLO.out p' hp'
        have h5 : p = w.heap.size := by
          by_cases hz : 0 < L.length
          · rw [if_pos hz] at hp; exact List.mem_singleton.1 hp
          · rw [if_neg hz] at hp; cases hp
        omega
      · intro g hg
        rcases List.mem_append.1 hg with hg | hg
        · exact (Fr.one (w := w) (w' := wr) (Nat.le_refl _) hcur0.lt _).lo g hg
        · exact Nat.le_of_lt (HLO.out g hg)
      · intro g hg
        rcases List.mem_append.1 hg with hg | hg
        · exact (Fr.one (w := w) (w' := wr) (Nat.le_refl _) hcur0.lt _).hi g hg
        · obtain ⟨i, hi, hg⟩ := of_mem_flat hg
          exact (HU.out i hi).2.lt g hg
end Go.Proofs.YtpoanbpgpgflcaaDoor
