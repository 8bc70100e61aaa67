/-
  The walks of toByteS and eqByteS.
  toByteS, eqByteS in short words.
  The walk of szByteS.
  Bytes: toByteS, szByteS in the words of all kinds.
  The walk of toTarget.
-/
import Derived.Test.YtpoanbpgpgflcaaDoorJBgB0
import Derived.Test.YtpoanbpgpgflcaaDoorJBgTg0
import Derived.Laws.MakeOwn
namespace Go.Proofs.YtpoanbpgpgflcaaDoor
open Go.RowKit

set_option maxHeartbeats 400000 in
theorem toB_any (a0 : Option Addr) (b off cap : Nat) (s : ByteArray) (w : World) (hs : s.size ≤ 1048576) (ha : 0 < s.size → a0 = some ⟨b, off, none⟩)
    (hc : ∀ j, j < s.size → w.cell? ⟨b, off + j, none⟩ = some (bts s j)) :
    Calls Tryd.prog 48 #[.slice a0 s.size cap] w fun e w' => e = .returned (.slice (some ⟨w.heap.size, 0, none⟩) s.size s.size) ∧ w'.rowIs w.heap.size 5 s.size (bts s) ∧ Below w.heap.size w w' ∧ w'.heap.size = w.heap.size + 1 := by
  have hmk := run_make_row' (P := Tryd.prog) 65 5 (.int .u8 0) 1 Tryd.underlying65 Tryd.info5 rfl .i64 .i64 s.size (by omega) (by omega)
  go_enter Tryd.func48, Tryd.ntmps48
  go_wp2
  clear hmk
  go_loopw [4] (fun i wr => ∃ k : Nat, k ≤ s.size ∧ i = .int .i64 k ∧ wr.rowIs w.heap.size 5 s.size (fun j => if j < k then bts s j else .int .u8 0) ∧ Below w.heap.size w wr ∧ wr.heap.size = w.heap.size + 1) (fun i _ => s.size - (intOf i).toNat)
  case atStart => exact ⟨0, Nat.zero_le _, rfl, (World.rowIs_made w _ s.size 5).congr (fun j _ => by simp), (Below.refl _ _).alloc (Nat.le_refl _) _, by simp⟩
  case round =>
    obtain ⟨k, hk, rfl, hrow, hbl, hsz⟩ := hrel
    by_cases hlt : k < s.size
    · obtain rfl := ha (by omega)
      have hb : b < w.heap.size := World.block_lt_of_cell? _ _ (hc k hlt)
      have hcb : bts s k = .int .u8 ((s.get! k).toNat : Int) := rfl
      have hbd : ((s.get! k).toNat : Int) < 256 := by have := (s.get! k).toNat_lt; omega
      have g0 : wr.cell? ⟨b, off + k, none⟩ = some (.int .u8 ((s.get! k).toNat : Int)) := by rw [hbl.cell (p := ⟨b, off + k, none⟩) hb]; exact hc k hlt
      have g1 : wr.cell? ⟨w.heap.size, k, none⟩ = some (.int .u8 0) := by rw [hrow.cell hlt]; simp
      have g2 : wr.frozen? ⟨w.heap.size, k, none⟩ = false := hrow.frozen k
      clear hcb
      go_wp2
      go_roundw
      case rel => exact ⟨k + 1, by omega, by go_num, (hrow.set k _).congr (fun j _ => by
          by_cases e : j = k
          · subst e; simp [bts]
          · rw [if_neg e]; by_cases hj : j < k
            · rw [if_pos hj, if_pos (by omega)]
            · rw [if_neg hj, if_neg (by omega)]), hbl.setCell (Nat.le_refl _) _, by simp [hsz]⟩
      case measure => simp [intOf]; omega
    · go_wp2
      go_ret
      exact ⟨rfl, hrow.congr (fun j hj => by rw [if_pos (by omega)]), hbl, hsz⟩

set_option maxHeartbeats 400000 in
theorem eqB_any (a1 a2 : Option Addr) (b1 o1 c1 b2 o2 c2 : Nat) (s t : ByteArray) (w : World) (hs : s.size ≤ 1048576) (_ht : t.size ≤ 1048576) (h1 : 0 < s.size → a1 = some ⟨b1, o1, none⟩) (h2 : 0 < t.size → a2 = some ⟨b2, o2, none⟩)
    (hc1 : ∀ j, j < s.size → w.cell? ⟨b1, o1 + j, none⟩ = some (bts s j)) (hc2 : ∀ j, j < t.size → w.cell? ⟨b2, o2 + j, none⟩ = some (bts t j)) :
    Calls Tryd.prog 56 #[.slice a1 s.size c1, .slice a2 t.size c2] w fun e w' => e = .returned (.bool (decide (s = t))) ∧ ∃ n, w' = w.drewN n := by
  by_cases hst : s.size = t.size
  · have hne : ((s.size : Int) != (t.size : Int)) = false := by rw [bne_eq_false_iff_eq]; omega
    have HST : Hid (s.size = t.size) := hst
    have hle : s.size ≤ t.size := by omega
    have hge : t.size ≤ s.size := by omega
    clear hst
    go_enter Tryd.func56, Tryd.ntmps56
    go_wp2
    go_loopw [5] (fun i wr => ∃ k n : Nat, k ≤ s.size ∧ i = .int .i64 k ∧ wr = w.drewN n ∧ ∀ j, j < k → s.get! j = t.get! j) (fun i _ => s.size - (intOf i).toNat)
    case atStart => exact ⟨0, 0, Nat.zero_le _, rfl, rfl, fun j hj => absurd hj (Nat.not_lt_zero _)⟩
    case round =>
      obtain ⟨k, n, hk, rfl, rfl, heq⟩ := hrel
      by_cases hlt : k < s.size
      · obtain rfl := h1 (by omega)
        obtain rfl := h2 (by omega)
        have HEQ : Hid (∀ j, j < k → s.get! j = t.get! j) := heq
        have g1 : w.cell? ⟨b1, o1 + k, none⟩ = some (.int .u8 ((s.get! k).toNat : Int)) := hc1 k hlt
        have g2 : w.cell? ⟨b2, o2 + k, none⟩ = some (.int .u8 ((t.get! k).toNat : Int)) := hc2 k (by omega)
        have hlt2 : k < t.size := by omega
        clear hc1 hc2 heq h1 h2
        by_cases hkk : s.get! k = t.get! k
        · have hbb : (((s.get! k).toNat : Int) != ((t.get! k).toNat : Int)) = false := by rw [hkk]; simp
          have HKK : Hid (s.get! k = t.get! k) := hkk
          clear hkk
          go_wp2
          go_region
          all_goals go_wp2
          all_goals
            go_roundw
            case rel => exact ⟨k + 1, _, by omega, by go_num, rfl, fun j hj => by
              by_cases e : j = k
              · rw [e]; exact HKK.out
              · exact HEQ.out j (by omega)⟩
            case measure => simp [intOf]; omega
        · have hbb : (((s.get! k).toNat : Int) != ((t.get! k).toNat : Int)) = true := by
            rw [bne_iff_ne]; intro e; exact hkk (UInt8.toNat_inj.1 (by omega))
          have HKK : Hid (¬ s.get! k = t.get! k) := hkk
          clear hkk
          go_wp2
          go_region
          all_goals go_wp2
          all_goals go_ret
          all_goals exact ⟨ret_bool (by symm; rw [decide_eq_false_iff_not]; intro e; exact HKK.out (by rw [e])), _, rfl⟩
      · go_wp2
        go_ret
        exact ⟨ret_bool (by symm; rw [decide_eq_true_iff]; exact ext_bytes HST.out (fun j hj => heq j (by omega))), n, rfl⟩
  · have hne : ((s.size : Int) != (t.size : Int)) = true := by rw [bne_iff_ne]; omega
    have HST : Hid (¬ s.size = t.size) := hst
    clear hst
    go_enter Tryd.func56, Tryd.ntmps56
    go_wp2
    go_ret
    exact ⟨ret_bool (by symm; rw [decide_eq_false_iff_not]; intro e; exact HST.out (by rw [e])), 0, rfl⟩

end Go.Proofs.YtpoanbpgpgflcaaDoor

namespace Go.Proofs.YtpoanbpgpgflcaaDoor
open Go.RowKit

/-- A copy of bytes in a block of its own, none of it frozen. -/
structure BN (w : World) (g : Nat) (s : ByteArray) : Prop where
  lt : g < w.heap.size
  cell : ∀ j, j < s.size → w.cell? ⟨g, j, none⟩ = some (bts s j)
  frozen : ∀ j, w.frozen? ⟨g, j, none⟩ = false
theorem BN.bs {w : World} {g : Nat} {s : ByteArray} (h : BN w g s) (c : Nat) : BS w (.slice (some ⟨g, 0, none⟩) s.size c) s :=
  ⟨_, g, 0, c, rfl, fun _ => rfl, fun j hj => by rw [Nat.zero_add]; exact h.cell j hj⟩
theorem BN.below {w w' : World} {g : Nat} {s : ByteArray} (h : BN w g s) (hb : Below w.heap.size w w') : BN w' g s :=
  ⟨by have := hb.size; have := h.lt; omega, fun j hj => cell_kept (h.cell j hj) hb, fun j => by rw [hb.frozen (p := ⟨g, j, none⟩) h.lt]; exact h.frozen j⟩

theorem toB_bs {w : World} {v : Value} {s : ByteArray} (hs : s.size ≤ 1048576) (h : BS w v s) :
    Calls Tryd.prog 48 #[v] w fun e w' => e = .returned (.slice (some ⟨w.heap.size, 0, none⟩) s.size s.size) ∧ BN w' w.heap.size s ∧ Below w.heap.size w w' := by
  obtain ⟨a, b, o, c, rfl, ha, hc⟩ := h
  exact (toB_any a b o c s w hs ha hc).mono fun e w' ⟨h1, h2, h3, _⟩ => ⟨h1, ⟨h2.lt, fun j hj => h2.cell hj, h2.frozen⟩, h3⟩

theorem eqB_bs {w : World} {v1 v2 : Value} {s t : ByteArray} (hs : s.size ≤ 1048576) (ht : t.size ≤ 1048576) (h1 : BS w v1 s) (h2 : BS w v2 t) :
    Calls Tryd.prog 56 #[v1, v2] w fun e w' => e = .returned (.bool (decide (s = t))) ∧ Below w.heap.size w w' := by
  obtain ⟨a1, b1, o1, c1, rfl, ha1, hc1⟩ := h1
  obtain ⟨a2, b2, o2, c2, rfl, ha2, hc2⟩ := h2
  exact (eqB_any a1 a2 b1 o1 c1 b2 o2 c2 s t w hs ht ha1 ha2 hc1 hc2).mono fun _ _ ⟨h1, n, h2⟩ => ⟨h1, by rw [h2]; exact below_drewN (Below.refl _ _) n⟩
theorem eqB_self {w : World} {v1 v2 : Value} {s : ByteArray} (hs : s.size ≤ 1048576) (h1 : BS w v1 s) (h2 : BS w v2 s) :
    Calls Tryd.prog 56 #[v1, v2] w fun e w' => e = .returned (.bool true) ∧ Below w.heap.size w w' := by
  have H := eqB_bs hs hs h1 h2
  rw [decide_eq_true (rfl : s = s)] at H
  exact H
end Go.Proofs.YtpoanbpgpgflcaaDoor

namespace Go.Proofs.YtpoanbpgpgflcaaDoor
open Go.RowKit

set_option maxHeartbeats 400000 in
set_option maxRecDepth 1000000 in
theorem szB_any (a : Option Addr) (n c : Nat) (left : Int) (w : World) (h0 : 0 ≤ left) (hl : left ≤ 1048576) (hn : (n : Int) ≤ 9223372036854775807) :
    Calls Tryd.prog 46 #[.slice a n c, .int .i64 left] w fun e w' => e = .returned (.int .i64 (szl n left)) ∧ w' = w := by
  have e1 : IntKind.i64.wrap (left - (n : Int)) = left - n := by rw [IntKind.wrap_i64]; omega
  by_cases c1 : left - (n : Int) < 0
  · have HZ : Hid (szl n left = -1) := by show _ = _; unfold szl; rw [if_pos c1]
    have d1 : decide (left - (n : Int) < 0) = true := decide_eq_true c1
    go_enter Tryd.func46, Tryd.ntmps46
    go_wp2
    go_ret
    exact ⟨by rw [HZ.out]; rfl, by trivial⟩
  · have HZ : Hid (szl n left = left - n) := by show _ = _; unfold szl; rw [if_neg c1]
    have d1 : decide (left - (n : Int) < 0) = false := decide_eq_false c1
    go_enter Tryd.func46, Tryd.ntmps46
    go_wp2
    go_ret
    exact ⟨by rw [HZ.out]; first | rfl | exact ret_int (by omega), by trivial⟩

end Go.Proofs.YtpoanbpgpgflcaaDoor

namespace Go.Proofs.YtpoanbpgpgflcaaDoor
open Go.RowKit

theorem toB_cp {w : World} {v : Value} {s : ByteArray} (hs : s.size ≤ 1048576) (h : BS w v s) :
    Calls Tryd.prog 48 #[v] w fun e w' => ∃ v', e = .returned v' ∧ (∀ G, G < w.heap.size → BO w' G v' s) ∧ Below w.heap.size w w' :=
  (toB_bs hs h).mono fun e w' ⟨h1, h2, h3⟩ => ⟨_, h1, fun G hG => ⟨w.heap.size, hG, h2.lt, rfl, h2.frozen, fun j hj => by rw [Nat.zero_add]; exact h2.cell j hj⟩, h3⟩
theorem szB_r {w : World} {v : Value} {s : ByteArray} {left : Int} (h0 : 0 ≤ left) (hl : left ≤ 1048576) (hn : (s.size : Int) ≤ 9223372036854775807) (h : BS w v s) :
    Calls Tryd.prog 46 #[v, .int .i64 left] w fun e w' => ∃ r, e = .returned (.int .i64 r) ∧ -1 ≤ r ∧ r ≤ left ∧ (0 ≤ r → s.size ≤ 1048576) ∧ Below w.heap.size w w' := by
  obtain ⟨a, _, _, c, rfl, _, _⟩ := h
  obtain ⟨k1, k2, k3⟩ := szl_le s.size left h0
  exact (szB_any a s.size c left w h0 hl hn).mono fun e w' ⟨h1, h2⟩ => ⟨_, h1, k1, k2, fun h => by have := k3 h; omega, by rw [h2]; exact Below.refl _ _⟩
end Go.Proofs.YtpoanbpgpgflcaaDoor

namespace Go.Proofs.YtpoanbpgpgflcaaDoor
open Go.RowKit

set_option maxHeartbeats 2000000 in
set_option maxRecDepth 1000000 in
theorem toTg_any (d : Tg) (v0 : Value) (w : World) (hb : TgB d) (h : TgV w d v0) :
    Calls Tryd.prog 32 #[tgagg d v0] w fun e w' => ∃ v0', e = .returned (tgagg d v0') ∧ (∀ G, G < w.heap.size → TgO w' G d v0') ∧ Below w.heap.size w w' := by
  obtain ⟨x0, x1, x2⟩ := d
  have HH := hide h
  have hk0 := hb.name
  simp only at hk0
  unfold tgagg
  simp only
  obtain ⟨W0, hW0⟩ : ∃ W, ((w.alloc (.cells #[v0, .int .i64 x1, .int .i64 x2] 67)).alloc (.cells #[.slice none 0 0, .int .i64 0, .int .i64 0] 69)).alloc (.cells #[.slice none 0 0, .int .i64 0, .int .i64 0] 69) = W := ⟨_, rfl⟩
  have hb0 : Below w.heap.size w W0 := by
    rw [← hW0]; exact (((Below.refl _ _).alloc (Nat.le_refl _) _).alloc (by simp) _).alloc (by simp; omega) _
  have hA : Blk W0 w.heap.size 67 #[v0, .int .i64 x1, .int .i64 x2] := by
    rw [← hW0]; exact ((Blk.new _ _ _).alloc _).alloc _
  have hO : Blk W0 (w.heap.size + 1 + 1) 69 #[.slice none 0 0, .int .i64 0, .int .i64 0] := by
    rw [← hW0]
    have := Blk.new ((w.alloc (.cells #[v0, .int .i64 x1, .int .i64 x2] 67)).alloc (.cells #[.slice none 0 0, .int .i64 0, .int .i64 0] 69)) 69 #[.slice none 0 0, .int .i64 0, .int .i64 0]
    simpa using this
  have hR : Blk W0 (w.heap.size + 1) 69 #[.slice none 0 0, .int .i64 0, .int .i64 0] := by
    rw [← hW0]
    have := (Blk.new (w.alloc (.cells #[v0, .int .i64 x1, .int .i64 x2] 67)) 69 #[.slice none 0 0, .int .i64 0, .int .i64 0]).alloc (.cells #[.slice none 0 0, .int .i64 0, .int .i64 0] 69)
    simpa using this
  have HR0 := hide hR
  have HB0 := hide hb0
  have HA0 := hide hA
  have HO0 := hide hO
  have HW := hide hW0
  clear h hb hb0 hA hO hR hW0
  go_enter Tryd.func32, Tryd.ntmps32
  go_wp2_with fail
  rw [HW.out]
  clear HW
  refine (toB_cp (w := W0) (v := v0) hk0 (HH.out.name.below HB0.out)).mono ?_
  rintro e w2 ⟨u2, rfl, hs2, hb2⟩
  have hs2' := hs2 (w.heap.size + 1 + 1) HO0.out.lt
  obtain ⟨g0, k0, rfl⟩ := hs2'.slice
  have HS0_2 := hide hs2'
  have HA2 := hide (HA0.out.below hb2)
  have HO2 := hide (HO0.out.below hb2)
  have HR2 := hide (HR0.out.below hb2)
  have HB2 : Hid (Below w.heap.size w w2) := HB0.out.trans (hb2.mono HB0.out.size)
  have a1 := HA2.out.cell 1
  have a2 := HA2.out.cell 2
  have c0 := HO2.out.cell 0
  have d0 := HO2.out.frozen 0
  have r0 := HR2.out.cell 0
  have s0 := HR2.out.frozen 0
  have c1 := HO2.out.cell 1
  have d1 := HO2.out.frozen 1
  have r1 := HR2.out.cell 1
  have s1 := HR2.out.frozen 1
  have c2 := HO2.out.cell 2
  have d2 := HO2.out.frozen 2
  have r2 := HR2.out.cell 2
  have s2 := HR2.out.frozen 2
  simp only [List.getElem?_toArray, List.getElem?_cons_succ, List.getElem?_cons_zero] at a1 a2 c0 c1 c2 r0 r1 r2
  clear hs2 hs2' hb2 HA0 HO0 HB0 HR0
  have HN : Hid (TgO w2 (w.heap.size + 1 + 1) ⟨x0, x1, x2⟩ (.slice (some ⟨g0, 0, none⟩) x0.size k0)) := ⟨HS0_2.out⟩
  go_wp2
  (try simp only [Exit.inBlock, Exit.then])
  refine bodyPost_ret (results_cell_row rfl _ _ (w.heap.size + 1) 69 #[.slice (some ⟨g0, 0, none⟩) x0.size k0, .int .i64 x1, .int .i64 x2] (0, 0) _ rfl ?hg Tryd.underlying69 rfl (by kernel_rfl)) rfl ?_
  case hg => exact ((((((HR2.out.other 0 _ (by omega)).other 1 _ (by omega)).other 2 _ (by omega)).set 0 _).set 1 _).set 2 _)
  refine ⟨_, rfl, fun G hG => TgO.lower (G := w.heap.size + 1 + 1) ?_ (by omega), ?_⟩
  · exact ((((((HN.out.setAt (by omega)).setAt (by omega)).setAt (by omega)).setAt (by omega)).setAt (by omega)).setAt (by omega))
  · exact ((((((HB2.out.setCell (by show w.heap.size ≤ w.heap.size + 1 + 1; omega) _).setCell (by show w.heap.size ≤ w.heap.size + 1 + 1; omega) _).setCell (by show w.heap.size ≤ w.heap.size + 1 + 1; omega) _).setCell (by show w.heap.size ≤ w.heap.size + 1; omega) _).setCell (by show w.heap.size ≤ w.heap.size + 1; omega) _).setCell (by show w.heap.size ≤ w.heap.size + 1; omega) _)
end Go.Proofs.YtpoanbpgpgflcaaDoor
