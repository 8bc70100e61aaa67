/-
  The walk of toIntS.
  Trees in memory: what a list of nodes reads as.
  The walk of toByteSS.
  The walks of toNode, toNodeS.
  The walks of isStatement, isExpression, greatestN, validCount, mayStand, and of l2expr, l2stat.
  The walks of namesOf, validTypes.
-/
import Derived.Test.YtdlahabeegmjiaaDoorJCkIN0
import Derived.Test.YtdlahabeegmjiaaDoorJCkND0
import Derived.Test.YtdlahabeegmjiaaDoorJCkT
namespace Go.Proofs.YtdlahabeegmjiaaDoor
open Go.RowKit

set_option maxHeartbeats 400000 in
theorem toI_row (v : Value) (l : List Int) (w : World) (hs : l.length ≤ 1048576) (h : IS w v l) :
    Calls Tryd.prog 36 #[v] w fun e w' => (∃ c, e = .returned (.slice (some ⟨w.heap.size, 0, none⟩) l.length c) ∧ l.length ≤ c) ∧ w.heap.size < w'.heap.size ∧ Fz w' w.heap.size ∧ (∀ j, j < l.length → w'.cell? ⟨w.heap.size, j, none⟩ = some (.int .i64 (l.getD j 0))) ∧ Below w.heap.size w w' := by
  obtain ⟨a0, b, off, cap, rfl, ha, hc⟩ := h
  have hmk := run_make_row' (P := Tryd.prog) 33 3 (.int .i64 0) 8 Tryd.underlying33 (by kernel_rfl) rfl .i64 .i64 l.length (by omega) (by omega)
  have HC := hide hc
  clear hc
  go_enter Tryd.func36, Tryd.ntmps36
  go_wp2
  clear hmk
  go_loopw [4] (fun i wr => ∃ k : Nat, k ≤ l.length ∧ i = .int .i64 k ∧ wr.rowIs w.heap.size 3 l.length (fun j => if j < k then .int .i64 (l.getD j 0) else .int .i64 0) ∧ Below w.heap.size w wr ∧ wr.heap.size = w.heap.size + 1) (fun i _ => l.length - (intOf i).toNat)
  case atStart => exact ⟨0, Nat.zero_le _, rfl, (World.rowIs_made w _ l.length 3).congr (fun j _ => by simp), (Below.refl _ _).alloc (Nat.le_refl _) _, by simp⟩
  case round =>
    obtain ⟨k, hk, rfl, hrow, hbl, hsz⟩ := hrel
    by_cases hlt : k < l.length
    · obtain rfl := ha (by omega)
      have g0 : wr.cell? ⟨b, off + k, none⟩ = some (.int .i64 (l.getD k 0)) := cell_kept (HC.out k hlt) hbl
      have g1 : wr.cell? ⟨w.heap.size, k, none⟩ = some (.int .i64 0) := by rw [hrow.cell hlt]; simp
      have g2 : wr.frozen? ⟨w.heap.size, k, none⟩ = false := hrow.frozen k
      have HROW := hide hrow
      have HBL := hide hbl
      have HSZ := hide hsz
      obtain ⟨y, hy⟩ : ∃ y, l.getD k 0 = y := ⟨_, rfl⟩
      rw [hy] at g0
      have HY := hide hy
      clear hrow hbl hsz hy
      go_wp2
      go_roundw
      case rel => exact ⟨k + 1, by omega, by go_num, (HROW.out.set k _).congr (fun j _ => by
          by_cases e : j = k
          · subst e; simp [← HY.out]
          · rw [if_neg e]; by_cases hj : j < k
            · rw [if_pos hj, if_pos (by omega)]
            · rw [if_neg hj, if_neg (by omega)]), HBL.out.setCell (Nat.le_refl _) _, by simp [HSZ.out]⟩
      case measure => simp [intOf]; omega
    · go_wp2
      go_ret
      exact ⟨⟨_, rfl, Nat.le_refl _⟩, by omega, hrow.frozen, fun j hj => by rw [hrow.cell hj, if_pos (by omega)], hbl⟩
theorem toI_any (v : Value) (l : List Int) (w : World) (hs : l.length ≤ 1048576) (h : IS w v l) :
    Calls Tryd.prog 36 #[v] w fun e w' => ∃ v', e = .returned v' ∧ (∀ G, G < w.heap.size → ICp w' G v' l) ∧ Below w.heap.size w w' :=
  (toI_row v l w hs h).mono fun _ _ ⟨⟨c, he, _⟩, hlt, hf, hc, hb⟩ => ⟨_, he, fun _ hG => ⟨w.heap.size, c, hG, hlt, rfl, hf, fun j hj => by rw [Nat.zero_add]; exact hc j hj⟩, hb⟩
end Go.Proofs.YtdlahabeegmjiaaDoor

namespace Go.Proofs.YtdlahabeegmjiaaDoor
open Go.RowKit

/-- A node's value, with the slices that it holds. -/
def nagg (d : Nd) (vt vn vy : Value) : Value := .agg #[.int .i64 d.kind, .int .i64 d.n, vt, vn, vy, .int .i64 d.count]
/-- The slices of a node read as its lists. -/
structure NV (w : World) (d : Nd) (vt vn vy : Value) : Prop where
  text : BS w vt d.text
  names : SS w vn d.names
  types : IS w vy d.types
/-- A node's cells. -/
structure NC (w : World) (b p : Nat) (d : Nd) (vt vn vy : Value) : Prop where
  kind : w.cell? ⟨b, p, none⟩ = some (.int .i64 d.kind)
  n : w.cell? ⟨b, p + 1, none⟩ = some (.int .i64 d.n)
  text : w.cell? ⟨b, p + 2, none⟩ = some vt
  names : w.cell? ⟨b, p + 3, none⟩ = some vn
  types : w.cell? ⟨b, p + 4, none⟩ = some vy
  count : w.cell? ⟨b, p + 5, none⟩ = some (.int .i64 d.count)
/-- A slice of nodes reads as L. -/
def NS (w : World) (v : Value) (L : List Nd) : Prop := ∃ a b o c, v = .slice a L.length c ∧ (0 < L.length → a = some ⟨b, o, none⟩) ∧ ∀ j, j < L.length → ∃ vt vn vy, NC w b (o + j * 6) (L.getD j .zero) vt vn vy ∧ NV w (L.getD j .zero) vt vn vy

theorem NV.below {w w' : World} {d : Nd} {vt vn vy : Value} (h : NV w d vt vn vy) (hb : Below w.heap.size w w') : NV w' d vt vn vy := ⟨h.text.below hb, h.names.below hb, h.types.below hb⟩
theorem NC.below {w w' : World} {b p : Nat} {d : Nd} {vt vn vy : Value} (h : NC w b p d vt vn vy) (hb : Below w.heap.size w w') : NC w' b p d vt vn vy :=
  ⟨cell_kept h.kind hb, cell_kept h.n hb, cell_kept h.text hb, cell_kept h.names hb, cell_kept h.types hb, cell_kept h.count hb⟩
theorem NS.below {w w' : World} {v : Value} {L : List Nd} (h : NS w v L) (hb : Below w.heap.size w w') : NS w' v L := by
  obtain ⟨a, b, o, c, h1, h2, h3⟩ := h
  refine ⟨a, b, o, c, h1, h2, fun j hj => ?_⟩
  obtain ⟨vt, vn, vy, h4, h5⟩ := h3 j hj
  exact ⟨vt, vn, vy, h4.below hb, h5.below hb⟩

/-- The slices of a node that is a copy, in blocks behind G. -/
structure NO (w : World) (G : Nat) (d : Nd) (vt vn vy : Value) : Prop where
  text : BO w G vt d.text
  names : SO w G vn d.names
  types : ICp w G vy d.types
theorem NO.nv {w : World} {G : Nat} {d : Nd} {vt vn vy : Value} (h : NO w G d vt vn vy) : NV w d vt vn vy := ⟨h.text.bs, h.names.ss, h.types.is⟩
theorem NO.below {w w' : World} {G : Nat} {d : Nd} {vt vn vy : Value} (h : NO w G d vt vn vy) (hb : Below w.heap.size w w') : NO w' G d vt vn vy := ⟨h.text.below hb, h.names.below hb, h.types.below hb⟩
theorem NO.set {w : World} {G k : Nat} {d : Nd} {vt vn vy x : Value} (h : NO w G d vt vn vy) : NO (w.setCell ⟨G, k, none⟩ x) G d vt vn vy := ⟨h.text.set, h.names.set, h.types.set⟩

theorem NO.setAt {w : World} {G G' k : Nat} {d : Nd} {vt vn vy x : Value} (h : NO w G d vt vn vy) (hG : G' ≤ G) : NO (w.setCell ⟨G', k, none⟩ x) G d vt vn vy := ⟨h.text.setAt hG, h.names.setAt hG, h.types.setAt hG⟩
theorem NO.lower {w : World} {G G' : Nat} {d : Nd} {vt vn vy : Value} (h : NO w G d vt vn vy) (hG : G' ≤ G) : NO w G' d vt vn vy := by
  obtain ⟨h1, ⟨b, c, h2, h3, h4, h4z, h5⟩, ⟨b', c', h6, h7⟩⟩ := h
  exact ⟨h1.lower hG, ⟨b, c, by omega, h3, h4, h4z, h5⟩, ⟨b', c', by omega, h7⟩⟩

end Go.Proofs.YtdlahabeegmjiaaDoor

namespace Go.Proofs.YtdlahabeegmjiaaDoor
open Go.RowKit

set_option maxHeartbeats 1000000 in
theorem toSS_any (v : Value) (L : List ByteArray) (w : World) (hs : L.length ≤ 1048576) (hz : ∀ j, j < L.length → (L.getD j .empty).size ≤ 1048576) (h : SS w v L) :
    Calls Tryd.prog 35 #[v] w fun e w' => ∃ v', e = .returned v' ∧ (∀ G, G < w.heap.size → SO w' G v' L) ∧ Below w.heap.size w w' := by
  obtain ⟨a0, b, off, cap, rfl, ha, hc⟩ := h
  have hmk := run_make_row' (P := Tryd.prog) 32 31 (.slice none 0 0) 24 Tryd.underlying32 (by kernel_rfl) rfl .i64 .i64 L.length (by omega) (by omega)
  have HC := hide hc
  have HZ := hide hz
  clear hc hz
  go_enter Tryd.func35, Tryd.ntmps35
  go_wp2
  clear hmk
  go_loopw [4] (fun i wr => ∃ (k : Nat) (u : Nat → Value), k ≤ L.length ∧ i = .int .i64 k ∧ wr.rowIs w.heap.size 31 L.length (fun j => if j < k then u j else .slice none 0 0) ∧ (∀ j, j < k → BO wr w.heap.size (u j) (L.getD j .empty)) ∧ Below w.heap.size w wr ∧ w.heap.size < wr.heap.size) (fun i _ => L.length - (intOf i).toNat)
  case atStart => exact ⟨0, fun _ => .slice none 0 0, Nat.zero_le _, rfl, (World.rowIs_made w _ L.length 31).congr (fun j _ => by simp), fun j hj => absurd hj (Nat.not_lt_zero _), (Below.refl _ _).alloc (Nat.le_refl _) _, by simp⟩
  case round =>
    obtain ⟨k, u, hk, rfl, hrow, hu, hbl, hsz⟩ := hrel
    have HROW := hide hrow
    have HU := hide hu
    have HBL := hide hbl
    by_cases hlt : k < L.length
    · obtain rfl := ha (by omega)
      obtain ⟨x, hx, hxs⟩ := HC.out k hlt
      have g0 : wr.cell? ⟨b, off + k, none⟩ = some x := cell_kept hx hbl
      obtain ⟨s, hs'⟩ : ∃ s, L.getD k .empty = s := ⟨_, rfl⟩
      have hzs := HZ.out k hlt
      rw [hs'] at hxs hzs
      have HSK := hide hs'
      obtain ⟨ax, bx, ox, cx, rfl, hax, hcx⟩ := hxs.below hbl
      have HT := hide (toB_any ax bx ox cx s wr hzs hax hcx)
      have d1 : decide ((k : Int) < (L.length : Int)) = true := decide_eq_true (by omega)
      clear hrow hu hbl hax hcx hx hxs hs'
      go_wp2_with fail
      refine HT.out.mono ?_
      rintro e w2 ⟨rfl, hr2, hb2, hz2⟩
      have HR2 := hide (row_kept HROW.out hb2)
      have g1 : w2.cell? ⟨w.heap.size, k, none⟩ = some (.slice none 0 0) := by rw [HR2.out.cell hlt]; simp
      have g2 : w2.frozen? ⟨w.heap.size, k, none⟩ = false := HR2.out.frozen k
      have HB2 := hide hb2
      have HBW : Hid (Below w.heap.size w w2) := HBL.out.trans (hb2.mono HBL.out.size)
      have HN : Hid (BO w2 w.heap.size (.slice (some ⟨wr.heap.size, 0, none⟩) s.size s.size) s) :=
        ⟨wr.heap.size, hsz, by omega, rfl, hr2.frozen, fun j hj => by rw [Nat.zero_add]; exact hr2.cell hj⟩
      have hsz2 : w.heap.size < w2.heap.size := by omega
      clear hr2 hb2 hz2 HT
      go_wp2
      go_roundw
      case rel => exact ⟨k + 1, fun j => if j = k then .slice (some ⟨wr.heap.size, 0, none⟩) s.size s.size else u j, by omega, by go_num, (HR2.out.set k _).congr (fun j _ => by
          by_cases e : j = k
          · subst e; simp
          · rw [if_neg e]; by_cases hj : j < k
            · rw [if_pos hj, if_pos (by omega)]; show u j = if j = k then _ else u j; rw [if_neg e]
            · rw [if_neg hj, if_neg (by omega)]), fun j hj => by
          by_cases e : j = k
          · subst e; simp only [if_pos]; rw [HSK.out]; exact HN.out.set
          · simp only [if_neg e]; exact ((HU.out j (by omega)).below HB2.out).set, HBW.out.setCell (Nat.le_refl _) _, by simp; omega⟩
      case measure => simp [intOf]; omega
    · have d1 : decide ((k : Int) < (L.length : Int)) = false := decide_eq_false (by omega)
      clear hrow hu hbl
      go_wp2
      go_ret
      exact ⟨_, rfl, fun G hG => ⟨w.heap.size, _, hG, hsz, rfl, HROW.out.frozen, fun j hj => ⟨u j, by rw [Nat.zero_add, HROW.out.cell hj, if_pos (by omega)], HU.out j (by omega)⟩⟩, HBL.out⟩
end Go.Proofs.YtdlahabeegmjiaaDoor

namespace Go.Proofs.YtdlahabeegmjiaaDoor
open Go.RowKit

set_option maxHeartbeats 2000000 in
set_option maxRecDepth 1000000 in
theorem toNd_any (d : Nd) (vt vn vy : Value) (w : World) (h1 : d.text.size ≤ 1048576) (h2 : d.names.length ≤ 1048576) (h3 : ∀ j, j < d.names.length → (d.names.getD j .empty).size ≤ 1048576) (h4 : d.types.length ≤ 1048576) (h : NV w d vt vn vy) :
    Calls Tryd.prog 14 #[nagg d vt vn vy] w fun e w' => ∃ vt' vn' vy', e = .returned (nagg d vt' vn' vy') ∧ (∀ G, G < w.heap.size → NO w' G d vt' vn' vy') ∧ Below w.heap.size w w' := by
  obtain ⟨K, N, T, M, Y, C⟩ := d
  obtain ⟨ht, hm, hy⟩ := h
  simp only at h1 h2 h3 h4 ht hm hy
  unfold nagg
  simp only
  have HM := hide hm
  have HY := hide hy
  have H3 := hide h3
  obtain ⟨W1, hW1⟩ : ∃ W1, ((w.alloc (.cells #[.int .i64 K, .int .i64 N, vt, vn, vy, .int .i64 C] 35)).alloc (.cells #[.int .i64 0, .int .i64 0, .slice none 0 0, .slice none 0 0, .slice none 0 0, .int .i64 0] 42)).alloc (.cells #[.int .i64 K, .int .i64 N, .slice none 0 0, .slice none 0 0, .slice none 0 0, .int .i64 0] 42) = W1 := ⟨_, rfl⟩
  have hb0 : Below w.heap.size w W1 := by
    rw [← hW1]; exact (((Below.refl _ _).alloc (Nat.le_refl _) _).alloc (by simp) _).alloc (by simp; omega) _
  have hA : Blk W1 w.heap.size 35 #[.int .i64 K, .int .i64 N, vt, vn, vy, .int .i64 C] := by
    rw [← hW1]; exact ((Blk.new _ _ _).alloc _).alloc _
  have hO : Blk W1 (w.heap.size + 1 + 1) 42 #[.int .i64 K, .int .i64 N, .slice none 0 0, .slice none 0 0, .slice none 0 0, .int .i64 0] := by
    rw [← hW1]
    have := Blk.new ((w.alloc (.cells #[.int .i64 K, .int .i64 N, vt, vn, vy, .int .i64 C] 35)).alloc (.cells #[.int .i64 0, .int .i64 0, .slice none 0 0, .slice none 0 0, .slice none 0 0, .int .i64 0] 42)) 42 #[.int .i64 K, .int .i64 N, .slice none 0 0, .slice none 0 0, .slice none 0 0, .int .i64 0]
    simpa using this
  have hR : Blk W1 (w.heap.size + 1) 42 #[.int .i64 0, .int .i64 0, .slice none 0 0, .slice none 0 0, .slice none 0 0, .int .i64 0] := by
    rw [← hW1]
    have := (Blk.new (w.alloc (.cells #[.int .i64 K, .int .i64 N, vt, vn, vy, .int .i64 C] 35)) 42 #[.int .i64 0, .int .i64 0, .slice none 0 0, .slice none 0 0, .slice none 0 0, .int .i64 0]).alloc (.cells #[.int .i64 K, .int .i64 N, .slice none 0 0, .slice none 0 0, .slice none 0 0, .int .i64 0] 42)
    simpa using this
  have HR := hide hR
  have HB0 := hide hb0
  have HA := hide hA
  have HO := hide hO
  have HW := hide hW1
  obtain ⟨at_, bt, ot, ct, hvt, hat, hct⟩ := ht.below hb0
  have HT := hide (toB_any at_ bt ot ct T W1 h1 hat hct)
  rw [← hvt] at HT
  clear hm hy h3 hb0 hA hO hR hW1 hat hct ht hvt
  go_enter Tryd.func14, Tryd.ntmps14
  go_wp2_with fail
  rw [HW.out]
  refine HT.out.mono ?_
  rintro e w2 ⟨rfl, hr2, hb2, _⟩
  have HBT : Hid (BO w2 (w.heap.size + 1 + 1) (.slice (some ⟨W1.heap.size, 0, none⟩) T.size T.size) T) := ⟨W1.heap.size, HO.out.lt, by omega, rfl, hr2.frozen, fun j hj => by rw [Nat.zero_add]; exact hr2.cell hj⟩
  obtain ⟨gt, hgt⟩ : ∃ g, W1.heap.size = g := ⟨_, rfl⟩
  have HA2 := hide (HA.out.below hb2)
  have HO2 := hide (HO.out.below hb2)
  have HR2 := hide (HR.out.below hb2)
  have HB2 : Hid (Below w.heap.size w w2) := HB0.out.trans (hb2.mono HB0.out.size)
  rw [hgt] at HBT ⊢
  have c1 := HA2.out.cell 3
  have c2 := HO2.out.cell 2
  have c3 := HO2.out.frozen 2
  simp only [List.getElem?_toArray, List.getElem?_cons_succ, List.getElem?_cons_zero] at c1 c2
  clear hr2 hb2 hgt HT HA HO HW HB0 HR
  go_wp2_with fail
  obtain ⟨W3, hW3⟩ : ∃ W3, w2.setCell ⟨w.heap.size + 1 + 1, 2, none⟩ (.slice (some ⟨gt, 0, none⟩) T.size T.size) = W3 := ⟨_, rfl⟩
  have HA3 : Hid (Blk W3 w.heap.size 35 #[.int .i64 K, .int .i64 N, vt, vn, vy, .int .i64 C]) := by rw [← hW3]; exact HA2.out.other _ _ (by omega)
  have HO3 : Hid (Blk W3 (w.heap.size + 1 + 1) 42 #[.int .i64 K, .int .i64 N, .slice (some ⟨gt, 0, none⟩) T.size T.size, .slice none 0 0, .slice none 0 0, .int .i64 0]) := by rw [← hW3]; exact HO2.out.set 2 _
  have HR3 : Hid (Blk W3 (w.heap.size + 1) 42 #[.int .i64 0, .int .i64 0, .slice none 0 0, .slice none 0 0, .slice none 0 0, .int .i64 0]) := by rw [← hW3]; exact HR2.out.other _ _ (by omega)
  have HT3 : Hid (BO W3 (w.heap.size + 1 + 1) (.slice (some ⟨gt, 0, none⟩) T.size T.size) T) := by rw [← hW3]; exact HBT.out.set
  have HB3 : Hid (Below w.heap.size w W3) := by rw [← hW3]; exact HB2.out.setCell (by show w.heap.size ≤ w.heap.size + 1 + 1; omega) _
  rw [hW3]
  clear hW3 HA2 HO2 HBT HB2 HR2 c1 c2 c3
  refine (toSS_any vn M W3 h2 H3.out (HM.out.below HB3.out)).mono ?_
  rintro e w4 ⟨v4, rfl, hs4, hb4⟩
  have hs4' := hs4 (w.heap.size + 1 + 1) HO3.out.lt
  obtain ⟨gn, cn, rfl⟩ : ∃ g c, v4 = .slice (some ⟨g, 0, none⟩) M.length c := by obtain ⟨g, c, _, _, h, _⟩ := hs4'; exact ⟨g, c, h⟩
  have HS4 := hide hs4'
  have HA4 := hide (HA3.out.below hb4)
  have HO4 := hide (HO3.out.below hb4)
  have HR4 := hide (HR3.out.below hb4)
  have HT4 := hide (HT3.out.below hb4)
  have HB4 : Hid (Below w.heap.size w w4) := HB3.out.trans (hb4.mono HB3.out.size)
  have c1 := HA4.out.cell 4
  have c2 := HO4.out.cell 3
  have c3 := HO4.out.frozen 3
  simp only [List.getElem?_toArray, List.getElem?_cons_succ, List.getElem?_cons_zero] at c1 c2
  clear hs4 hs4' hb4 HA3 HO3 HT3 HB3 HR3
  go_wp2_with fail
  obtain ⟨W5, hW5⟩ : ∃ W5, w4.setCell ⟨w.heap.size + 1 + 1, 3, none⟩ (.slice (some ⟨gn, 0, none⟩) M.length cn) = W5 := ⟨_, rfl⟩
  have HA5 : Hid (Blk W5 w.heap.size 35 #[.int .i64 K, .int .i64 N, vt, vn, vy, .int .i64 C]) := by rw [← hW5]; exact HA4.out.other _ _ (by omega)
  have HO5 : Hid (Blk W5 (w.heap.size + 1 + 1) 42 #[.int .i64 K, .int .i64 N, .slice (some ⟨gt, 0, none⟩) T.size T.size, .slice (some ⟨gn, 0, none⟩) M.length cn, .slice none 0 0, .int .i64 0]) := by rw [← hW5]; exact HO4.out.set 3 _
  have HR5 : Hid (Blk W5 (w.heap.size + 1) 42 #[.int .i64 0, .int .i64 0, .slice none 0 0, .slice none 0 0, .slice none 0 0, .int .i64 0]) := by rw [← hW5]; exact HR4.out.other _ _ (by omega)
  have HT5 : Hid (BO W5 (w.heap.size + 1 + 1) (.slice (some ⟨gt, 0, none⟩) T.size T.size) T) := by rw [← hW5]; exact HT4.out.set
  have HS5 : Hid (SO W5 (w.heap.size + 1 + 1) (.slice (some ⟨gn, 0, none⟩) M.length cn) M) := by rw [← hW5]; exact HS4.out.set
  have HB5 : Hid (Below w.heap.size w W5) := by rw [← hW5]; exact HB4.out.setCell (by show w.heap.size ≤ w.heap.size + 1 + 1; omega) _
  rw [hW5]
  clear hW5 HA4 HO4 HT4 HS4 HB4 HR4 c1 c2 c3
  refine (toI_any vy Y W5 h4 (HY.out.below HB5.out)).mono ?_
  rintro e w6 ⟨v6, rfl, hs6, hb6⟩
  have hs6' := hs6 (w.heap.size + 1 + 1) HO5.out.lt
  obtain ⟨gy, cy, rfl⟩ : ∃ g c, v6 = .slice (some ⟨g, 0, none⟩) Y.length c := by obtain ⟨g, c, _, _, h, _⟩ := hs6'; exact ⟨g, c, h⟩
  have HY6 := hide hs6'
  have HA6 := hide (HA5.out.below hb6)
  have HO6 := hide (HO5.out.below hb6)
  have HR6 := hide (HR5.out.below hb6)
  have HT6 := hide (HT5.out.below hb6)
  have HS6 := hide (HS5.out.below hb6)
  have HB6 : Hid (Below w.heap.size w w6) := HB5.out.trans (hb6.mono HB5.out.size)
  have c1 := HA6.out.cell 5
  have c2 := HO6.out.cell 4
  have c3 := HO6.out.frozen 4
  have c4 := HO6.out.cell 5
  have c5 := HO6.out.frozen 5
  have c6 := HO6.out.cell 0
  have c7 := HO6.out.cell 1
  have c8 := HO6.out.cell 2
  have c9 := HO6.out.cell 3
  have r0 := HR6.out.cell 0
  have s0 := HR6.out.frozen 0
  have r1 := HR6.out.cell 1
  have s1 := HR6.out.frozen 1
  have r2 := HR6.out.cell 2
  have s2 := HR6.out.frozen 2
  have r3 := HR6.out.cell 3
  have s3 := HR6.out.frozen 3
  have r4 := HR6.out.cell 4
  have s4 := HR6.out.frozen 4
  have r5 := HR6.out.cell 5
  have s5 := HR6.out.frozen 5
  simp only [List.getElem?_toArray, List.getElem?_cons_succ, List.getElem?_cons_zero] at c1 c2 c4 c6 c7 c8 c9 r0 r1 r2 r3 r4 r5
  clear hs6 hs6' hb6 HA5 HO5 HT5 HS5 HB5 HR5
  have HN6 : Hid (NO w6 (w.heap.size + 1 + 1) ⟨K, N, T, M, Y, C⟩ (.slice (some ⟨gt, 0, none⟩) T.size T.size) (.slice (some ⟨gn, 0, none⟩) M.length cn) (.slice (some ⟨gy, 0, none⟩) Y.length cy)) := ⟨HT6.out, HS6.out, HY6.out⟩
  go_wp2
  (try simp only [Exit.inBlock, Exit.then])
  refine bodyPost_ret (results_cell_row rfl _ _ (w.heap.size + 1) 42 #[.int .i64 K, .int .i64 N, .slice (some ⟨gt, 0, none⟩) T.size T.size, .slice (some ⟨gn, 0, none⟩) M.length cn, .slice (some ⟨gy, 0, none⟩) Y.length cy, .int .i64 C] (0, 0) _ rfl ?hg Tryd.underlying42 rfl (by kernel_rfl)) rfl ?_
  case hg => exact ((((((((HR6.out.other 4 _ (by omega)).other 5 _ (by omega)).set 0 _).set 1 _).set 2 _).set 3 _).set 4 _).set 5 _)
  refine ⟨_, _, _, rfl, fun G hG => NO.lower (G := w.heap.size + 1 + 1) ?_ (by omega), ?_⟩
  · exact ((((((((HN6.out.setAt (by omega)).setAt (by omega)).setAt (by omega)).setAt (by omega)).setAt (by omega)).setAt (by omega)).setAt (by omega)).setAt (by omega))
  · exact ((((((((HB6.out.setCell (by show w.heap.size ≤ w.heap.size + 1 + 1; omega) _).setCell (by show w.heap.size ≤ w.heap.size + 1 + 1; omega) _).setCell (by show w.heap.size ≤ w.heap.size + 1; omega) _).setCell (by show w.heap.size ≤ w.heap.size + 1; omega) _).setCell (by show w.heap.size ≤ w.heap.size + 1; omega) _).setCell (by show w.heap.size ≤ w.heap.size + 1; omega) _).setCell (by show w.heap.size ≤ w.heap.size + 1; omega) _).setCell (by show w.heap.size ≤ w.heap.size + 1; omega) _)
end Go.Proofs.YtdlahabeegmjiaaDoor

namespace Go.Proofs.YtdlahabeegmjiaaDoor
open Go.RowKit

def isStat (k : Int) : Bool := decide (3 ≤ k) && decide (k ≤ 15)
def isExpr (k : Int) : Bool := decide (16 ≤ k) && decide (k ≤ 22)

set_option maxHeartbeats 400000 in
set_option maxRecDepth 1000000 in
theorem implStat_any (k : Int) (w : World) : Calls Tryd.prog 65 #[.int .i64 k] w fun e w' => e = .returned (.bool (isStat k)) ∧ w' = w := by
  by_cases h : 3 ≤ k
  · have d1 : decide ((3 : Int) ≤ k) = true := decide_eq_true h
    have HS : Hid (isStat k = decide (k ≤ 15)) := by show _ = _; unfold isStat; rw [d1]; rfl
    go_enter Tryd.func65, Tryd.ntmps65
    go_wp2
    go_ret
    exact ⟨by rw [HS.out]; rfl, by trivial⟩
  · have d1 : decide ((3 : Int) ≤ k) = false := decide_eq_false h
    have HS : Hid (isStat k = false) := by show _ = _; unfold isStat; rw [d1]; rfl
    go_enter Tryd.func65, Tryd.ntmps65
    go_wp2
    go_ret
    exact ⟨by rw [HS.out]; rfl, by trivial⟩

set_option maxHeartbeats 400000 in
set_option maxRecDepth 1000000 in
theorem implExpr_any (k : Int) (w : World) : Calls Tryd.prog 66 #[.int .i64 k] w fun e w' => e = .returned (.bool (isExpr k)) ∧ w' = w := by
  by_cases h : 16 ≤ k
  · have d1 : decide ((16 : Int) ≤ k) = true := decide_eq_true h
    have HS : Hid (isExpr k = decide (k ≤ 22)) := by show _ = _; unfold isExpr; rw [d1]; rfl
    go_enter Tryd.func66, Tryd.ntmps66
    go_wp2
    go_ret
    exact ⟨by rw [HS.out]; rfl, by trivial⟩
  · have d1 : decide ((16 : Int) ≤ k) = false := decide_eq_false h
    have HS : Hid (isExpr k = false) := by show _ = _; unfold isExpr; rw [d1]; rfl
    go_enter Tryd.func66, Tryd.ntmps66
    go_wp2
    go_ret
    exact ⟨by rw [HS.out]; rfl, by trivial⟩

set_option maxHeartbeats 400000 in
set_option maxRecDepth 1000000 in
theorem specStat_any (k : Int) (w : World) : Calls Tryd.prog 60 #[.int .i64 k] w fun e w' => e = .returned (.bool (isStat k)) ∧ w' = w := by
  by_cases h : 3 ≤ k
  · have d1 : decide ((3 : Int) ≤ k) = true := decide_eq_true h
    have HS : Hid (isStat k = decide (k ≤ 15)) := by show _ = _; unfold isStat; rw [d1]; rfl
    go_enter Tryd.func60, Tryd.ntmps60
    go_wp2
    go_ret
    exact ⟨by rw [HS.out]; rfl, by trivial⟩
  · have d1 : decide ((3 : Int) ≤ k) = false := decide_eq_false h
    have HS : Hid (isStat k = false) := by show _ = _; unfold isStat; rw [d1]; rfl
    go_enter Tryd.func60, Tryd.ntmps60
    go_wp2
    go_ret
    exact ⟨by rw [HS.out]; rfl, by trivial⟩

set_option maxHeartbeats 400000 in
set_option maxRecDepth 1000000 in
theorem specExpr_any (k : Int) (w : World) : Calls Tryd.prog 30 #[.int .i64 k] w fun e w' => e = .returned (.bool (isExpr k)) ∧ w' = w := by
  by_cases h : 16 ≤ k
  · have d1 : decide ((16 : Int) ≤ k) = true := decide_eq_true h
    have HS : Hid (isExpr k = decide (k ≤ 22)) := by show _ = _; unfold isExpr; rw [d1]; rfl
    go_enter Tryd.func30, Tryd.ntmps30
    go_wp2
    go_ret
    exact ⟨by rw [HS.out]; rfl, by trivial⟩
  · have d1 : decide ((16 : Int) ≤ k) = false := decide_eq_false h
    have HS : Hid (isExpr k = false) := by show _ = _; unfold isExpr; rw [d1]; rfl
    go_enter Tryd.func30, Tryd.ntmps30
    go_wp2
    go_ret
    exact ⟨by rw [HS.out]; rfl, by trivial⟩

/-- The kinds of nodes, one by one. -/
theorem kinds (k : Int) : (k = 0 ∨ k = 1 ∨ k = 2 ∨ k = 3 ∨ k = 4 ∨ k = 5 ∨ k = 6 ∨ k = 7 ∨ k = 8 ∨ k = 9 ∨ k = 10 ∨ k = 11 ∨ k = 12 ∨ k = 13 ∨ k = 14 ∨ k = 15 ∨ k = 16 ∨ k = 17 ∨ k = 18 ∨ k = 19 ∨ k = 20 ∨ k = 21 ∨ k = 22) ∨ (k < 0 ∨ 22 < k) := by omega

/-- The greatest number that a node of a kind may bear. -/
def gNk (k : Int) : Int := if k = 10 ∨ k = 11 ∨ k = 12 then 3 else if k = 16 then 99999 else if k = 18 then 1 else if k = 20 then 13 else 0
set_option maxHeartbeats 1000000 in
set_option maxRecDepth 1000000 in
theorem greatestN_any (k : Int) (w : World) : Calls Tryd.prog 61 #[.int .i64 k] w fun e w' => e = .returned (.int .i64 (gNk k)) ∧ w' = w := by
  rcases kinds k with h | h
  · rcases h with rfl | rfl | rfl | rfl | rfl | rfl | rfl | rfl | rfl | rfl | rfl | rfl | rfl | rfl | rfl | rfl | rfl | rfl | rfl | rfl | rfl | rfl | rfl
    all_goals
      go_enter Tryd.func61, Tryd.ntmps61
      go_wp2
      go_ret
      exact ⟨rfl, by trivial⟩
  · have HS : Hid (gNk k = 0) := by show _ = _; unfold gNk; rw [if_neg (by omega), if_neg (by omega), if_neg (by omega), if_neg (by omega)]
    have e1 : (k == 10) = false := by rw [beq_eq_false_iff_ne]; omega
    have e2 : (k == 11) = false := by rw [beq_eq_false_iff_ne]; omega
    have e3 : (k == 12) = false := by rw [beq_eq_false_iff_ne]; omega
    have e4 : (k == 16) = false := by rw [beq_eq_false_iff_ne]; omega
    have e5 : (k == 18) = false := by rw [beq_eq_false_iff_ne]; omega
    have e6 : (k == 20) = false := by rw [beq_eq_false_iff_ne]; omega
    clear h
    go_enter Tryd.func61, Tryd.ntmps61
    go_wp2
    go_ret
    exact ⟨by rw [HS.out]; rfl, by trivial⟩
end Go.Proofs.YtdlahabeegmjiaaDoor

namespace Go.Proofs.YtdlahabeegmjiaaDoor
open Go.RowKit

/-- How many names a node has. -/
def nOf (d : Nd) : Int := if d.kind = 1 then 1 + d.types.length else if d.kind = 3 ∨ d.kind = 4 ∨ d.kind = 5 ∨ d.kind = 19 then 1 else 0
set_option maxHeartbeats 2000000 in
set_option maxRecDepth 1000000 in
theorem namesOf_any (d : Nd) (vt vn vy : Value) (w : World) (hy : IS w vy d.types) (hl : d.types.length ≤ 1048576) :
    Calls Tryd.prog 79 #[nagg d vt vn vy] w fun e w' => e = .returned (.int .i64 (nOf d)) ∧ Below w.heap.size w w' := by
  obtain ⟨K, N, T, M, Y, C⟩ := d
  simp only at hy hl
  obtain ⟨ay, _, _, cy, rfl, _, _⟩ := hy
  have HN : Hid (nOf ⟨K, N, T, M, Y, C⟩ = if K = 1 then 1 + (Y.length : Int) else if K = 3 ∨ K = 4 ∨ K = 5 ∨ K = 19 then 1 else 0) := rfl
  unfold nagg
  simp only
  by_cases h1 : K = 1
  · subst h1
    rw [if_pos rfl] at HN
    go_enter Tryd.func79, Tryd.ntmps79
    go_wp2
    go_ret
    exact ⟨by rw [HN.out]; first | rfl | exact ret_int (by omega), (Below.refl _ _).alloc (Nat.le_refl _) _⟩
  rw [if_neg h1] at HN
  have n1 : (K == 1) = false := by rw [beq_eq_false_iff_ne]; exact h1
  by_cases h2 : K = 3 ∨ K = 4 ∨ K = 5 ∨ K = 19
  · rw [if_pos h2] at HN
    clear h1
    rcases h2 with rfl | rfl | rfl | rfl
    all_goals
      clear n1
      go_enter Tryd.func79, Tryd.ntmps79
      go_wp2
      go_ret
      exact ⟨by rw [HN.out]; rfl, (Below.refl _ _).alloc (Nat.le_refl _) _⟩
  · rw [if_neg h2] at HN
    have n3 : (K == 3) = false := by rw [beq_eq_false_iff_ne]; omega
    have n4 : (K == 4) = false := by rw [beq_eq_false_iff_ne]; omega
    have n5 : (K == 5) = false := by rw [beq_eq_false_iff_ne]; omega
    have n6 : (K == 19) = false := by rw [beq_eq_false_iff_ne]; omega
    clear h1 h2
    go_enter Tryd.func79, Tryd.ntmps79
    go_wp2
    go_ret
    exact ⟨by rw [HN.out]; rfl, (Below.refl _ _).alloc (Nat.le_refl _) _⟩

/-- Whether a node's types may stand. -/
def tOk (l : List Int) : Bool := l.all fun t => t == 0 || t == 1
def vTy (d : Nd) : Bool := if d.kind = 1 then decide (d.types.length ≤ 10) && tOk d.types else d.types.length == 0
set_option maxHeartbeats 2000000 in
set_option maxRecDepth 1000000 in
theorem validTypes_any (d : Nd) (vt vn vy : Value) (w : World) (hy : IS w vy d.types) (hl : d.types.length ≤ 1048576) :
    Calls Tryd.prog 63 #[nagg d vt vn vy] w fun e w' => e = .returned (.bool (vTy d)) ∧ Below w.heap.size w w' := by
  obtain ⟨K, N, T, M, Y, C⟩ := d
  simp only at hy hl
  have HY := hide hy
  obtain ⟨ay, by_, oy, cy, rfl, hay, hcy⟩ := hy
  have HN : Hid (vTy ⟨K, N, T, M, Y, C⟩ = if K = 1 then decide (Y.length ≤ 10) && tOk Y else Y.length == 0) := rfl
  unfold nagg
  simp only
  by_cases h1 : K = 1
  · subst h1
    rw [if_pos rfl] at HN
    by_cases h10 : Y.length ≤ 10
    · have d1 : decide ((10 : Int) < (Y.length : Int)) = false := decide_eq_false (by omega)
      rw [decide_eq_true h10, Bool.true_and] at HN
      have HC := hide hcy
      clear hcy
      go_enter Tryd.func63, Tryd.ntmps63
      go_wp2
      go_loopw [19] (fun ix wr => ∃ k : Nat, k ≤ Y.length ∧ ix = .int .i64 k ∧ tOk (Y.drop k) = tOk Y ∧ Below w.heap.size w wr) (fun ix _ => Y.length - (intOf ix).toNat)
      case atStart => exact ⟨0, Nat.zero_le _, rfl, rfl, (Below.refl _ _).alloc (Nat.le_refl _) _⟩
      case round =>
        obtain ⟨k, hk, rfl, hok, hb⟩ := hrel
        have HB := hide hb
        by_cases hlt : k < Y.length
        · obtain rfl := hay (by omega)
          have g := cell_kept (HC.out k hlt) hb
          have hd : Y.drop k = Y.getD k 0 :: Y.drop (k + 1) := by
            rw [List.drop_eq_getElem_cons hlt, List.getD_eq_getElem?_getD, List.getElem?_eq_getElem hlt]; rfl
          have ht : tOk (Y.getD k 0 :: Y.drop (k + 1)) = ((Y.getD k 0 == 0 || Y.getD k 0 == 1) && tOk (Y.drop (k + 1))) := rfl
          rw [hd, ht] at hok
          obtain ⟨y, hy⟩ : ∃ y, Y.getD k 0 = y := ⟨_, rfl⟩
          rw [hy] at g hok
          have hlti : (k : Int) < (Y.length : Int) := by omega
          have HOK := hide hok
          clear hb hd ht hy hok
          have hyc : y = 0 ∨ y = 1 ∨ (y ≠ 0 ∧ y ≠ 1) := by omega
          rcases hyc with rfl | rfl | ⟨y0, y1⟩
          · have HR : Hid (tOk (Y.drop (k + 1)) = tOk Y) := HOK.out
            go_wp2
            go_roundw
            case rel => exact ⟨k + 1, by omega, by go_num, HR.out, HB.out⟩
            case measure => simp [intOf]; omega
          · have HR : Hid (tOk (Y.drop (k + 1)) = tOk Y) := HOK.out
            go_wp2
            go_roundw
            case rel => exact ⟨k + 1, by omega, by go_num, HR.out, HB.out⟩
            case measure => simp [intOf]; omega
          · have e0 : (y != 0) = true := by rw [bne_iff_ne]; exact y0
            have e1 : (y != 1) = true := by rw [bne_iff_ne]; exact y1
            have HR : Hid (tOk Y = false) := by
              show _ = _
              rw [← HOK.out, beq_eq_false_iff_ne.2 y0, beq_eq_false_iff_ne.2 y1]; rfl
            clear y0 y1
            go_wp2
            go_ret
            exact ⟨by rw [HN.out, HR.out]; rfl, HB.out⟩
        · have e : k = Y.length := by omega
          have hge : ¬ (k : Int) < (Y.length : Int) := by omega
          have HR : Hid (tOk Y = true) := by show _ = _; rw [← hok, e, List.drop_length]; rfl
          clear hok hb
          go_wp2
          go_ret
          exact ⟨by rw [HN.out, HR.out]; rfl, HB.out⟩
    · have d1 : decide ((10 : Int) < (Y.length : Int)) = true := decide_eq_true (by omega)
      rw [decide_eq_false h10, Bool.false_and] at HN
      clear hcy
      go_enter Tryd.func63, Tryd.ntmps63
      go_wp2
      go_ret
      exact ⟨by rw [HN.out]; rfl, (Below.refl _ _).alloc (Nat.le_refl _) _⟩
  · rw [if_neg h1] at HN
    have n1 : (K != 1) = true := by rw [bne_iff_ne]; exact h1
    have e0 : ((Y.length : Int) == 0) = (Y.length == 0) := by
      by_cases h : Y.length = 0
      · rw [h]; rfl
      · rw [beq_eq_false_iff_ne.2 h, beq_eq_false_iff_ne]; omega
    rw [← e0] at HN
    clear h1 hcy e0
    go_enter Tryd.func63, Tryd.ntmps63
    go_wp2
    go_ret
    exact ⟨by rw [HN.out]; rfl, (Below.refl _ _).alloc (Nat.le_refl _) _⟩
end Go.Proofs.YtdlahabeegmjiaaDoor
