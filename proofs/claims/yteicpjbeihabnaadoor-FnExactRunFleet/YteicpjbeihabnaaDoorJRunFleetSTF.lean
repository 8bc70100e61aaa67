/-
  The walk of spec.TickFleet.
  Reports in memory.
-/
import Derived.Test.YteicpjbeihabnaaDoorJRunFleetSTK
import Derived.Test.YteicpjbeihabnaaDoorJRunFleetSVF
import Derived.Test.YteicpjbeihabnaaDoorJRunFleetTbMK
namespace Go.Proofs.YteicpjbeihabnaaDoor
open Go.RowKit

theorem ros_nil (w : World) (c : Nat) : RoS w (.slice none 0 c) [] := ⟨none, 0, 0, c, rfl, fun h => absurd h (by decide), fun j hj => absurd hj (Nat.not_lt_zero _)⟩

set_option maxHeartbeats 4000000 in
set_option maxRecDepth 1000000 in
theorem specTk_any (d : Tb) (v2 v3 v4 : Value) (L : List Ro) (u : Value) (w : World) (hb : TbB d) (hL : L.length ≤ 1048576) (h : TbV w d v2 v3 v4) (hu : RoS w u L) (hnn : Nn u) :
    Calls Tryd.prog 29 #[tbagg d v2 v3 v4, u] w fun e w' => ∃ v, e = .returned (.tuple #[v, .bool (tkS d L), .int .i64 (tkC d L)]) ∧ RoS w' v (tkF d L) ∧ Below w.heap.size w w' := by
  have HNF := hide (fun V (hV : Below w.heap.size w V) => specVF_any d v2 v3 v4 L u V hb hL (h.below hV) (hu.below hV))
  have HTK := hide (fun V (hV : Below w.heap.size w V) hok => l8tick_any d v2 v3 v4 L u V hb (h.below hV) (hu.below hV) hnn hok)
  obtain ⟨au, cu, rfl⟩ := hu.slice
  obtain ⟨a2, c2, rfl⟩ := h.targets.slice
  obtain ⟨a3, c3, rfl⟩ := h.dist.slice
  obtain ⟨a4, c4, rfl⟩ := h.hop.slice
  clear h hb hu hnn
  unfold tbagg at HNF HTK ⊢
  obtain ⟨X, Y, T, Ds, Hs⟩ := d
  simp only at HNF HTK ⊢
  obtain ⟨W0, hW0⟩ : ∃ W, w.alloc (.cells #[.int .i64 X, .int .i64 Y, .slice a2 T.length c2, .slice a3 Ds.length c3, .slice a4 Hs.length c4] 31) = W := ⟨_, rfl⟩
  have hB0 : Below w.heap.size w W0 := by rw [← hW0]; exact (Below.refl _ _).alloc (Nat.le_refl _) _
  have hA0 : Blk W0 w.heap.size 31 #[.int .i64 X, .int .i64 Y, .slice a2 T.length c2, .slice a3 Ds.length c3, .slice a4 Hs.length c4] := by rw [← hW0]; exact Blk.new _ _ _
  have z0 := hA0.cell 0
  have z1 := hA0.cell 1
  have z2 := hA0.cell 2
  have z3 := hA0.cell 3
  have z4 := hA0.cell 4
  simp only [List.getElem?_toArray, List.getElem?_cons_succ, List.getElem?_cons_zero] at z0 z1 z2 z3 z4
  have HB := hide hB0
  have HTC := hide (HNF.out W0 hB0)
  have hW := hW0
  clear hW0 hB0 HNF hA0
  go_enter Tryd.func29, Tryd.ntmps29
  go_wp2_with fail
  refine HTC.out.mono ?_
  rintro e w1 ⟨⟨ok, rfl, hoi⟩, hb1⟩
  have HB1 : Hid (Below w.heap.size w w1) := HB.out.trans (hb1.mono HB.out.size)
  have y0 := cell_kept z0 hb1
  have y1 := cell_kept z1 hb1
  have y2 := cell_kept z2 hb1
  have y3 := cell_kept z3 hb1
  have y4 := cell_kept z4 hb1
  have HOI := hide hoi
  clear hb1 z0 z1 z2 z3 z4 hW HTC hoi
  cases ok with
  | false =>
    have HR : Hid (¬ VfOk ⟨X, Y, T, Ds, Hs⟩ L) := fun h => by have := HOI.out.2 h; cases this
    go_wp2
    go_ret3
    rw [tkF_no HR.out, tkS_no HR.out, tkC_no HR.out]
    exact ⟨_, rfl, ros_nil _ _, HB1.out⟩
  | true =>
    have HR := hide (HOI.out.1 rfl)
    have HTI := hide (HTK.out w1 HB1.out HR.out)
    clear HTK
    go_wp2_with fail
    refine HTI.out.mono ?_
    rintro e w2 ⟨v, R, rfl, hf2, _, _, hb2⟩
    have HB2 : Hid (Below w.heap.size w w2) := HB1.out.trans (hb2.mono HB1.out.size)
    have HRF := hide hf2.rd
    obtain ⟨a', c', hv, _⟩ := hf2.slc
    subst hv
    clear hf2 hb2 HTI
    go_wp2
    go_ret3
    rw [tkF_yes HR.out, tkS_yes HR.out, tkC_yes HR.out]
    exact ⟨_, rfl, HRF.out, HB2.out⟩
end Go.Proofs.YteicpjbeihabnaaDoor

namespace Go.Proofs.YteicpjbeihabnaaDoor
open Go.RowKit

/-- A report. -/
def rnagg (c t : Int) (v : Value) : Value := .agg #[.int .i64 c, .int .i64 t, v]

theorem rep_set {w : World} {B : Nat} {t : TypeId} {x y z : Value} (h : Blk w B t #[x, y, z]) (a b c : Value) : Blk (((w.setCell ⟨B, 0, none⟩ a).setCell ⟨B, 1, none⟩ b).setCell ⟨B, 2, none⟩ c) B t #[a, b, c] := by
  have := ((h.set 0 a).set 1 b).set 2 c
  simpa using this
theorem rep_below {w V : World} {B g : Nat} (h : Below B w V) (hg : B ≤ g) (a b c : Value) : Below B w (((V.setCell ⟨g, 0, none⟩ a).setCell ⟨g, 1, none⟩ b).setCell ⟨g, 2, none⟩ c) := ((h.setCell hg a).setCell hg b).setCell hg c
theorem rep_blk (V : World) (g k : Nat) (hk : k ≠ g) (a b c : Value) : (((V.setCell ⟨g, 0, none⟩ a).setCell ⟨g, 1, none⟩ b).setCell ⟨g, 2, none⟩ c).heap[k]? = V.heap[k]? := by
  rw [Below.heap_setCell _ _ _ _ hk, Below.heap_setCell _ _ _ _ hk, Below.heap_setCell _ _ _ _ hk]
end Go.Proofs.YteicpjbeihabnaaDoor
