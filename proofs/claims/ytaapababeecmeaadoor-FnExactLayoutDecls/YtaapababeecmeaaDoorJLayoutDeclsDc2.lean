/-
  The walk of eqDecl, where both read as the same.
  The walk of eqDeclS, where both read as the same.
  A Decl with its blocks; marked.
-/
import Derived.Test.YtaapababeecmeaaDoorJLayoutDeclsDc0
import Derived.Test.YtaapababeecmeaaDoorJLayoutDeclsIB
import Derived.BigQuiet
import Derived.Deep.QuietTactic
import Derived.Deep.RegionWith
import Derived.Test.YtaapababeecmeaaDoorJLayoutDeclsFL
namespace Go.Proofs.YtaapababeecmeaaDoor
open Go.RowKit

set_option maxHeartbeats 2000000 in
set_option maxRecDepth 1000000 in
theorem eqDc_same {w : World} {d : Dc} {p7 q7 : Value} (hb : DcB d) (h1 : DcV w d p7) (h2 : DcV w d q7) :
    Calls Tryd.prog 40 #[dcagg d p7, dcagg d q7] w fun e w' => e = .returned (.bool true) ∧ Below w.heap.size w w' := by
  obtain ⟨x0, x1, x2, x3, x4, x5, x6, x7, x8⟩ := d
  have e0 : (x0 != x0) = false := by simp
  have e1 : (x1 != x1) = false := by simp
  have e2 : (x2 != x2) = false := by simp
  have e3 : (x3 != x3) = false := by simp
  have e4 : (x4 != x4) = false := by simp
  have e5 : (x5 != x5) = false := by simp
  have e6 : (x6 != x6) = false := by simp
  have e8 : (x8 != x8) = false := by simp
  have HB := hide hb
  have H1 := hide h1
  have H2 := hide h2
  clear hb h1 h2
  unfold dcagg
  simp only
  obtain ⟨W0, hW0⟩ : ∃ W, (w.alloc (.cells #[.int .i64 x0, .int .i64 x1, .int .i64 x2, .int .i64 x3, .int .i64 x4, .int .i64 x5, .int .i64 x6, p7, .int .i64 x8] 59)).alloc (.cells #[.int .i64 x0, .int .i64 x1, .int .i64 x2, .int .i64 x3, .int .i64 x4, .int .i64 x5, .int .i64 x6, q7, .int .i64 x8] 59) = W := ⟨_, rfl⟩
  have hb0 : Below w.heap.size w W0 := by rw [← hW0]; exact ((Below.refl _ _).alloc (Nat.le_refl _) _).alloc (by simp) _
  have hA : Blk W0 w.heap.size 59 #[.int .i64 x0, .int .i64 x1, .int .i64 x2, .int .i64 x3, .int .i64 x4, .int .i64 x5, .int .i64 x6, p7, .int .i64 x8] := by rw [← hW0]; exact (Blk.new _ _ _).alloc _
  have hC : Blk W0 (w.heap.size + 1) 59 #[.int .i64 x0, .int .i64 x1, .int .i64 x2, .int .i64 x3, .int .i64 x4, .int .i64 x5, .int .i64 x6, q7, .int .i64 x8] := by
    rw [← hW0]
    have := Blk.new (w.alloc (.cells #[.int .i64 x0, .int .i64 x1, .int .i64 x2, .int .i64 x3, .int .i64 x4, .int .i64 x5, .int .i64 x6, p7, .int .i64 x8] 59)) 59 #[.int .i64 x0, .int .i64 x1, .int .i64 x2, .int .i64 x3, .int .i64 x4, .int .i64 x5, .int .i64 x6, q7, .int .i64 x8]
    simpa using this
  have HA0 := hide hA
  have HC0 := hide hC
  have HB0 := hide hb0
  have HW := hide hW0
  clear hA hC hb0 hW0
  go_enter Tryd.func40, Tryd.ntmps40
  go_wp2_with fail
  rw [HW.out]
  clear HW
  refine (eqB_self HB.out.name (H1.out.name.below HB0.out) (H2.out.name.below HB0.out)).mono ?_
  rintro e w2 ⟨rfl, hb2⟩
  have HA2 := hide (HA0.out.below hb2)
  have HC2 := hide (HC0.out.below hb2)
  have HB2 : Hid (Below w.heap.size w w2) := HB0.out.trans (hb2.mono HB0.out.size)
  have a8 := HA2.out.cell 8
  have c8 := HC2.out.cell 8
  simp only [List.getElem?_toArray, List.getElem?_cons_succ, List.getElem?_cons_zero] at a8 c8
  clear hb2 HA0 HC0 HB0
  go_wp2
  go_ret
  exact ⟨rfl, HB2.out⟩
end Go.Proofs.YtaapababeecmeaaDoor

namespace Go.Proofs.YtaapababeecmeaaDoor
open Go.RowKit

set_option maxHeartbeats 2000000 in
set_option maxRecDepth 1000000 in
theorem eqDcS_same {w : World} {v1 v2 : Value} {L : List Dc} (hs : DcSB L) (h1 : DcS w v1 L) (h2 : DcS w v2 L) :
    Calls Tryd.prog 13 #[v1, v2] w fun e w' => e = .returned (.bool true) ∧ Below w.heap.size w w' := by
  obtain ⟨a1, b1, o1, c1, rfl, ha1, hc1⟩ := h1
  obtain ⟨a2, b2, o2, c2, rfl, ha2, hc2⟩ := h2
  obtain ⟨hs, hz⟩ := hs
  have HC1 := hide hc1
  have HC2 := hide hc2
  have HZ := hide hz
  clear hc1 hc2 hz
  have hne : ((L.length : Int) != (L.length : Int)) = false := by simp
  have hmx : Tryd.prog.follows .mixedOrders = true := by kernel_rfl
  go_enter Tryd.func13, Tryd.ntmps13
  go_wp2
  go_loopw [5] (fun i wr => ∃ k : Nat, k ≤ L.length ∧ i = .int .i64 k ∧ Below w.heap.size w wr) (fun i _ => L.length - (intOf i).toNat)
  case atStart => exact ⟨0, Nat.zero_le _, rfl, Below.refl _ _⟩
  case round =>
    obtain ⟨k, hk, rfl, hb⟩ := hrel
    have HB := hide hb
    by_cases hlt : k < L.length
    · obtain rfl := ha1 (by omega)
      obtain rfl := ha2 (by omega)
      obtain ⟨p7, q1_, p1_⟩ := HC1.out k hlt
      obtain ⟨q7, q2_, p2_⟩ := HC2.out k hlt
      have hzk := HZ.out k hlt
      obtain ⟨d, hd⟩ : ∃ d, L.getD k .zero = d := ⟨_, rfl⟩
      rw [hd] at p1_ p2_ hzk q1_ q2_
      have HE := hide (eqDc_same (w := wr.drew) hzk (p1_.below hb.drew) (p2_.below hb.drew))
      obtain ⟨g0, g1, g2, g3, g4, g5, g6, g7, g8⟩ := q1_.below hb
      obtain ⟨f0, f1, f2, f3, f4, f5, f6, f7, f8⟩ := q2_.below hb
      unfold dcagg at HE
      obtain ⟨x0, x1, x2, x3, x4, x5, x6, x7, x8⟩ := d
      simp only at HE g0 f0 g1 f1 g2 f2 g3 f3 g4 f4 g5 f5 g6 f6 g8 f8
      have hbs := hb.size
      have hlti : (k : Int) < (L.length : Int) := by omega
      clear hb q1_ q2_ p1_ p2_ hd hzk
      go_wp2_with fail
      go_region_with (go_at_call 40; refine HE.out.mono ?_; rintro e w1 ⟨rfl, hb1⟩)
      all_goals have HB1 : Hid (Below w.heap.size w w1) := HB.out.drew.trans (hb1.mono hbs)
      all_goals clear hb1
      all_goals go_wp2
      all_goals
        go_roundw
        case rel => exact ⟨k + 1, by omega, by go_num, HB1.out⟩
        case measure => simp [intOf]; omega
    · have hge : ¬ (k : Int) < (L.length : Int) := by omega
      clear hb
      go_wp2
      go_ret
      exact ⟨rfl, HB.out⟩
end Go.Proofs.YtaapababeecmeaaDoor

namespace Go.Proofs.YtaapababeecmeaaDoor
open Go.RowKit

/-- It reads as d; its blocks. -/
def DcF (w : World) (d : Dc) (v7 : Value) (bl : List Nat) : Prop := BF w v7 d.name bl
theorem DcF.rd {w : World} {d : Dc} {v7 : Value} {bl : List Nat} (h : DcF w d v7 bl) : DcV w d v7 := ⟨BF.rd h⟩
theorem DcF.keep {w w' : World} {d : Dc} {v7 : Value} {bl : List Nat} (h : DcF w d v7 bl) (hk : ∀ g ∈ bl, w'.heap[g]? = w.heap[g]?) : DcF w' d v7 bl := BF.keep h hk
theorem DcF.below {w w' : World} {d : Dc} {v7 : Value} {bl : List Nat} (h : DcF w d v7 bl) (hk : Below w.heap.size w w') : DcF w' d v7 bl := BF.below h hk
theorem DcF.lt {w : World} {d : Dc} {v7 : Value} {bl : List Nat} (h : DcF w d v7 bl) : ∀ g ∈ bl, g < w.heap.size := BF.lt h
end Go.Proofs.YtaapababeecmeaaDoor
