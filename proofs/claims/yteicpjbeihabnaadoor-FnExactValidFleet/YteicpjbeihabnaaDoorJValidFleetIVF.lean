/-
  The walk of impl.ValidFleet.
  A slice of bytes that came in, as a text.
-/
import Derived.Test.YteicpjbeihabnaaDoorJValidFleetINF
import Derived.Test.YteicpjbeihabnaaDoorJValidFleetB0
import Derived.Laws.BytesArg
import Derived.ProofKit
import Derived.OpenShut
namespace Go.Proofs.YteicpjbeihabnaaDoor
open Go.RowKit

set_option maxHeartbeats 4000000 in
set_option maxRecDepth 1000000 in
theorem implVF_any (d : Tb) (v2 v3 v4 : Value) (L : List Ro) (u : Value) (w : World) (hb : TbB d) (hL : L.length ≤ 1048576) (hd : TbL d) (hRo : RoL L) (hmv : MvOk w) (hT : Lib.Utf8Tabs 2 3 w) (h : TbV w d v2 v3 v4) (hu : RoS w u L) :
    Calls Tryd.prog 27 #[tbagg d v2 v3 v4, u] w fun e w' => Ans (VfOk d L) e ∧ Below w.heap.size w w' := by
  have HNF := hide (fun V (hV : Below w.heap.size w V) => newFleet_any d v2 v3 v4 L u V hb hL hd hRo (hmv.below hV) (Utf8Tabs_below hT hV) (h.below hV) (hu.below hV))
  obtain ⟨au, cu, rfl⟩ := hu.slice
  obtain ⟨a2, c2, rfl⟩ := h.targets.slice
  obtain ⟨a3, c3, rfl⟩ := h.dist.slice
  obtain ⟨a4, c4, rfl⟩ := h.hop.slice
  clear h hb hu hRo hd hmv hT
  unfold tbagg at HNF ⊢
  obtain ⟨X, Y, T, Ds, Hs⟩ := d
  simp only at HNF ⊢
  obtain ⟨W0, hW0⟩ : ∃ W, w.alloc (.cells #[.int .i64 X, .int .i64 Y, .slice a2 T.length c2, .slice a3 Ds.length c3, .slice a4 Hs.length c4] 31) = W := ⟨_, rfl⟩
  have hB0 : Below w.heap.size w W0 := by rw [← hW0]; exact (Below.refl _ _).alloc (Nat.le_refl _) _
  have hA0 : Blk W0 w.heap.size 31 #[.int .i64 X, .int .i64 Y, .slice a2 T.length c2, .slice a3 Ds.length c3, .slice a4 Hs.length c4] := by rw [← hW0]; exact Blk.new _ _ _
  have z0 := hA0.cell 0
  have z1 := hA0.cell 1
  have z2 := hA0.cell 2
  have z3 := hA0.cell 3
  have z4 := hA0.cell 4
  simp only [List.getElem?_toArray, List.getElem?_cons_succ, List.getElem?_cons_zero] at z0 z1 z2 z3 z4
  have HB := hide hB0
  have HTC := hide (HNF.out W0 hB0)
  have hW := hW0
  clear hW0 hB0 HNF hA0
  go_enter Tryd.func27, Tryd.ntmps27
  go_wp2_with fail
  refine HTC.out.mono ?_
  rintro e w1 ⟨hn, hb1⟩
  have HB1 : Hid (Below w.heap.size w w1) := HB.out.trans (hb1.mono HB.out.size)
  clear hb1 z0 z1 z2 z3 z4 hW HTC
  rcases hn with ⟨hno, rfl⟩ | ⟨hyes, F, R, M, rv, rfl, _, _, _, _⟩
  · have HR := hide hno
    clear hno
    go_wp2
    go_ret
    exact ⟨Ans.no HR.out, HB1.out⟩
  · have HR := hide hyes
    clear hyes
    go_wp2
    go_ret
    exact ⟨Ans.yes HR.out, HB1.out⟩
end Go.Proofs.YteicpjbeihabnaaDoor

namespace Go.Proofs.YteicpjbeihabnaaDoor
open Go.ChangeShapes Go.WideShapes Go.ChangeAt Go.RowKit

/-- What is told of a slice of bytes that came in. -/
def IsRow (k : IntKind) (w : World) (a : Option Addr) (len cap : Nat) (zs : List Int) : Prop :=
  (a = none ∧ len = 0 ∧ cap = 0 ∧ zs = []) ∨
  ∃ x, a = some x ∧ len ≤ cap ∧ cap ≤ maxLen ∧ zs.length = cap ∧ (∀ i, i < zs.length → w.cell? (x.add i) = some (.int k (zs.getD i 0))) ∧ ∀ n ∈ zs, (Lit.int k n).wf = true

/-- The text that a slice of bytes holds. -/
theorem text_of_row {w : World} {a : Option Addr} {len cap : Nat} {zs : List Int} (h : IsRow .u8 w a len cap zs) :
    ∃ (s : ByteArray) (b off : Nat), s.size = len ∧ (0 < s.size → a = some ⟨b, off, none⟩) ∧ ∀ j, j < s.size → w.cell? ⟨b, off + j, none⟩ = some (bts s j) := by
  rcases h with ⟨rfl, rfl, rfl, rfl⟩ | ⟨x, rfl, hl, _, hz, hcell, hwf⟩
  · exact ⟨ByteArray.empty, 0, 0, rfl, fun h => absurd h (by decide), fun j hj => absurd hj (Nat.not_lt_zero _)⟩
  · have hsz : (strOfNums (zs.take len)).size = len := by rw [strOfNums_size]; simp; omega
    by_cases h0 : len = 0
    · exact ⟨strOfNums (zs.take len), 0, 0, hsz, fun h => by omega, fun j hj => by omega⟩
    · obtain ⟨b, off, rfl, hc⟩ := ints_at hcell (by omega)
      refine ⟨strOfNums (zs.take len), b, off, hsz, fun _ => rfl, fun j hj => ?_⟩
      have hj' : j < zs.length := by omega
      rw [hc j hj']
      have hw := hwf zs[j] (List.getElem_mem hj')
      have h1 : IntKind.u8.min = 0 := rfl
      have h2 : IntKind.u8.max = 255 := rfl
      simp only [Lit.wf, Bool.and_eq_true, decide_eq_true_eq] at hw
      have hb : 0 ≤ zs[j] ∧ zs[j] ≤ 255 := by omega
      have e : (strOfNums (zs.take len)).get! j = UInt8.ofNat zs[j].toNat := by
        have hjt : j < ((zs.take len).map fun n => UInt8.ofNat n.toNat).toArray.size := by simp; omega
        show ((zs.take len).map fun n => UInt8.ofNat n.toNat).toArray[j]! = _
        rw [getElem!_pos _ j hjt]
        simp
      have e2 : (UInt8.ofNat zs[j].toNat).toNat = zs[j].toNat := by rw [UInt8.toNat_ofNat']; omega
      have e3 : zs.getD j 0 = zs[j] := by simp [List.getD, hj']
      unfold bts
      rw [e, e2, e3, Int.toNat_of_nonneg hb.1]

end Go.Proofs.YteicpjbeihabnaaDoor
