/-
  A slice of bytes that came in, as a text.
-/
import Derived.Test.YtpnocklldlacjaaDoorJNearestB0
import Derived.Laws.BytesArg
import Derived.ProofKit
import Derived.OpenShut
namespace Go.Proofs.YtpnocklldlacjaaDoor
open Go.ChangeShapes Go.WideShapes Go.ChangeAt Go.RowKit

/-- What is told of a slice of bytes that came in. -/
def IsRow (k : IntKind) (w : World) (a : Option Addr) (len cap : Nat) (zs : List Int) : Prop :=
  (a = none ∧ len = 0 ∧ cap = 0 ∧ zs = []) ∨
  ∃ x, a = some x ∧ len ≤ cap ∧ cap ≤ maxLen ∧ zs.length = cap ∧ (∀ i, i < zs.length → w.cell? (x.add i) = some (.int k (zs.getD i 0))) ∧ ∀ n ∈ zs, (Lit.int k n).wf = true

/-- The text that a slice of bytes holds. -/
theorem text_of_row {w : World} {a : Option Addr} {len cap : Nat} {zs : List Int} (h : IsRow .u8 w a len cap zs) :
    ∃ (s : ByteArray) (b off : Nat), s.size = len ∧ (0 < s.size → a = some ⟨b, off, none⟩) ∧ ∀ j, j < s.size → w.cell? ⟨b, off + j, none⟩ = some (bts s j) := by
  rcases h with ⟨rfl, rfl, rfl, rfl⟩ | ⟨x, rfl, hl, _, hz, hcell, hwf⟩
  · exact ⟨ByteArray.empty, 0, 0, rfl, fun h => absurd h (by decide), fun j hj => absurd hj (Nat.not_lt_zero _)⟩
  · have hsz : (strOfNums (zs.take len)).size = len := by rw [strOfNums_size]; simp; omega
    by_cases h0 : len = 0
    · exact ⟨strOfNums (zs.take len), 0, 0, hsz, fun h => by omega, fun j hj => by omega⟩
    · obtain ⟨b, off, rfl, hc⟩ := ints_at hcell (by omega)
      refine ⟨strOfNums (zs.take len), b, off, hsz, fun _ => rfl, fun j hj => ?_⟩
      have hj' : j < zs.length := by omega
      rw [hc j hj']
      have hw := hwf zs[j] (List.getElem_mem hj')
      have h1 : IntKind.u8.min = 0 := rfl
      have h2 : IntKind.u8.max = 255 := rfl
      simp only [Lit.wf, Bool.and_eq_true, decide_eq_true_eq] at hw
      have hb : 0 ≤ zs[j] ∧ zs[j] ≤ 255 := by omega
      have e : (strOfNums (zs.take len)).get! j = UInt8.ofNat zs[j].toNat := by
        have hjt : j < ((zs.take len).map fun n => UInt8.ofNat n.toNat).toArray.size := by simp; omega
        show ((zs.take len).map fun n => UInt8.ofNat n.toNat).toArray[j]! = _
        rw [getElem!_pos _ j hjt]
        simp
      have e2 : (UInt8.ofNat zs[j].toNat).toNat = zs[j].toNat := by rw [UInt8.toNat_ofNat']; omega
      have e3 : zs.getD j 0 = zs[j] := by simp [List.getD, hj']
      unfold bts
      rw [e, e2, e3, Int.toNat_of_nonneg hb.1]

end Go.Proofs.YtpnocklldlacjaaDoor
