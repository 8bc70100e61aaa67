/-
  A target's row of distances, in memory.
-/
import Derived.Test.YtpnocklldlacjaaDoorJNearestTK
namespace Go.Proofs.YtpnocklldlacjaaDoor
open Go.RowKit

/-- A target's row of distances, in memory. -/
theorem tb_row {w V : World} {d : Tb} {v2 v3 v4 : Value} {c : Nat} (h : TbV w d v2 v3 v4) (hok : TbOk d) (hc : (c : Int) < d.w * d.h) (hV : Below w.heap.size w V) (i : Nat) (hi : i < d.targets.length) :
    ∃ b o k bD oD cD, v3 = .slice (some ⟨b, o, none⟩) d.dist.length k ∧ V.cell? ⟨b, o + i, none⟩ = some (.slice (some ⟨bD, oD, none⟩) (d.w * d.h).toNat cD) ∧ V.cell? ⟨bD, oD + c, none⟩ = some (.int .i64 (dsT d i c)) := by
  obtain ⟨a, b, o, k, rfl, ha, hcs⟩ := h.dist
  have hi2 : i < d.dist.length := by rw [hok.dl]; exact hi
  obtain rfl := ha (by omega)
  obtain ⟨u, h1, h2⟩ := hcs i hi2
  obtain ⟨aD, bD, oD, cD, rfl, hA, hC⟩ := h2
  have hdl := (hok.rows i hi).dl
  have hlen : (d.dist.getD i []).length = (d.w * d.h).toNat := by omega
  rw [hA (by omega), hlen] at h1
  exact ⟨b, o, k, bD, oD, cD, rfl, cell_kept h1 hV, cell_kept (hC c (by omega)) hV⟩
end Go.Proofs.YtpnocklldlacjaaDoor
