/-
  A slice of bytes as a string.
-/
import Derived.Test.YtonhehndoifipaaJPackHopsIN0
import Derived.Test.YtonhehndoifipaaJPackHopsM
import Derived.Laws.BytesString
namespace Go.Proofs.Ytonhehndoifipaa
open Go.RowKit

theorem toStr_bs {w : World} {v : Value} {s : ByteArray} (h : BS w v s) : (convert 22 9 v).run Try.prog w = .ok (.string s) w := by
  obtain ⟨a, b, o, c, rfl, ha, hc⟩ := h
  by_cases h0 : 0 < s.size
  · obtain rfl := ha h0
    exact toStr_run s w b o c hc
  · have hz : s.size = 0 := by omega
    have e : s = ByteArray.empty := ext_bytes hz (fun j hj => by omega)
    subst e
    show (convert 22 9 (.slice a 0 c)).run Try.prog w = _
    rw [run_convert_bytes_string w 22 9 5 a 0 c Try.underlying22 Try.underlying5 Try.underlying9]
    cases a <;> simp [Conv.bytesToString, loadCells]
    all_goals rfl
end Go.Proofs.Ytonhehndoifipaa
