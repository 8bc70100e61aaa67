/-
  A slice of bytes as a string.
-/
import Derived.Test.YtfldjcmobpcpoaaDoorJUnquoteTextIN0
import Derived.Test.YtfldjcmobpcpoaaDoorJUnquoteTextM
import Derived.Laws.BytesString
namespace Go.Proofs.YtfldjcmobpcpoaaDoor
open Go.RowKit

theorem toStr_bs {w : World} {v : Value} {s : ByteArray} (h : BS w v s) : (convert 22 9 v).run Tryd.prog w = .ok (.string s) w := by
  obtain ⟨a, b, o, c, rfl, ha, hc⟩ := h
  by_cases h0 : 0 < s.size
  · obtain rfl := ha h0
    exact toStr_run s w b o c hc
  · have hz : s.size = 0 := by omega
    have e : s = ByteArray.empty := ext_bytes hz (fun j hj => by omega)
    subst e
    show (convert 22 9 (.slice a 0 c)).run Tryd.prog w = _
    rw [run_convert_bytes_string w 22 9 5 a 0 c Tryd.underlying22 Tryd.underlying5 Tryd.underlying9]
    cases a <;> simp [Conv.bytesToString, loadCells]
    all_goals rfl
end Go.Proofs.YtfldjcmobpcpoaaDoor
