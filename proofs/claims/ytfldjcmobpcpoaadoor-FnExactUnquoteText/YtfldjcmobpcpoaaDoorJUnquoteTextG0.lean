/-
  The walk of spec.l1good.
-/
import Derived.Test.YtfldjcmobpcpoaaDoorJUnquoteTextK
namespace Go.Proofs.YtfldjcmobpcpoaaDoor
open Go.RowKit

set_option maxHeartbeats 400000 in
theorem good_any (b off cap : Nat) (s : ByteArray) (w : World) (hs : s.size ≤ 1048576) (hc : ∀ j, j < s.size → w.cell? ⟨b, off + j, none⟩ = some (bts s j)) :
    Calls Tryd.prog 24 #[.slice (some ⟨b, off, none⟩) s.size cap] w fun e w' => e = .returned (.bool (((chk s).1 : Int) == 0)) ∧ Below w.heap.size w w' := by
  have H0 := specCheck_any b off cap s w hs hc
  obtain ⟨A, D, hAD⟩ : ∃ A D, chk s = (A, D) := ⟨_, _, rfl⟩
  rw [pairVal_of hAD] at H0
  rw [hAD]
  have H := hide H0
  clear hc H0 hAD
  go_enter Tryd.func24, Tryd.ntmps24
  go_wp2_with (go_at_call 7; refine H.out.mono ?_; rintro e w1 ⟨rfl, hb1⟩)
  go_ret
  exact ⟨rfl, hb1⟩
end Go.Proofs.YtfldjcmobpcpoaaDoor
