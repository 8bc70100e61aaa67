/-
  The walk of impl.isWord.
-/
import Derived.Test.YteojiblglbmmdaaGreatDoorJFTextsLX
namespace Go.Proofs.YteojiblglbmmdaaGreatDoor
open Go.RowKit

theorem isW_or (s : ByteArray) : isW s = wl.any (fun l => s.toList == l) := by
  unfold isW
  rw [Bool.eq_iff_iff, List.contains_iff_mem, List.any_eq_true]
  constructor
  · intro h; exact ⟨_, h, by simp⟩
  · rintro ⟨l, h1, h2⟩; rw [eq_of_beq h2]; exact h1

set_option maxHeartbeats 4000000 in
set_option maxRecDepth 1000000 in
theorem implWord_any (s : ByteArray) (w : World) :
    Calls Tryz.prog 54 #[.string s] w fun e w' => e = .returned (.bool (isW s)) ∧ w' = w := by
  have HI := hide (isW_or s)
  generalize isW s = W at *
  go_enter Tryz.func54, Tryz.ntmps54
  go_wp2
  all_goals go_ret
  all_goals refine ⟨ret_bool ?_, rfl⟩
  all_goals rw [HI.out]
  all_goals simp only [wl, List.any_cons, List.any_nil]
  all_goals simp_all only [Bool.true_or, Bool.or_true, Bool.or_false, Bool.false_eq_true]
end Go.Proofs.YteojiblglbmmdaaGreatDoor
