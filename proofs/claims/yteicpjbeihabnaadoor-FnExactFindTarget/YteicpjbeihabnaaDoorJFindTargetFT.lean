/-
  Plainly: a target by its name.
-/
import Derived.Test.YteicpjbeihabnaaDoorJFindTargetTK
namespace Go.Proofs.YteicpjbeihabnaaDoor
open Go.RowKit

/-- The first with this name, or -1. -/
def ftL : List Tg → ByteArray → Int → Int
  | [], _, _ => -1
  | t :: r, s, k => if t.name = s then k else ftL r s (k + 1)
theorem ftL_at {L : List Tg} {s : ByteArray} {i : Nat} (h : i < L.length) (k : Int) : ftL (L.drop i) s k = if (L.getD i .zero).name = s then k else ftL (L.drop (i + 1)) s (k + 1) := by
  rw [List.drop_eq_getElem_cons h]
  have e : L.getD i .zero = L[i] := by rw [List.getD_eq_getElem?_getD, List.getElem?_eq_getElem h]; rfl
  rw [e]
  rfl
open Classical in
/-- What FindTarget answers. -/
noncomputable def ftF (d : Tb) (s : ByteArray) : Int := if TbOk d then ftL d.targets s 0 else -1
theorem ftF_no {d : Tb} {s : ByteArray} (h : ¬ TbOk d) : ftF d s = -1 := if_neg h
theorem ftF_yes {d : Tb} {s : ByteArray} (h : TbOk d) : ftF d s = ftL d.targets s 0 := if_pos h
end Go.Proofs.YteicpjbeihabnaaDoor
