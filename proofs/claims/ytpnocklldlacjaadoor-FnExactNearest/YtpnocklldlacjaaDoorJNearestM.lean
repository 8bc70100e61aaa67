/-
  A slice of bytes as a text: the numbers of its bytes; its conversion to a string.
  A slice of bytes as a string.
-/
import Derived.Test.YtpnocklldlacjaaDoorJNearestB0
import Derived.Laws.BytesArg
import Derived.Shelf.Unicode.DecodeSlow
import Derived.Test.YtpnocklldlacjaaDoorJNearestIN0
import Derived.Laws.BytesString
namespace Go.Proofs.YtpnocklldlacjaaDoor
open Go.RowKit

theorem get!_beyond (s : ByteArray) (j : Nat) (h : s.size ≤ j) : s.get! j = 0 := by
  cases s with | mk a =>
  simp only [ByteArray.get!]
  rw [getElem!_neg a j (by have h' : a.size ≤ j := h; omega)]; rfl
theorem get!_extract (s : ByteArray) (i k : Nat) : (s.extract i s.size).get! k = s.get! (i + k) := by
  by_cases h : i + k < s.size
  · have h1 : k < (s.extract i s.size).size := by rw [ByteArray.size_extract]; omega
    rw [Utf8W.get!_of_lt _ k h1, Utf8W.get!_of_lt _ (i + k) h]
    exact ByteArray.getElem_extract h1
  · rw [get!_beyond s _ (by omega), get!_beyond _ k (by rw [ByteArray.size_extract]; omega)]

/-- The numbers of a text's bytes. -/
def nums (s : ByteArray) : List Int := s.data.toList.map fun c => (c.toNat : Int)
theorem nums_length (s : ByteArray) : (nums s).length = s.size := by unfold nums; rw [List.length_map, Array.length_toList]; rfl
theorem strOf_nums (s : ByteArray) : strOfNums (nums s) = s := by
  cases s with | mk a =>
  unfold strOfNums nums
  congr 1
  apply Array.ext'
  rw [List.map_map, List.toList_toArray]
  refine (List.map_congr_left (g := id) (fun c _ => ?_)).trans (List.map_id _)
  show UInt8.ofNat ((c.toNat : Int).toNat) = c
  rw [Int.toNat_natCast]
  exact UInt8.ofNat_toNat
theorem nums_getD (s : ByteArray) (j : Nat) (h : j < s.size) : Value.int .u8 ((nums s).getD j 0) = bts s j := by
  unfold bts
  rw [Utf8W.get!_of_lt s j h]
  cases s with | mk a =>
  have h' : j < a.size := h
  show Value.int .u8 (((a.toList.map fun c => (c.toNat : Int))[j]?).getD 0) = Value.int .u8 ((a[j]).toNat : Int)
  rw [List.getElem?_map, Array.getElem?_toList, Array.getElem?_eq_getElem h']
  rfl
theorem toStr_run (s : ByteArray) (w : World) (b off cap : Nat) (hc : ∀ j, j < s.size → w.cell? ⟨b, off + j, none⟩ = some (bts s j)) :
    (convert 37 9 (.slice (some ⟨b, off, none⟩) s.size cap)).run Tryd.prog w = .ok (.string s) w := by
  have := run_convert_bytes_arg (P := Tryd.prog) w 37 5 Tryd.underlying37 Tryd.underlying5 b off s.size cap (nums s) (nums_length s) (fun i hi => by rw [nums_getD s i hi]; exact hc i hi) 9 Tryd.underlying9
  rw [strOf_nums] at this
  exact this

end Go.Proofs.YtpnocklldlacjaaDoor

namespace Go.Proofs.YtpnocklldlacjaaDoor
open Go.RowKit

theorem toStr_bs {w : World} {v : Value} {s : ByteArray} (h : BS w v s) : (convert 37 9 v).run Tryd.prog w = .ok (.string s) w := by
  obtain ⟨a, b, o, c, rfl, ha, hc⟩ := h
  by_cases h0 : 0 < s.size
  · obtain rfl := ha h0
    exact toStr_run s w b o c hc
  · have hz : s.size = 0 := by omega
    have e : s = ByteArray.empty := ext_bytes hz (fun j hj => by omega)
    subst e
    show (convert 37 9 (.slice a 0 c)).run Tryd.prog w = _
    rw [run_convert_bytes_string w 37 9 5 a 0 c Tryd.underlying37 Tryd.underlying5 Tryd.underlying9]
    cases a <;> simp [Conv.bytesToString, loadCells]
    all_goals rfl
end Go.Proofs.YtpnocklldlacjaaDoor
