/-
  The walk of spec.CheckText.
  The walk of spec.l1good.
  The walk of spec.l1good at any slice.
  A slice of bytes as a text: the numbers of its bytes; its conversion to a string.
  A slice of bytes as a string.
-/
import Derived.Test.YteicpjbeihabnaaDoorJRunFleetC
import Derived.Test.YteicpjbeihabnaaDoorJRunFleetB0
import Derived.Laws.BytesArg
import Derived.Shelf.Unicode.DecodeSlow
import Derived.Laws.BytesString
namespace Go.Proofs.YteicpjbeihabnaaDoor
open Go.RowKit

def pairVal (q : Nat × Nat) : Value := .tuple #[.int .i64 (q.1 : Int), .int .i64 (q.2 : Int)]
theorem pairVal_of {q : Nat × Nat} {a c : Nat} (h : q = (a, c)) : pairVal q = .tuple #[.int .i64 (a : Int), .int .i64 (c : Int)] := by rw [h]; rfl

set_option maxHeartbeats 400000 in
set_option maxRecDepth 1000000 in
theorem specCheck_any (b off cap : Nat) (s : ByteArray) (w : World) (hs : s.size ≤ 1048576) (hc : ∀ j, j < s.size → w.cell? ⟨b, off + j, none⟩ = some (bts s j)) :
    Calls Tryd.prog 88 #[.slice (some ⟨b, off, none⟩) s.size cap] w fun e w' => e = .returned (pairVal (chk s)) ∧ Below w.heap.size w w' := by
  go_enter Tryd.func88, Tryd.ntmps88
  go_wp2
  go_loopw [4] (fun i wr => ∃ p f : Nat, i = .int .i64 p ∧ p ≤ s.size + 4 ∧ s.size < p + f ∧ chkAt s f p = chk s ∧ Below w.heap.size w wr) (fun i _ => s.size - (intOf i).toNat)
  case atStart => exact ⟨0, s.size + 1, rfl, by omega, by omega, rfl, Below.refl _ _⟩
  case round =>
    obtain ⟨p, f, rfl, hp, hf, hk, hbl⟩ := hrel
    have HK : Hid (chkAt s f p = chk s) := hk
    clear hk
    by_cases hlt : p < s.size
    · have hb : b < w.heap.size := World.block_lt_of_cell? _ _ (hc p hlt)
      have hc' : ∀ j, j < s.size → wr.cell? ⟨b, off + j, none⟩ = some (bts s j) := fun j hj => by rw [hbl.cell (p := ⟨b, off + j, none⟩) hb]; exact hc j hj
      have H8 := char_any b off cap p s wr hs hlt hc'
      obtain ⟨N, V, hN⟩ : ∃ N V, chr s p = (N, V) := ⟨_, _, rfl⟩
      rw [chrVal_of hN] at H8
      have hn4 : N ≤ 4 := by have := chr_le s p; rw [hN] at this; exact this
      have H8' := hide H8
      have HN : Hid (chr s p = (N, V)) := hN
      clear H8 hN hc hc'
      by_cases hz : N = 0
      · have hzb : ((N : Int) == 0) = true := by rw [beq_iff_eq]; omega
        have HZ : Hid (chk s = (2, p)) := by rw [← HK.out]; exact chkAt_bad hlt hf (by rw [HN.out]; exact hz)
        clear hz
        go_wp2_with (go_at_call 91; refine H8'.out.mono ?_; rintro e w1 ⟨rfl, hb1⟩)
        go_ret2
        exact ⟨by rw [pairVal_of HZ.out]; rfl, hbl.trans (hb1.mono hbl.size)⟩
      · have hzb : ((N : Int) == 0) = false := by rw [beq_eq_false_iff_ne]; omega
        obtain ⟨g, hg, hgk⟩ := chkAt_good hlt hf (by rw [HN.out]; exact hz)
        have HG : Hid (chkAt s g (p + N) = chk s) := by show _ = _; rw [← HK.out, hgk, HN.out]
        have hg1 : f ≤ g + 1 := by omega
        have hz1 : 1 ≤ N := by omega
        clear hz hg hgk
        go_wp2_with (go_at_call 91; refine H8'.out.mono ?_; rintro e w1 ⟨rfl, hb1⟩)
        go_roundw
        case rel => exact ⟨p + N, g, by go_num, by omega, by omega, HG.out, hbl.trans (hb1.mono hbl.size)⟩
        case measure => simp [intOf]; omega
    · have HZ : Hid (chk s = (0, 0)) := by rw [← HK.out]; exact chkAt_end hlt
      go_wp2
      go_ret2
      exact ⟨by rw [pairVal_of HZ.out]; rfl, hbl⟩
end Go.Proofs.YteicpjbeihabnaaDoor

namespace Go.Proofs.YteicpjbeihabnaaDoor
open Go.RowKit

set_option maxHeartbeats 400000 in
theorem good_any (b off cap : Nat) (s : ByteArray) (w : World) (hs : s.size ≤ 1048576) (hc : ∀ j, j < s.size → w.cell? ⟨b, off + j, none⟩ = some (bts s j)) :
    Calls Tryd.prog 82 #[.slice (some ⟨b, off, none⟩) s.size cap] w fun e w' => e = .returned (.bool (((chk s).1 : Int) == 0)) ∧ Below w.heap.size w w' := by
  have H0 := specCheck_any b off cap s w hs hc
  obtain ⟨A, D, hAD⟩ : ∃ A D, chk s = (A, D) := ⟨_, _, rfl⟩
  rw [pairVal_of hAD] at H0
  rw [hAD]
  have H := hide H0
  clear hc H0 hAD
  go_enter Tryd.func82, Tryd.ntmps82
  go_wp2_with (go_at_call 88; refine H.out.mono ?_; rintro e w1 ⟨rfl, hb1⟩)
  go_ret
  exact ⟨rfl, hb1⟩
end Go.Proofs.YteicpjbeihabnaaDoor

namespace Go.Proofs.YteicpjbeihabnaaDoor
open Go.RowKit

set_option maxHeartbeats 400000 in
theorem specCheck_none (a : Option Addr) (c : Nat) (w : World) :
    Calls Tryd.prog 88 #[.slice a 0 c] w fun e w' => e = .returned (.tuple #[.int .i64 0, .int .i64 0]) ∧ Below w.heap.size w w' := by
  go_enter Tryd.func88, Tryd.ntmps88
  go_wp2
  go_loopw [4] (fun i wr => i = .int .i64 0 ∧ wr = w) (fun _ _ => 0)
  case atStart => exact ⟨rfl, rfl⟩
  case round =>
    obtain ⟨rfl, rfl⟩ := hrel
    go_wp2
    go_ret2
    exact ⟨rfl, Below.refl _ _⟩

set_option maxHeartbeats 400000 in
theorem good_bs {w : World} {v : Value} {s : ByteArray} (hs : s.size ≤ 1048576) (h : BS w v s) :
    Calls Tryd.prog 82 #[v] w fun e w' => e = .returned (.bool (((chk s).1 : Int) == 0)) ∧ Below w.heap.size w w' := by
  obtain ⟨a, b, o, c, rfl, ha, hc⟩ := h
  by_cases h0 : 0 < s.size
  · obtain rfl := ha h0
    exact good_any b o c s w hs hc
  · have e : s = ByteArray.empty := ext_bytes (show s.size = 0 by omega) (fun j hj => by omega)
    subst e
    have H := hide (specCheck_none a c w)
    have e2 : (((chk ByteArray.empty).1 : Int) == 0) = true := by decide
    rw [e2]
    have e3 : ByteArray.empty.size = 0 := rfl
    rw [e3]
    clear ha hc h0 e2 e3 hs
    go_enter Tryd.func82, Tryd.ntmps82
    go_wp2_with (go_at_call 88; refine H.out.mono ?_; rintro e w1 ⟨rfl, hb1⟩)
    go_ret
    exact ⟨rfl, hb1⟩
end Go.Proofs.YteicpjbeihabnaaDoor

namespace Go.Proofs.YteicpjbeihabnaaDoor
open Go.RowKit

theorem get!_beyond (s : ByteArray) (j : Nat) (h : s.size ≤ j) : s.get! j = 0 := by
  cases s with | mk a =>
  simp only [ByteArray.get!]
  rw [getElem!_neg a j (by have h' : a.size ≤ j := h; omega)]; rfl
theorem get!_extract (s : ByteArray) (i k : Nat) : (s.extract i s.size).get! k = s.get! (i + k) := by
  by_cases h : i + k < s.size
  · have h1 : k < (s.extract i s.size).size := by rw [ByteArray.size_extract]; omega
    rw [Utf8W.get!_of_lt _ k h1, Utf8W.get!_of_lt _ (i + k) h]
    exact ByteArray.getElem_extract h1
  · rw [get!_beyond s _ (by omega), get!_beyond _ k (by rw [ByteArray.size_extract]; omega)]

/-- The numbers of a text's bytes. -/
def nums (s : ByteArray) : List Int := s.data.toList.map fun c => (c.toNat : Int)
theorem nums_length (s : ByteArray) : (nums s).length = s.size := by unfold nums; rw [List.length_map, Array.length_toList]; rfl
theorem strOf_nums (s : ByteArray) : strOfNums (nums s) = s := by
  cases s with | mk a =>
  unfold strOfNums nums
  congr 1
  apply Array.ext'
  rw [List.map_map, List.toList_toArray]
  refine (List.map_congr_left (g := id) (fun c _ => ?_)).trans (List.map_id _)
  show UInt8.ofNat ((c.toNat : Int).toNat) = c
  rw [Int.toNat_natCast]
  exact UInt8.ofNat_toNat
theorem nums_getD (s : ByteArray) (j : Nat) (h : j < s.size) : Value.int .u8 ((nums s).getD j 0) = bts s j := by
  unfold bts
  rw [Utf8W.get!_of_lt s j h]
  cases s with | mk a =>
  have h' : j < a.size := h
  show Value.int .u8 (((a.toList.map fun c => (c.toNat : Int))[j]?).getD 0) = Value.int .u8 ((a[j]).toNat : Int)
  rw [List.getElem?_map, Array.getElem?_toList, Array.getElem?_eq_getElem h']
  rfl
theorem toStr_run (s : ByteArray) (w : World) (b off cap : Nat) (hc : ∀ j, j < s.size → w.cell? ⟨b, off + j, none⟩ = some (bts s j)) :
    (convert 26 9 (.slice (some ⟨b, off, none⟩) s.size cap)).run Tryd.prog w = .ok (.string s) w := by
  have := run_convert_bytes_arg (P := Tryd.prog) w 26 5 Tryd.underlying26 Tryd.underlying5 b off s.size cap (nums s) (nums_length s) (fun i hi => by rw [nums_getD s i hi]; exact hc i hi) 9 Tryd.underlying9
  rw [strOf_nums] at this
  exact this

end Go.Proofs.YteicpjbeihabnaaDoor

namespace Go.Proofs.YteicpjbeihabnaaDoor
open Go.RowKit

theorem toStr_bs {w : World} {v : Value} {s : ByteArray} (h : BS w v s) : (convert 26 9 v).run Tryd.prog w = .ok (.string s) w := by
  obtain ⟨a, b, o, c, rfl, ha, hc⟩ := h
  by_cases h0 : 0 < s.size
  · obtain rfl := ha h0
    exact toStr_run s w b o c hc
  · have hz : s.size = 0 := by omega
    have e : s = ByteArray.empty := ext_bytes hz (fun j hj => by omega)
    subst e
    show (convert 26 9 (.slice a 0 c)).run Tryd.prog w = _
    rw [run_convert_bytes_string w 26 9 5 a 0 c Tryd.underlying26 Tryd.underlying5 Tryd.underlying9]
    cases a <;> simp [Conv.bytesToString, loadCells]
    all_goals rfl
end Go.Proofs.YteicpjbeihabnaaDoor
