/-
  The walks of spec.l1words, spec.l1isWord.
-/
import Derived.Test.YtfldjcmobpcpoaaDoorJLexLX
import Derived.Test.YtfldjcmobpcpoaaDoorJLexAP
namespace Go.Proofs.YtfldjcmobpcpoaaDoor
open Go.RowKit

/-- The words as texts in cells. -/
def wc : Array Value := (wl.map fun l => Value.string ⟨l.toArray⟩).toArray
theorem wc_at (j : Nat) (h : j < 26) : wc[j]? = some (.string ⟨(wl.getD j []).toArray⟩) := by
  have h' : j < wl.length := h
  unfold wc
  rw [List.getElem?_toArray, List.getElem?_map]
  simp [List.getD, List.getElem?_eq_getElem h']

set_option maxHeartbeats 1000000 in
set_option maxRecDepth 1000000 in
theorem words_any (w : World) :
    Calls Tryd.prog 56 #[] w fun e w' => ∃ g, e = .returned (.slice (some ⟨g, 0, none⟩) 26 26) ∧ (∀ j, j < 26 → w'.cell? ⟨g, j, none⟩ = some (.string ⟨(wl.getD j []).toArray⟩)) ∧ Below w.heap.size w w' := by
  go_enter Tryd.func56, Tryd.ntmps56
  go_wp2
  go_ret
  exact ⟨w.heap.size, rfl, fun j hj => (cell_fresh w wc 9 j).trans (wc_at j hj), (Below.refl _ _).alloc (Nat.le_refl _) _⟩

theorem isW_yes {s : ByteArray} {n : Nat} (hn : n < 26) (h : wl.getD n [] = s.toList) : isW s = true := by
  have h' : n < wl.length := hn
  unfold isW
  rw [List.contains_iff_mem, ← h]
  simp [List.getD, List.getElem?_eq_getElem h']
theorem isW_no {s : ByteArray} (h : ∀ j, j < 26 → wl.getD j [] ≠ s.toList) : isW s = false := by
  unfold isW
  rw [Bool.eq_false_iff]
  intro g
  rw [List.contains_iff_mem] at g
  obtain ⟨j, hj, e⟩ := List.getElem_of_mem g
  exact h j hj (by simp [List.getD, List.getElem?_eq_getElem hj, e])

set_option maxHeartbeats 1000000 in
set_option maxRecDepth 1000000 in
theorem isWord_any (s : ByteArray) (w : World) :
    Calls Tryd.prog 43 #[.string s] w fun e w' => e = .returned (.bool (isW s)) ∧ Below w.heap.size w w' := by
  have HW := hide (words_any w)
  go_enter Tryd.func43, Tryd.ntmps43
  go_wp2_with fail
  refine HW.out.mono ?_
  rintro e w1 ⟨g, rfl, hcs, hb⟩
  have HCS := hide hcs
  have HB := hide hb
  clear hcs hb
  go_wp2
  go_loopw [4] (fun ix wr => ∃ n : Nat, ix = .int .i64 n ∧ n ≤ 26 ∧ (∀ j, j < n → wl.getD j [] ≠ s.toList) ∧ wr = w1) (fun ix _ => 26 - (intOf ix).toNat)
  case atStart => exact ⟨0, rfl, by omega, fun j hj => absurd hj (Nat.not_lt_zero _), rfl⟩
  case round =>
    obtain ⟨n, rfl, hn, hall, rfl⟩ := hrel
    have HALL := hide hall
    clear hall
    by_cases hlt : n < 26
    · have g1 := HCS.out n hlt
      obtain ⟨x, hx⟩ : ∃ x : ByteArray, (⟨(wl.getD n []).toArray⟩ : ByteArray) = x := ⟨_, rfl⟩
      have HX : Hid (x.toList = wl.getD n []) := by show _ = _; rw [← hx, Lib.toList_data]
      rw [hx] at g1
      clear hx
      have hlti : (n : Int) < 26 := by omega
      by_cases he : x.toList = s.toList
      · have t1 : (x.toList == s.toList) = true := by rw [beq_iff_eq]; exact he
        have HR : Hid (isW s = true) := isW_yes hlt (by rw [← HX.out]; exact he)
        clear he
        go_wp2
        go_ret
        exact ⟨by rw [HR.out]; rfl, HB.out⟩
      · have t1 : (x.toList == s.toList) = false := by rw [beq_eq_false_iff_ne]; exact he
        have HE : Hid (wl.getD n [] ≠ s.toList) := by show _ ≠ _; rw [← HX.out]; exact he
        clear he
        go_wp2
        go_roundw
        case rel => exact ⟨n + 1, by go_num, by omega, fun j hj => by
          by_cases e : j = n
          · rw [e]; exact HE.out
          · exact HALL.out j (by omega), by first | rfl | trivial⟩
        case measure => simp [intOf]; omega
    · have hlti : ¬ (n : Int) < 26 := by omega
      have HR : Hid (isW s = false) := isW_no (fun j hj => HALL.out j (by omega))
      go_wp2
      go_ret
      exact ⟨by rw [HR.out]; rfl, HB.out⟩
end Go.Proofs.YtfldjcmobpcpoaaDoor
