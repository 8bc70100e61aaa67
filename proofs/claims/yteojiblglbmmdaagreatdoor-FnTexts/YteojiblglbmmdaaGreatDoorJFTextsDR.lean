/-
  The walks of the drawing's words.
-/
import Derived.Test.YteojiblglbmmdaaGreatDoorJFTextsDR0
import Derived.Lib.ConvBytes
namespace Go.Proofs.YteojiblglbmmdaaGreatDoor
open Go.RowKit

theorem grown_bytes (W : World) (x : ByteArray) (row : Option Nat) : W.grownBy (Lib.bytesWorld W 5 x) row := ⟨rfl, rfl, rfl, by rw [Lib.bytesWorld_size]; omega, fun k hk _ => Lib.bytesWorld_at_old W 5 x k hk⟩
theorem bytes_out (W : World) (x : ByteArray) (l : List Nat) (hl : x.data.toList.map (fun c => c.toNat) = l) : ∀ j, j < l.length → (Lib.bytesWorld W 5 x).cell? ⟨W.heap.size, j, none⟩ = some (.int .u8 (l.getD j 0 : Nat)) := fun j hj => by
  have hz : j < x.size := by rw [← hl, List.length_map, Array.length_toList] at hj; exact hj
  rw [Lib.bytesWorld_cell W 5 x j hz, ← hl]
  have h' : j < x.data.size := hz
  simp only [List.getD, List.getElem?_map, Array.getElem?_toList, Array.getElem?_eq_getElem h']
  rfl
/-- The drawn words. -/
def dw : List (List UInt8) := [[], [97], [98, 55], [80, 97, 99, 107, 32, 195, 165], [226, 130, 172], [240, 159, 152, 128, 120], [116, 97, 98, 9, 110, 101, 119, 10], [34, 113, 92], [100, 111, 99, 107], [127], [65, 49], [122]]
def dwN (k : Nat) : List Nat := (dw.getD k []).map fun c => c.toNat
theorem dwN_le (k : Nat) : (dwN k).length ≤ 8 := by
  have h : ∀ j : Fin 12, (dwN j.val).length ≤ 8 := by decide
  by_cases hk : k < 12
  · exact h ⟨k, hk⟩
  · unfold dwN
    rw [List.getD_eq_getElem?_getD, List.getElem?_eq_none (by show 12 ≤ k; omega)]
    simp
def dwc : Array Value := (dw.map fun l => Value.string ⟨l.toArray⟩).toArray
theorem dwc_at (j : Nat) (h : j < 12) : dwc[j]? = some (.string ⟨(dw.getD j []).toArray⟩) := by
  have h' : j < dw.length := h
  unfold dwc
  rw [List.getElem?_toArray, List.getElem?_map]
  simp [List.getD, List.getElem?_eq_getElem h']

set_option maxHeartbeats 1000000 in
set_option maxRecDepth 1000000 in
theorem drawText_any (w : World) (R : Nat) (a0 : Option Addr) (b off n cap : Nat) (cs : ByteArray) (i : Nat) (hn : n ≤ 600) (h : RdAt w R a0 b off n cap cs i) :
    Calls Tryz.prog 41 #[.pointer (some ⟨R, 0, none⟩)] w fun e w' => ∃ g c, e = .returned (.slice (some ⟨g, 0, none⟩) (dwN (nx cs n i % 12)).length c) ∧ w.heap.size ≤ g ∧ (∀ j, j < (dwN (nx cs n i % 12)).length → w'.cell? ⟨g, j, none⟩ = some (.int .u8 ((dwN (nx cs n i % 12)).getD j 0 : Nat))) ∧ w.grownBy w' (some R) ∧ RdAt w' R a0 b off n cap cs (i + 1) := by
  have HN := hide (next_any w R a0 b off n cap cs i hn h)
  have hR := h.lt
  have hv := nx_lt cs n i
  obtain ⟨v, hv'⟩ : ∃ v, nx cs n i = v := ⟨_, rfl⟩
  rw [hv'] at HN hv ⊢
  obtain ⟨k, hk⟩ : ∃ k, v % 12 = k := ⟨_, rfl⟩
  have hk12 : k < 12 := by omega
  have hmod : (v : Int).tmod 12 = (k : Int) := by rw [← hk]; exact Int.ofNat_tmod v 12 |>.symm
  rw [hk]
  clear hv' h
  go_enter Tryz.func41, Tryz.ntmps41
  go_wp2_with fail
  refine HN.out.mono ?_
  rintro e w1 ⟨rfl, hg1, hr1⟩
  have HG1 := hide hg1
  have HR1 := hide hr1
  clear hg1 hr1
  have hcv := fun W x => Lib.run_convert_string_bytes (P := Tryz.prog) W 9 22 5 x Tryz.underlying9 Tryz.underlying22 Tryz.underlying5
  have hcase : k = 0 ∨ k = 1 ∨ k = 2 ∨ k = 3 ∨ k = 4 ∨ k = 5 ∨ k = 6 ∨ k = 7 ∨ k = 8 ∨ k = 9 ∨ k = 10 ∨ k = 11 := by omega
  have HFIN : Hid (∀ (cells : Array Value) (x : ByteArray) (l : List Nat), x.data.toList.map (fun c => c.toNat) = l → w.heap.size ≤ w1.heap.size + 1 ∧ (∀ j, j < l.length → (Lib.bytesWorld (w1.alloc (.cells cells 9)) 5 x).cell? ⟨w1.heap.size + 1, j, none⟩ = some (.int .u8 (l.getD j 0 : Nat))) ∧ w.grownBy (Lib.bytesWorld (w1.alloc (.cells cells 9)) 5 x) (some R) ∧ RdAt (Lib.bytesWorld (w1.alloc (.cells cells 9)) 5 x) R a0 b off n cap cs (i + 1)) := fun cells x l hl => by
    have hga : w1.grownBy (w1.alloc (.cells cells 9)) none := World.grownBy_alloc w1 _ none
    have hgb := grown_bytes (w1.alloc (.cells cells 9)) x none
    have hz : (w1.alloc (.cells cells 9)).heap.size = w1.heap.size + 1 := by simp
    have hsz := HG1.out.size
    refine ⟨by omega, fun j hj => ?_, ?_, ?_⟩
    · rw [← hz]; exact bytes_out _ x l hl j hj
    · exact grown_trans HG1.out (grown_trans0 hga hgb) hR
    · exact (HR1.out.kept hga (by simp) (fun _ => by simp)).kept hgb (by simp) (fun _ => by simp)
  rcases hcase with rfl | rfl | rfl | rfl | rfl | rfl | rfl | rfl | rfl | rfl | rfl | rfl
  all_goals
    go_wp2
    go_ret
    exact ⟨w1.heap.size + 1, _, rfl, HFIN.out _ _ _ rfl⟩
end Go.Proofs.YteojiblglbmmdaaGreatDoor
