/-
  The walk of laws.FnExactCheckText.
-/
import Derived.Test.YtfldjcmobpcpoaaDoorJCheckTextB
import Derived.Test.YtfldjcmobpcpoaaDoorJCheckTextK
import Derived.Test.YtfldjcmobpcpoaaDoorJCheckTextQ
namespace Go.Proofs.YtfldjcmobpcpoaaDoor
open Go.RowKit

theorem row_cells {w w' : World} {b n : Nat} {f : Nat → Value} (h : w.rowIs b 5 n f) (hb : Below w.heap.size w w') : ∀ j, j < n → w'.cell? ⟨b, 0 + j, none⟩ = some (f j) := fun j hj => by
  rw [hb.cell (p := ⟨b, 0 + j, none⟩) h.lt, Nat.zero_add]; exact h.cell hj

set_option maxHeartbeats 400000 in
set_option maxRecDepth 1000000 in
theorem law_big (a0 : Option Addr) (len cap : Nat) (w : World) (h : 1048576 < (len : Int)) :
    Calls Tryd.prog 3 #[.slice a0 len cap] w fun e w' => e = .returned (.bool true) ∧ Below w.heap.size w w' := by
  go_enter Tryd.func3, Tryd.ntmps3
  go_wp2
  go_ret
  exact ⟨rfl, Below.refl _ _⟩

set_option maxHeartbeats 400000 in
set_option maxRecDepth 1000000 in
theorem law_small (a0 : Option Addr) (b off cap : Nat) (s : ByteArray) (w : World) (hs : s.size ≤ 1048576) (hT : Lib.Utf8Tabs 0 1 w) (ha : 0 < s.size → a0 = some ⟨b, off, none⟩)
    (hc : ∀ j, j < s.size → w.cell? ⟨b, off + j, none⟩ = some (bts s j)) :
    Calls Tryd.prog 3 #[.slice a0 s.size cap] w fun e w' => e = .returned (.bool true) ∧ Below w.heap.size w w' := by
  have hbl : 0 < s.size → b < w.heap.size := fun h => World.block_lt_of_cell? _ _ (hc 0 h)
  have HC := hide hc
  have HA := hide ha
  have HT := hide hT
  have HBL := hide hbl
  have hlt : ((s.size : Int) > 1048576) = False := by simp; omega
  obtain ⟨A, B, hAB⟩ : ∃ A B, chk s = (A, B) := ⟨_, _, rfl⟩
  have HAB := hide hAB
  clear hc ha hT hbl hAB
  go_enter Tryd.func3, Tryd.ntmps3
  go_wp2_with fail
  refine (toB_any a0 b off cap s _ hs HA.out HC.out).mono ?_
  rintro e w1 ⟨rfl, hr1, hb1, hz1⟩
  have HR1 := hide hr1
  have HB1 := hide hb1
  have HZ1 := hide hz1
  clear hr1 hb1 hz1
  go_wp2_with fail
  have H4 := specCheck_any w.heap.size 0 s.size s w1 hs (row_cells HR1.out (Below.refl _ _))
  rw [pairVal_of HAB.out] at H4
  refine H4.mono ?_
  clear H4
  rintro e w2 ⟨rfl, hb2⟩
  have HB2 : Hid (Below w.heap.size w w2) := HB1.out.trans (hb2.mono (by have := HB1.out.size; omega))
  clear hb2
  go_wp2_with fail
  have HC2 : Hid (∀ j, j < s.size → w2.cell? ⟨b, off + j, none⟩ = some (bts s j)) := fun j hj => by
    rw [HB2.out.cell (p := ⟨b, off + j, none⟩) (HBL.out (by omega))]; exact HC.out j hj
  refine (toB_any a0 b off cap s _ hs HA.out HC2.out).mono ?_
  rintro e w3 ⟨rfl, hr3, hb3, hz3⟩
  have HR3 := hide hr3
  have HB3 : Hid (Below w.heap.size w w3) := HB2.out.trans (hb3.mono HB2.out.size)
  clear hr3 hb3 hz3
  go_wp2_with fail
  have H6 := implCheck_any w2.heap.size 0 s.size s w3 hs (Utf8Tabs_below HT.out HB3.out) (row_cells HR3.out (Below.refl _ _))
  rw [pairVal_of HAB.out] at H6
  refine H6.mono ?_
  clear H6
  rintro e w4 ⟨rfl, hb4⟩
  have HB4 : Hid (Below w.heap.size w w4) := HB3.out.trans (hb4.mono HB3.out.size)
  have HR4 := hide (row_cells HR3.out hb4)
  have HL4 : Hid (w2.heap.size < w4.heap.size) := Nat.lt_of_lt_of_le HR3.out.lt hb4.size
  clear hb4
  have hA : ((A : Int) != (A : Int)) = false := by simp
  have hB : ((B : Int) != (B : Int)) = false := by simp
  go_wp2_with fail
  have HC4 : Hid (∀ j, j < s.size → w4.cell? ⟨b, off + j, none⟩ = some (bts s j)) := fun j hj => by
    rw [HB4.out.cell (p := ⟨b, off + j, none⟩) (HBL.out (by omega))]; exact HC.out j hj
  refine (toB_any a0 b off cap s _ hs HA.out HC4.out).mono ?_
  rintro e w5 ⟨rfl, hr5, hb5, hz5⟩
  have HR5 := hide (row_cells hr5 (Below.refl _ _))
  have HB5 : Hid (Below w.heap.size w w5) := HB4.out.trans (hb5.mono HB4.out.size)
  have HR45 : Hid (∀ j, j < s.size → w5.cell? ⟨w2.heap.size, 0 + j, none⟩ = some (bts s j)) := fun j hj => by
    rw [hb5.cell (p := ⟨w2.heap.size, 0 + j, none⟩) HL4.out]; exact HR4.out j hj
  clear hr5 hb5 hz5
  go_wp2_with fail
  have H7 := eqB_any (some ⟨w2.heap.size, 0, none⟩) (some ⟨w4.heap.size, 0, none⟩) w2.heap.size 0 s.size w4.heap.size 0 s.size s s w5 hs hs (fun _ => rfl) (fun _ => rfl) HR45.out HR5.out
  rw [decide_eq_true (rfl : s = s)] at H7
  refine H7.mono ?_
  clear H7
  rintro e w6 ⟨rfl, n, rfl⟩
  go_wp2
  go_ret
  exact ⟨rfl, below_drewN HB5.out n⟩
end Go.Proofs.YtfldjcmobpcpoaaDoor
