/-
  The walk of laws.FnExactQuoteText.
-/
import Derived.Test.YtfldjcmobpcpoaaDoorJQuoteTextB
import Derived.Test.YtfldjcmobpcpoaaDoorJQuoteTextH
import Derived.Test.YtfldjcmobpcpoaaDoorJQuoteTextIQ
import Derived.Test.YtfldjcmobpcpoaaDoorJQuoteTextG2
namespace Go.Proofs.YtfldjcmobpcpoaaDoor
open Go.RowKit

/-- Bytes that lie at the head of a block. -/
def CellsAt (w : World) (g : Nat) (l : List Nat) : Prop := ∀ j, j < l.length → w.cell? ⟨g, j, none⟩ = some (.int .u8 (l.getD j 0 : Nat))
theorem CellsAt.below {w w' : World} {g B : Nat} {l : List Nat} (h : CellsAt w g l) (hg : 0 < l.length → g < B) (hb : Below B w w') : CellsAt w' g l := fun j hj => by
  rw [hb.cell (p := ⟨g, j, none⟩) (hg (by omega))]; exact h j hj
theorem CellsAt.only {w w' : World} {g b : Nat} {l : List Nat} (h : CellsAt w g l) (hg : 0 < l.length → g ≠ b) (hb : Only b w w') : CellsAt w' g l := fun j hj => by
  rw [hb.cell (p := ⟨g, j, none⟩) (hg (by omega))]; exact h j hj
theorem CellsAt.drewN {w : World} {g : Nat} {l : List Nat} (h : CellsAt w g l) (n : Nat) : CellsAt (w.drewN n) g l := h

/-- A slice that owns some bytes, nil or not. -/
theorem own_view {w : World} {B : Nat} {v : Value} {l : List Nat} (h : w.ownsRow B 5 1 v l.length (cv l)) :
    ∃ a g c, v = .slice a l.length c ∧ (0 < l.length → a = some ⟨g, 0, none⟩) ∧ B ≤ g ∧ (0 < l.length → g < w.heap.size) ∧ CellsAt w g l ∧ ∀ j, j < l.length → w.frozen? ⟨g, j, none⟩ = false := by
  by_cases hl : 0 < l.length
  · obtain ⟨g, c, hv, hb, hlt, hc, hf⟩ := own_slice h hl
    exact ⟨some ⟨g, 0, none⟩, g, c, hv, fun _ => rfl, hb, fun _ => hlt, hc, fun j _ => hf j⟩
  · have h0 : l.length = 0 := by omega
    rcases h.2 with ⟨hv, _⟩ | ⟨g, c, cur, hv, hb, hg, _⟩
    · exact ⟨none, B, 0, by rw [h0]; exact hv, fun h => absurd h hl, Nat.le_refl _, fun h => absurd h hl, fun j hj => by omega, fun j hj => by omega⟩
    · exact ⟨some ⟨g, 0, none⟩, g, c, hv, fun _ => rfl, hb, fun h => absurd h hl, fun j hj => by omega, fun j hj => by omega⟩

theorem row_cells {w w' : World} {b n : Nat} {f : Nat → Value} (h : w.rowIs b 5 n f) (hb : Below w.heap.size w w') : ∀ j, j < n → w'.cell? ⟨b, 0 + j, none⟩ = some (f j) := fun j hj => by
  rw [hb.cell (p := ⟨b, 0 + j, none⟩) h.lt, Nat.zero_add]; exact h.cell hj

theorem quoted_le (s : ByteArray) : (quoted s).length ≤ 6 * s.size + 2 := by
  have := qTo_le s s.size
  unfold quoted
  split
  · rw [List.length_append]; simp; omega
  · simp

set_option maxHeartbeats 400000 in
set_option maxRecDepth 1000000 in
theorem law_big (a0 : Option Addr) (len cap : Nat) (w : World) (h : 1048576 < (len : Int)) :
    Calls Tryd.prog 4 #[.slice a0 len cap] w fun e w' => e = .returned (.bool true) ∧ Below w.heap.size w w' := by
  go_enter Tryd.func4, Tryd.ntmps4
  go_wp2
  go_ret
  exact ⟨rfl, Below.refl _ _⟩

set_option maxHeartbeats 1000000 in
set_option maxRecDepth 1000000 in
theorem law_small (a0 : Option Addr) (b off cap : Nat) (s : ByteArray) (w : World) (hs : s.size ≤ 1048576) (hT : Lib.Utf8Tabs 0 1 w) (hdb : w.cell? ⟨7, 15, none⟩ = some (.int .u8 4)) (ha : 0 < s.size → a0 = some ⟨b, off, none⟩)
    (hc : ∀ j, j < s.size → w.cell? ⟨b, off + j, none⟩ = some (bts s j)) :
    Calls Tryd.prog 4 #[.slice a0 s.size cap] w fun e w' => e = .returned (.bool true) ∧ Below w.heap.size w w' := by
  have hbl : 0 < s.size → b < w.heap.size := fun h => World.block_lt_of_cell? _ _ (hc 0 h)
  have HA := hide ha
  have HT := hide hT
  have HDB := hide hdb
  have hlt : ((s.size : Int) > 1048576) = False := by simp; omega
  have HCB : Hid (∀ w', Below w.heap.size w w' → ∀ j, j < s.size → w'.cell? ⟨b, off + j, none⟩ = some (bts s j)) := fun w' hb j hj => by
    rw [hb.cell (p := ⟨b, off + j, none⟩) (hbl (by omega))]; exact hc j hj
  have HDC : Hid (∀ w', Below w.heap.size w w' → w'.cell? ⟨7, 15, none⟩ = some (.int .u8 4)) := fun w' hb => by
    rw [hb.cell (p := ⟨7, 15, none⟩) (World.block_lt_of_cell? _ _ hdb)]; exact hdb
  have hqle := quoted_le s
  obtain ⟨Q, hQ⟩ : ∃ Q, quoted s = Q := ⟨_, rfl⟩
  rw [hQ] at hqle
  have HQ := hide hQ
  clear hc ha hT hdb hbl hQ
  go_enter Tryd.func4, Tryd.ntmps4
  -- the copy for the specification
  go_wp2_with fail
  refine (toB_any a0 b off cap s _ hs HA.out (HCB.out _ (Below.refl _ _))).mono ?_
  rintro e w1 ⟨rfl, hr1, hb1, hz1⟩
  have HR1 := hide hr1
  have HB1 := hide hb1
  clear hr1 hb1 hz1
  go_wp2_with fail
  have H5 := specQuote_any w.heap.size 0 s.size s w1 hs (row_cells HR1.out (Below.refl _ _))
  rw [HQ.out] at H5
  refine H5.mono ?_
  clear H5
  rintro e w2 ⟨v0, rfl, ho2, hb2⟩
  obtain ⟨a2, g2, c2, hv2, ha2, hg2, hl2, hc2, _⟩ := own_view ho2
  rw [hv2]
  have HA2 := hide ha2
  have HC2 := hide hc2
  have HL2 := hide hl2
  have HB2 : Hid (Below w.heap.size w w2) := HB1.out.trans (hb2.mono HB1.out.size)
  clear hb2 ho2 hv2 ha2 hc2 hl2
  -- the copy for the program
  go_wp2_with fail
  refine (toB_any a0 b off cap s _ hs HA.out (HCB.out _ HB2.out)).mono ?_
  rintro e w3 ⟨rfl, hr3, hb3, hz3⟩
  have HR3 := hide hr3
  have HB3 : Hid (Below w.heap.size w w3) := HB2.out.trans (hb3.mono HB2.out.size)
  have HC3 : Hid (CellsAt w3 g2 Q) := HC2.out.below HL2.out hb3
  have hz3' : w2.heap.size < w3.heap.size := by omega
  clear hr3 hb3 hz3
  go_wp2_with fail
  have H7 := implQuote_any w2.heap.size 0 s.size s w3 hs (Utf8Tabs_below HT.out HB3.out) (HDC.out _ HB3.out) (row_cells HR3.out (Below.refl _ _))
  rw [HQ.out] at H7
  refine H7.mono ?_
  clear H7
  rintro e w4 ⟨v4, rfl, ho4, hb4⟩
  obtain ⟨a4, g4, c4, hv4, ha4, hg4, hl4, hc4, hf4⟩ := own_view ho4
  rw [hv4]
  have HA4 := hide ha4
  have HC4 := hide hc4
  have HL4 := hide hl4
  have HF4 := hide hf4
  have HB4 : Hid (Below w.heap.size w w4) := HB3.out.trans (hb4.mono HB3.out.size)
  have HC24 : Hid (CellsAt w4 g2 Q) := HC3.out.below (fun h => by have := HL2.out h; omega) hb4
  have HX4 := hide (row_cells HR3.out hb4)
  have HXF4 : Hid (∀ j, w4.frozen? ⟨w2.heap.size, j, none⟩ = false) := fun j => by
    rw [hb4.frozen (p := ⟨w2.heap.size, j, none⟩) HR3.out.lt]; exact HR3.out.frozen j
  have hz4 : w2.heap.size < w4.heap.size := by have := hb4.size; omega
  clear hb4 ho4 hv4 ha4 hc4 hl4 hf4
  -- the answers are alike
  go_wp2_with fail
  refine (eqS_any a4 a2 g4 0 c4 g2 0 c2 Q.length (fun j => ((Q.getD j 0 : Nat) : Int)) _ (by omega) HA4.out HA2.out (fun j hj => by rw [Nat.zero_add]; exact HC4.out j hj) (fun j hj => by rw [Nat.zero_add]; exact HC24.out j hj)).mono ?_
  rintro e w5 ⟨rfl, n5, hw5⟩
  have HB5 : Hid (Below w.heap.size w w5) := by rw [hw5]; exact below_drewN HB4.out n5
  have HC5 : Hid (CellsAt w5 g4 Q) := by rw [hw5]; exact HC4.out.drewN n5
  have HC25 : Hid (CellsAt w5 g2 Q) := by rw [hw5]; exact HC24.out.drewN n5
  have HX5 : Hid (∀ j, j < s.size → w5.cell? ⟨w2.heap.size, 0 + j, none⟩ = some (bts s j)) := by rw [hw5]; exact HX4.out
  have HF5 : Hid (∀ j, j < Q.length → w5.frozen? ⟨g4, j, none⟩ = false) := by rw [hw5]; exact HF4.out
  have HXF : Hid (∀ j, j < s.size → w5.frozen? ⟨w2.heap.size, j, none⟩ = false) := by rw [hw5]; exact fun j _ => HXF4.out j
  have hz5 : w4.heap.size ≤ w5.heap.size := by rw [hw5]; exact Nat.le_refl _
  clear hw5
  -- the argument is as it was
  go_wp2_with fail
  refine (toB_any a0 b off cap s _ hs HA.out (HCB.out _ HB5.out)).mono ?_
  rintro e w6 ⟨rfl, hr6, hb6, hz6⟩
  have HR6 := hide (row_cells hr6 (Below.refl _ _))
  have HB6 : Hid (Below w.heap.size w w6) := HB5.out.trans (hb6.mono HB5.out.size)
  have HC6 : Hid (CellsAt w6 g4 Q) := HC5.out.below (fun h => by have := HL4.out h; omega) hb6
  have HC26 : Hid (CellsAt w6 g2 Q) := HC25.out.below (fun h => by have := HL2.out h; omega) hb6
  have HX6 : Hid (∀ j, j < s.size → w6.cell? ⟨w2.heap.size, 0 + j, none⟩ = some (bts s j)) := fun j hj => by
    rw [hb6.cell (p := ⟨w2.heap.size, 0 + j, none⟩) (by show w2.heap.size < _; omega)]; exact HX5.out j hj
  have HF6 : Hid (∀ j, j < Q.length → w6.frozen? ⟨g4, j, none⟩ = false) := fun j hj => by
    rw [hb6.frozen (p := ⟨g4, j, none⟩) (by have := HL4.out (by omega); show g4 < _; omega)]; exact HF5.out j hj
  have HXF6 : Hid (∀ j, j < s.size → w6.frozen? ⟨w2.heap.size, j, none⟩ = false) := fun j hj => by
    rw [hb6.frozen (p := ⟨w2.heap.size, j, none⟩) (by show w2.heap.size < _; omega)]; exact HXF.out j hj
  have hz6' : w5.heap.size < w6.heap.size := by omega
  clear hr6 hb6 hz6
  go_wp2_with fail
  have H8 := eqB_any (some ⟨w2.heap.size, 0, none⟩) (some ⟨w5.heap.size, 0, none⟩) w2.heap.size 0 s.size w5.heap.size 0 s.size s s w6 hs hs (fun _ => rfl) (fun _ => rfl) HX6.out HR6.out
  rw [decide_eq_true (rfl : s = s)] at H8
  refine H8.mono ?_
  clear H8
  rintro e w7 ⟨rfl, n7, hw7⟩
  have HB7 : Hid (Below w.heap.size w w7) := by rw [hw7]; exact below_drewN HB6.out n7
  have HC7 : Hid (CellsAt w7 g4 Q) := by rw [hw7]; exact HC6.out.drewN n7
  have HC27 : Hid (CellsAt w7 g2 Q) := by rw [hw7]; exact HC26.out.drewN n7
  have HX7 : Hid (∀ j, j < s.size → ∃ v, w7.cell? ⟨w2.heap.size, j, none⟩ = some v) := by
    rw [hw7]; intro j hj; exact ⟨_, by have := HX6.out j hj; rw [Nat.zero_add] at this; exact this⟩
  have HXF7 : Hid (∀ j, j < s.size → w7.frozen? ⟨w2.heap.size, j, none⟩ = false) := by rw [hw7]; exact HXF6.out
  have HF7 : Hid (∀ j, j < Q.length → w7.frozen? ⟨g4, j, none⟩ = false) := by rw [hw7]; exact HF6.out
  have hz7 : w6.heap.size ≤ w7.heap.size := by rw [hw7]; exact Nat.le_refl _
  clear hw7
  -- the program's argument is marked
  go_wp2_with fail
  refine (mark_any (some ⟨w2.heap.size, 0, none⟩) w2.heap.size s.size s.size 1 w7 (by omega) (by omega) (fun _ => rfl) HX7.out HXF7.out).mono ?_
  rintro e w8 ⟨rfl, hon8, _⟩
  have HB8 : Hid (Below w.heap.size w w8) := HB7.out.trans (hon8.below HB2.out.size)
  have HC8 : Hid (CellsAt w8 g4 Q) := HC7.out.only (fun h => by have := HL4.out h; omega) hon8
  have HC28 : Hid (CellsAt w8 g2 Q) := HC27.out.only (fun h => by have := HL2.out h; omega) hon8
  have HF8 : Hid (∀ j, j < Q.length → w8.frozen? ⟨g4, j, none⟩ = false) := fun j hj => by
    rw [hon8.frozen (p := ⟨g4, j, none⟩) (by have := HL4.out (by omega); show g4 ≠ w2.heap.size; omega)]; exact HF7.out j hj
  have hz8 : w7.heap.size ≤ w8.heap.size := Nat.le_of_eq hon8.size.symm
  clear hon8
  have hk8 : decide (((1 + s.size : Nat) : Int) < 0) = false := decide_eq_false (by omega)
  have hk8' : decide ((1 : Int) + (s.size : Int) < 0) = false := decide_eq_false (by omega)
  -- the answers are still alike
  go_wp2_with fail
  refine (eqS_any a4 a2 g4 0 c4 g2 0 c2 Q.length (fun j => ((Q.getD j 0 : Nat) : Int)) _ (by omega) HA4.out HA2.out (fun j hj => by rw [Nat.zero_add]; exact HC8.out j hj) (fun j hj => by rw [Nat.zero_add]; exact HC28.out j hj)).mono ?_
  rintro e w9 ⟨rfl, n9, hw9⟩
  have HB9 : Hid (Below w.heap.size w w9) := by rw [hw9]; exact below_drewN HB8.out n9
  have HC9 : Hid (CellsAt w9 g4 Q) := by rw [hw9]; exact HC8.out.drewN n9
  have HC29 : Hid (CellsAt w9 g2 Q) := by rw [hw9]; exact HC28.out.drewN n9
  have HF9 : Hid (∀ j, j < Q.length → w9.frozen? ⟨g4, j, none⟩ = false) := by rw [hw9]; exact HF8.out
  have hz9 : w8.heap.size ≤ w9.heap.size := by rw [hw9]; exact Nat.le_refl _
  clear hw9
  -- the answer is marked
  go_wp2_with fail
  refine (mark_any a4 g4 Q.length c4 1 w9 (by omega) (by omega) HA4.out (fun j hj => ⟨_, HC9.out j hj⟩) HF9.out).mono ?_
  rintro e wa ⟨rfl, hona, hma⟩
  have HBa : Hid (Below w.heap.size w wa) := HB9.out.trans (hona.below (by have := HB3.out.size; omega))
  have HC2a : Hid (CellsAt wa g2 Q) := HC29.out.only (fun h => by have := HL2.out h; omega) hona
  have HMa := hide hma
  have hza : w9.heap.size ≤ wa.heap.size := Nat.le_of_eq hona.size.symm
  clear hona hma
  go_wp2_with fail
  refine (held_any a4 g4 Q.length c4 1 wa (by omega) (by omega) HA4.out HMa.out).mono ?_
  rintro e w' ⟨rfl, rfl⟩
  have hq0 : decide (((1 + Q.length : Nat) : Int) < 0) = false := decide_eq_false (by omega)
  have hq0' : decide ((1 : Int) + (Q.length : Int) < 0) = false := decide_eq_false (by omega)
  have hqm : ((1 : Int) + (Q.length : Int) != 1 + (Q.length : Int)) = false := by simp
  have hqm' : (((1 + Q.length : Nat) : Int) != ((1 + Q.length : Nat) : Int)) = false := by simp
  -- another call
  go_wp2_with fail
  refine (toB_any a0 b off cap s _ hs HA.out (HCB.out _ HBa.out)).mono ?_
  rintro e wb ⟨rfl, hrb, hbb, hzb⟩
  have HRb := hide hrb
  have HBb : Hid (Below w.heap.size w wb) := HBa.out.trans (hbb.mono HBa.out.size)
  have HC2b : Hid (CellsAt wb g2 Q) := HC2a.out.below (fun h => by have := HL2.out h; omega) hbb
  have HMb : Hid (∀ j, j < Q.length → wb.cell? ⟨g4, j, none⟩ = some (mrk (1 + j))) := fun j hj => by
    rw [hbb.cell (p := ⟨g4, j, none⟩) (by have := HL4.out (by omega); show g4 < _; omega)]; exact HMa.out j hj
  have hzb' : w'.heap.size < wb.heap.size := by omega
  clear hrb hbb hzb
  go_wp2_with fail
  have Hc := implQuote_any w'.heap.size 0 s.size s wb hs (Utf8Tabs_below HT.out HBb.out) (HDC.out _ HBb.out) (row_cells HRb.out (Below.refl _ _))
  rw [HQ.out] at Hc
  refine Hc.mono ?_
  clear Hc
  rintro e wc ⟨vc, rfl, hoc, hbc⟩
  obtain ⟨ac, gc, cc, hvc, hac, hgc, hlc, hcc, _⟩ := own_view hoc
  rw [hvc]
  have HAc := hide hac
  have HCc := hide hcc
  have HBc : Hid (Below w.heap.size w wc) := HBb.out.trans (hbc.mono HBb.out.size)
  have HC2c : Hid (CellsAt wc g2 Q) := HC2b.out.below (fun h => by have := HL2.out h; omega) hbc
  have HMc : Hid (∀ j, j < Q.length → wc.cell? ⟨g4, j, none⟩ = some (mrk (1 + j))) := fun j hj => by
    rw [hbc.cell (p := ⟨g4, j, none⟩) (by have := HL4.out (by omega); show g4 < _; omega)]; exact HMb.out j hj
  clear hbc hoc hvc hac hcc hlc
  go_wp2_with fail
  refine (eqS_any ac a2 gc 0 cc g2 0 c2 Q.length (fun j => ((Q.getD j 0 : Nat) : Int)) _ (by omega) HAc.out HA2.out (fun j hj => by rw [Nat.zero_add]; exact HCc.out j hj) (fun j hj => by rw [Nat.zero_add]; exact HC2c.out j hj)).mono ?_
  rintro e wd ⟨rfl, nd, hwd⟩
  have HBd : Hid (Below w.heap.size w wd) := by rw [hwd]; exact below_drewN HBc.out nd
  have HMd : Hid (∀ j, j < Q.length → wd.cell? ⟨g4, j, none⟩ = some (mrk (1 + j))) := by rw [hwd]; exact HMc.out
  clear hwd
  go_wp2_with fail
  refine (held_any a4 g4 Q.length c4 1 wd (by omega) (by omega) HA4.out HMd.out).mono ?_
  rintro e w'' ⟨rfl, rfl⟩
  go_wp2
  go_ret
  exact ⟨rfl, HBd.out⟩
end Go.Proofs.YtfldjcmobpcpoaaDoor
