/-
  The walk of laws.FnExactLex.
-/
import Derived.Test.YtfldjcmobpcpoaaDoorJLexB
import Derived.Test.YtfldjcmobpcpoaaDoorJLexHT
import Derived.Test.YtfldjcmobpcpoaaDoorJLexRH
import Derived.Test.YtfldjcmobpcpoaaDoorJLexSL2
import Derived.Test.YtfldjcmobpcpoaaDoorJLexLXN
namespace Go.Proofs.YtfldjcmobpcpoaaDoor
open Go.RowKit

theorem TCells.only {w w' : World} {g b : Nat} {l : List (Nat × Nat × Nat)} (h : TCells w g l) (hg : 0 < l.length → g ≠ b) (hb : Only b w w') : TCells w' g l := fun i hi => by
  have hgB := hg (by omega)
  obtain ⟨x, y, z⟩ := h i hi
  exact ⟨by rw [hb.cell (p := ⟨g, i * 3, none⟩) hgB]; exact x, by rw [hb.cell (p := ⟨g, i * 3 + 1, none⟩) hgB]; exact y, by rw [hb.cell (p := ⟨g, i * 3 + 2, none⟩) hgB]; exact z⟩
theorem TCells.drewN {w : World} {g : Nat} {l : List (Nat × Nat × Nat)} (h : TCells w g l) (n : Nat) : TCells (w.drewN n) g l := h

/-- A slice that owns some tokens, nil or not. -/
theorem own_viewT {w : World} {B : Nat} {v : Value} {l : List (Nat × Nat × Nat)} (h : w.ownsRow B 43 3 v l.length (tcv l)) :
    ∃ a g c, v = .slice a l.length c ∧ (0 < l.length → a = some ⟨g, 0, none⟩) ∧ B ≤ g ∧ (0 < l.length → g < w.heap.size) ∧ TCells w g l ∧ (∀ j, j < l.length * 3 → ∃ v, w.cell? ⟨g, j, none⟩ = some (.int .i64 v)) ∧ ∀ j, j < l.length * 3 → w.frozen? ⟨g, j, none⟩ = false := by
  rcases h.2 with ⟨hv, h0⟩ | ⟨g, c, cur, hv, hb, hg, _⟩
  · exact ⟨none, B, 0, by rw [h0]; exact hv, fun h => by omega, Nat.le_refl _, fun h => by omega, fun i hi => by omega, fun j hj => by omega, fun j hj => by omega⟩
  · rw [hv] at h
    have hcell := fun j hj => h.cellAt j hj
    refine ⟨some ⟨g, 0, none⟩, g, c, hv, fun _ => rfl, hb, fun _ => (Array.getElem?_eq_some_iff.1 hg).1, fun i hi => ?_, fun j hj => ?_, fun j _ => h.frozenAt j⟩
    · obtain ⟨x, y, z⟩ := tcv_at l i hi
      exact ⟨by rw [hcell _ (by omega)]; exact x, by rw [hcell _ (by omega)]; exact y, by rw [hcell _ (by omega)]; exact z⟩
    · rw [hcell j hj]
      have hi : j / 3 < l.length := by omega
      obtain ⟨x, y, z⟩ := tcv_at l (j / 3) hi
      have hm : j % 3 = 0 ∨ j % 3 = 1 ∨ j % 3 = 2 := by omega
      rcases hm with e | e | e
      · rw [show j = j / 3 * 3 by omega, x]; exact ⟨_, rfl⟩
      · rw [show j = j / 3 * 3 + 1 by omega, y]; exact ⟨_, rfl⟩
      · rw [show j = j / 3 * 3 + 2 by omega, z]; exact ⟨_, rfl⟩

theorem row_cells {w w' : World} {b n : Nat} {f : Nat → Value} (h : w.rowIs b 5 n f) (hb : Below w.heap.size w w') : ∀ j, j < n → w'.cell? ⟨b, 0 + j, none⟩ = some (f j) := fun j hj => by
  rw [hb.cell (p := ⟨b, 0 + j, none⟩) h.lt, Nat.zero_add]; exact h.cell hj

theorem LexGives.out' {w w' : World} {e : Ending} {r : List (Nat × Nat × Nat) × Nat × Nat} {Q : List (Nat × Nat × Nat)} {A D : Nat} (hr : r = (Q, A, D)) (h : LexGives w w' e r) :
    ∃ v', e = .returned (.tuple #[v', .int .i64 (A : Nat), .int .i64 (D : Nat)]) ∧ w'.ownsRow w.heap.size 43 3 v' Q.length (tcv Q) ∧ Below w.heap.size w w' := by
  subst hr; exact h

set_option maxHeartbeats 400000 in
set_option maxRecDepth 1000000 in
theorem law_big (a0 : Option Addr) (len cap : Nat) (w : World) (h : 1048576 < (len : Int)) :
    Calls Tryd.prog 6 #[.slice a0 len cap] w fun e w' => e = .returned (.bool true) ∧ Below w.heap.size w w' := by
  go_enter Tryd.func6, Tryd.ntmps6
  go_wp2
  go_ret
  exact ⟨rfl, Below.refl _ _⟩

set_option maxHeartbeats 1000000 in
set_option maxRecDepth 1000000 in
theorem law_small (a0 : Option Addr) (b off cap : Nat) (s : ByteArray) (w : World) (hs : s.size ≤ 1048576) (m : Int) (te1 te2 : TypeId) (pe1 pe2 : Value) (hlib : LibOk w m te1 te2 pe1 pe2) (ha : 0 < s.size → a0 = some ⟨b, off, none⟩)
    (hc : ∀ j, j < s.size → w.cell? ⟨b, off + j, none⟩ = some (bts s j)) :
    Calls Tryd.prog 6 #[.slice a0 s.size cap] w fun e w' => e = .returned (.bool true) ∧ Below w.heap.size w w' := by
  have hbl : 0 < s.size → b < w.heap.size := fun h => World.block_lt_of_cell? _ _ (hc 0 h)
  have HA := hide ha
  have HLIB := hide hlib
  have hlt : ((s.size : Int) > 1048576) = False := by simp; omega
  have HCB : Hid (∀ w', Below w.heap.size w w' → ∀ j, j < s.size → w'.cell? ⟨b, off + j, none⟩ = some (bts s j)) := fun w' hb j hj => by
    rw [hb.cell (p := ⟨b, off + j, none⟩) (hbl (by omega))]; exact hc j hj
  have hqle := lexed_len s
  obtain ⟨Q, A, D, hQ⟩ : ∃ Q A D, lexed s = (Q, A, D) := ⟨_, _, _, rfl⟩
  rw [hQ] at hqle
  simp only at hqle
  have HQ := hide hQ
  have hAA : ((A : Int) != (A : Int)) = false := by simp
  have hDD : ((D : Int) != (D : Int)) = false := by simp
  clear hc ha hlib hbl hQ
  go_enter Tryd.func6, Tryd.ntmps6
  -- the copy for the specification
  go_wp2_with fail
  refine (toB_any a0 b off cap s _ hs HA.out (HCB.out _ (Below.refl _ _))).mono ?_
  rintro e w1 ⟨rfl, hr1, hb1, hz1⟩
  have HR1 := hide hr1
  have HB1 := hide hb1
  clear hr1 hb1 hz1
  go_wp2_with fail
  refine (specLex_any w.heap.size 0 s.size s w1 (Nat.le_refl _) (row_cells HR1.out (Below.refl _ _))).mono ?_
  intro e w2 hgv
  obtain ⟨v0, rfl, ho2, hb2⟩ := hgv.out' HQ.out
  obtain ⟨a2, g2, c2, hv2, ha2, hg2, hl2, hc2, _, _⟩ := own_viewT ho2
  rw [hv2]
  have HA2 := hide ha2
  have HC2 := hide hc2
  have HL2 := hide hl2
  have HB2 : Hid (Below w.heap.size w w2) := HB1.out.trans (hb2.mono HB1.out.size)
  clear hb2 ho2 hv2 ha2 hc2 hl2 hgv
  -- the copy for the program
  go_wp2_with fail
  refine (toB_any a0 b off cap s _ hs HA.out (HCB.out _ HB2.out)).mono ?_
  rintro e w3 ⟨rfl, hr3, hb3, hz3⟩
  have HR3 := hide hr3
  have HB3 : Hid (Below w.heap.size w w3) := HB2.out.trans (hb3.mono HB2.out.size)
  have HC3 : Hid (TCells w3 g2 Q) := HC2.out.below HL2.out hb3
  have hz3' : w2.heap.size < w3.heap.size := by omega
  clear hr3 hb3 hz3
  go_wp2_with fail
  refine (implLex_any w2.heap.size 0 s.size s w3 m te1 te2 pe1 pe2 (HLIB.out.below HB3.out) (row_cells HR3.out (Below.refl _ _))).mono ?_
  intro e w4 hgv
  obtain ⟨v4, rfl, ho4, hb4⟩ := hgv.out' HQ.out
  obtain ⟨a4, g4, c4, hv4, ha4, hg4, hl4, hc4, he4, hf4⟩ := own_viewT ho4
  rw [hv4]
  have HA4 := hide ha4
  have HC4 := hide hc4
  have HL4 := hide hl4
  have HF4 := hide hf4
  have HE4 := hide he4
  have HB4 : Hid (Below w.heap.size w w4) := HB3.out.trans (hb4.mono HB3.out.size)
  have HC24 : Hid (TCells w4 g2 Q) := HC3.out.below (fun h => by have := HL2.out h; omega) hb4
  have HX4 := hide (row_cells HR3.out hb4)
  have HXF4 : Hid (∀ j, w4.frozen? ⟨w2.heap.size, j, none⟩ = false) := fun j => by
    rw [hb4.frozen (p := ⟨w2.heap.size, j, none⟩) HR3.out.lt]; exact HR3.out.frozen j
  have hz4 : w2.heap.size < w4.heap.size := by have := hb4.size; omega
  clear hb4 ho4 hv4 ha4 hc4 hl4 hf4 he4 hgv
  -- the answers are alike
  go_wp2_with fail
  refine (eqTS_any a4 a2 g4 c4 g2 c2 Q _ (by omega) HA4.out HA2.out HC4.out HC24.out).mono ?_
  rintro e w5 ⟨rfl, hb5⟩
  have HB5 : Hid (Below w.heap.size w w5) := HB4.out.trans (hb5.mono HB4.out.size)
  have HC5 : Hid (TCells w5 g4 Q) := HC4.out.below HL4.out hb5
  have HC25 : Hid (TCells w5 g2 Q) := HC24.out.below (fun h => by have := HL2.out h; omega) hb5
  have HX5 : Hid (∀ j, j < s.size → w5.cell? ⟨w2.heap.size, 0 + j, none⟩ = some (bts s j)) := fun j hj => by
    rw [hb5.cell (p := ⟨w2.heap.size, 0 + j, none⟩) (by show w2.heap.size < _; omega)]; exact HX4.out j hj
  have HF5 : Hid (∀ j, j < Q.length * 3 → w5.frozen? ⟨g4, j, none⟩ = false) := fun j hj => by
    rw [hb5.frozen (p := ⟨g4, j, none⟩) (by have := HL4.out (by omega); show g4 < _; omega)]; exact HF4.out j hj
  have HXF : Hid (∀ j, j < s.size → w5.frozen? ⟨w2.heap.size, j, none⟩ = false) := fun j _ => by
    rw [hb5.frozen (p := ⟨w2.heap.size, j, none⟩) (by show w2.heap.size < _; omega)]; exact HXF4.out j
  have HE5 : Hid (∀ j, j < Q.length * 3 → ∃ v, w5.cell? ⟨g4, j, none⟩ = some (.int .i64 v)) := fun j hj => by
    rw [hb5.cell (p := ⟨g4, j, none⟩) (by have := HL4.out (by omega); show g4 < _; omega)]; exact HE4.out j hj
  have hz5 : w4.heap.size ≤ w5.heap.size := hb5.size
  clear hb5
  -- the argument is as it was
  go_wp2_with fail
  refine (toB_any a0 b off cap s _ hs HA.out (HCB.out _ HB5.out)).mono ?_
  rintro e w6 ⟨rfl, hr6, hb6, hz6⟩
  have HR6 := hide (row_cells hr6 (Below.refl _ _))
  have HB6 : Hid (Below w.heap.size w w6) := HB5.out.trans (hb6.mono HB5.out.size)
  have HC6 : Hid (TCells w6 g4 Q) := HC5.out.below (fun h => by have := HL4.out h; omega) hb6
  have HC26 : Hid (TCells w6 g2 Q) := HC25.out.below (fun h => by have := HL2.out h; omega) hb6
  have HX6 : Hid (∀ j, j < s.size → w6.cell? ⟨w2.heap.size, 0 + j, none⟩ = some (bts s j)) := fun j hj => by
    rw [hb6.cell (p := ⟨w2.heap.size, 0 + j, none⟩) (by show w2.heap.size < _; omega)]; exact HX5.out j hj
  have HF6 : Hid (∀ j, j < Q.length * 3 → w6.frozen? ⟨g4, j, none⟩ = false) := fun j hj => by
    rw [hb6.frozen (p := ⟨g4, j, none⟩) (by have := HL4.out (by omega); show g4 < _; omega)]; exact HF5.out j hj
  have HE6 : Hid (∀ j, j < Q.length * 3 → ∃ v, w6.cell? ⟨g4, j, none⟩ = some (.int .i64 v)) := fun j hj => by
    rw [hb6.cell (p := ⟨g4, j, none⟩) (by have := HL4.out (by omega); show g4 < _; omega)]; exact HE5.out j hj
  have HXF6 : Hid (∀ j, j < s.size → w6.frozen? ⟨w2.heap.size, j, none⟩ = false) := fun j hj => by
    rw [hb6.frozen (p := ⟨w2.heap.size, j, none⟩) (by show w2.heap.size < _; omega)]; exact HXF.out j hj
  have hz6' : w5.heap.size < w6.heap.size := by omega
  clear hr6 hb6 hz6
  go_wp2_with fail
  have H8 := eqB_any (some ⟨w2.heap.size, 0, none⟩) (some ⟨w5.heap.size, 0, none⟩) w2.heap.size 0 s.size w5.heap.size 0 s.size s s w6 hs hs (fun _ => rfl) (fun _ => rfl) HX6.out HR6.out
  rw [decide_eq_true (rfl : s = s)] at H8
  refine H8.mono ?_
  clear H8
  rintro e w7 ⟨rfl, n7, hw7⟩
  have HB7 : Hid (Below w.heap.size w w7) := by rw [hw7]; exact below_drewN HB6.out n7
  have HC7 : Hid (TCells w7 g4 Q) := by rw [hw7]; exact HC6.out.drewN n7
  have HC27 : Hid (TCells w7 g2 Q) := by rw [hw7]; exact HC26.out.drewN n7
  have HX7 : Hid (∀ j, j < s.size → ∃ v, w7.cell? ⟨w2.heap.size, j, none⟩ = some v) := by
    rw [hw7]; intro j hj; exact ⟨_, by have := HX6.out j hj; rw [Nat.zero_add] at this; exact this⟩
  have HXF7 : Hid (∀ j, j < s.size → w7.frozen? ⟨w2.heap.size, j, none⟩ = false) := by rw [hw7]; exact HXF6.out
  have HF7 : Hid (∀ j, j < Q.length * 3 → w7.frozen? ⟨g4, j, none⟩ = false) := by rw [hw7]; exact HF6.out
  have HE7 : Hid (∀ j, j < Q.length * 3 → ∃ v, w7.cell? ⟨g4, j, none⟩ = some (.int .i64 v)) := by rw [hw7]; exact HE6.out
  have hz7 : w6.heap.size ≤ w7.heap.size := by rw [hw7]; exact Nat.le_refl _
  clear hw7
  -- the program's argument is marked
  go_wp2_with fail
  refine (mark_any (some ⟨w2.heap.size, 0, none⟩) w2.heap.size s.size s.size 1 w7 (by omega) (by omega) (fun _ => rfl) HX7.out HXF7.out).mono ?_
  rintro e w8 ⟨rfl, hon8, _⟩
  have HB8 : Hid (Below w.heap.size w w8) := HB7.out.trans (hon8.below HB2.out.size)
  have HC8 : Hid (TCells w8 g4 Q) := HC7.out.only (fun h => by have := HL4.out h; omega) hon8
  have HC28 : Hid (TCells w8 g2 Q) := HC27.out.only (fun h => by have := HL2.out h; omega) hon8
  have HF8 : Hid (∀ j, j < Q.length * 3 → w8.frozen? ⟨g4, j, none⟩ = false) := fun j hj => by
    rw [hon8.frozen (p := ⟨g4, j, none⟩) (by have := HL4.out (by omega); show g4 ≠ w2.heap.size; omega)]; exact HF7.out j hj
  have HE8 : Hid (∀ j, j < Q.length * 3 → ∃ v, w8.cell? ⟨g4, j, none⟩ = some (.int .i64 v)) := fun j hj => by
    rw [hon8.cell (p := ⟨g4, j, none⟩) (by have := HL4.out (by omega); show g4 ≠ w2.heap.size; omega)]; exact HE7.out j hj
  have hz8 : w7.heap.size ≤ w8.heap.size := Nat.le_of_eq hon8.size.symm
  clear hon8
  have hk8 : decide (((1 + s.size : Nat) : Int) < 0) = false := decide_eq_false (by omega)
  have hk8' : decide ((1 : Int) + (s.size : Int) < 0) = false := decide_eq_false (by omega)
  -- the answers are still alike
  go_wp2_with fail
  refine (eqTS_any a4 a2 g4 c4 g2 c2 Q _ (by omega) HA4.out HA2.out HC8.out HC28.out).mono ?_
  rintro e w9 ⟨rfl, hb9⟩
  have HB9 : Hid (Below w.heap.size w w9) := HB8.out.trans (hb9.mono HB8.out.size)
  have HC29 : Hid (TCells w9 g2 Q) := HC28.out.below (fun h => by have := HL2.out h; omega) hb9
  have HF9 : Hid (∀ j, j < Q.length * 3 → w9.frozen? ⟨g4, j, none⟩ = false) := fun j hj => by
    rw [hb9.frozen (p := ⟨g4, j, none⟩) (by have := HL4.out (by omega); show g4 < _; omega)]; exact HF8.out j hj
  have HE9 : Hid (∀ j, j < Q.length * 3 → ∃ v, w9.cell? ⟨g4, j, none⟩ = some (.int .i64 v)) := fun j hj => by
    rw [hb9.cell (p := ⟨g4, j, none⟩) (by have := HL4.out (by omega); show g4 < _; omega)]; exact HE8.out j hj
  have hz9 : w8.heap.size ≤ w9.heap.size := hb9.size
  clear hb9
  -- the answer is marked
  go_wp2_with fail
  refine (markT_any a4 g4 Q.length c4 1 w9 (by omega) (by omega) HA4.out HE9.out HF9.out).mono ?_
  rintro e wa ⟨rfl, hona, hma⟩
  have HBa : Hid (Below w.heap.size w wa) := HB9.out.trans (hona.below (by have := HB3.out.size; omega))
  have HC2a : Hid (TCells wa g2 Q) := HC29.out.only (fun h => by have := HL2.out h; omega) hona
  have HMa := hide hma
  have hza : w9.heap.size ≤ wa.heap.size := Nat.le_of_eq hona.size.symm
  clear hona hma
  obtain ⟨M, hM⟩ : ∃ M : Nat, 1 + Q.length * 3 = M := ⟨_, rfl⟩
  have HM := hide hM
  have hq0 : decide ((M : Int) < 0) = false := decide_eq_false (by omega)
  have hqm : ((M : Int) != (M : Int)) = false := by simp
  rw [hM]
  go_wp2_with fail
  refine (heldT_any a4 g4 Q.length c4 1 wa (by omega) (by omega) HA4.out HMa.out).mono ?_
  rintro e w' ⟨rfl, hw'⟩
  subst hw'
  rw [hM]
  -- another call
  go_wp2_with fail
  refine (toB_any a0 b off cap s _ hs HA.out (HCB.out _ HBa.out)).mono ?_
  rintro e wb ⟨rfl, hrb, hbb, hzb⟩
  have HRb := hide hrb
  have HBb : Hid (Below w.heap.size w wb) := HBa.out.trans (hbb.mono HBa.out.size)
  have HC2b : Hid (TCells wb g2 Q) := HC2a.out.below (fun h => by have := HL2.out h; omega) hbb
  have HMb : Hid (∀ j, j < Q.length * 3 → wb.cell? ⟨g4, j, none⟩ = some (.int .i64 (1 + j : Nat))) := fun j hj => by
    rw [hbb.cell (p := ⟨g4, j, none⟩) (by have := HL4.out (by omega); show g4 < _; omega)]; exact HMa.out j hj
  have hzb' : w'.heap.size < wb.heap.size := by omega
  clear hrb hbb hzb
  go_wp2_with fail
  refine (implLex_any w'.heap.size 0 s.size s wb m te1 te2 pe1 pe2 (HLIB.out.below HBb.out) (row_cells HRb.out (Below.refl _ _))).mono ?_
  intro e wc hgv
  obtain ⟨vc, rfl, hoc, hbc⟩ := hgv.out' HQ.out
  obtain ⟨ac, gc, cc, hvc, hac, hgc, hlc, hcce, _, _⟩ := own_viewT hoc
  rw [hvc]
  have HAc := hide hac
  have HCc := hide hcce
  have HBc : Hid (Below w.heap.size w wc) := HBb.out.trans (hbc.mono HBb.out.size)
  have HC2c : Hid (TCells wc g2 Q) := HC2b.out.below (fun h => by have := HL2.out h; omega) hbc
  have HMc : Hid (∀ j, j < Q.length * 3 → wc.cell? ⟨g4, j, none⟩ = some (.int .i64 (1 + j : Nat))) := fun j hj => by
    rw [hbc.cell (p := ⟨g4, j, none⟩) (by have := HL4.out (by omega); show g4 < _; omega)]; exact HMb.out j hj
  have hzc : wb.heap.size ≤ wc.heap.size := hbc.size
  clear hbc hoc hvc hac hcce hlc hgv
  go_wp2_with fail
  refine (eqTS_any ac a2 gc cc g2 c2 Q _ (by omega) HAc.out HA2.out HCc.out HC2c.out).mono ?_
  rintro e wd ⟨rfl, hbd⟩
  have HBd : Hid (Below w.heap.size w wd) := HBc.out.trans (hbd.mono HBc.out.size)
  have HMd : Hid (∀ j, j < Q.length * 3 → wd.cell? ⟨g4, j, none⟩ = some (.int .i64 (1 + j : Nat))) := fun j hj => by
    rw [hbd.cell (p := ⟨g4, j, none⟩) (by have := HL4.out (by omega); show g4 < _; omega)]; exact HMc.out j hj
  clear hbd
  go_wp2_with fail
  refine (heldT_any a4 g4 Q.length c4 1 wd (by omega) (by omega) HA4.out HMd.out).mono ?_
  rintro e w'' ⟨rfl, hw''⟩
  subst hw''
  rw [hM]
  go_wp2
  go_ret
  exact ⟨rfl, HBd.out⟩
end Go.Proofs.YtfldjcmobpcpoaaDoor
