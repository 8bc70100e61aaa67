/-
  The walk of spec.l9spoilText.
-/
import Derived.Test.YteojiblglbmmdaaGreatDoorJFTextsDT
import Derived.Test.YteojiblglbmmdaaGreatDoorJFTextsU
namespace Go.Proofs.YteojiblglbmmdaaGreatDoor
open Go.RowKit

/-- What spoils a text. -/
def bd : List (List UInt8) := [[128], [192, 175], [237, 160, 128], [244, 144, 128, 128], [226, 130], [255], [240, 143, 191, 191]]
def bdN (k : Nat) : List Nat := (bd.getD k []).map fun c => c.toNat
def spl (l : List Nat) (k : Nat) : List Nat := l.take (k % (l.length + 1)) ++ bdN (k % 7) ++ l.drop (k % (l.length + 1))

theorem bdN_le (k : Nat) : (bdN k).length ≤ 4 := by
  have h : ∀ j : Fin 7, (bdN j.val).length ≤ 4 := by decide
  by_cases hk : k < 7
  · exact h ⟨k, hk⟩
  · unfold bdN
    rw [List.getD_eq_getElem?_getD, List.getElem?_eq_none (by show 7 ≤ k; omega)]
    simp
def bdc : Array Value := (bd.map fun l => Value.string ⟨l.toArray⟩).toArray
theorem bdc_at (j : Nat) (h : j < 7) : bdc[j]? = some (.string ⟨(bd.getD j []).toArray⟩) := by
  have h' : j < bd.length := h
  unfold bdc
  rw [List.getElem?_toArray, List.getElem?_map]
  simp [List.getD, List.getElem?_eq_getElem h']
theorem bd_cells (k : Nat) (h : k < 7) : Lib.strCells ⟨(bd.getD k []).toArray⟩ = cv (bdN k) := by
  have hc : k = 0 ∨ k = 1 ∨ k = 2 ∨ k = 3 ∨ k = 4 ∨ k = 5 ∨ k = 6 := by omega
  rcases hc with rfl | rfl | rfl | rfl | rfl | rfl | rfl <;> rfl

set_option maxHeartbeats 2000000 in
set_option maxRecDepth 1000000 in
theorem spoil_some (w : World) (R : Nat) (a0 : Option Addr) (b off n cap : Nat) (cs : ByteArray) (i : Nat) (hn : n ≤ 600) (h : RdAt w R a0 b off n cap cs i) (g c : Nat) (l : List Nat) (hl : l.length ≤ 100) (hlc : l.length ≤ c) (hgR : g ≠ R) (hc : ∀ j, j < l.length → w.cell? ⟨g, j, none⟩ = some (.int .u8 (l.getD j 0 : Nat))) :
    Calls Tryz.prog 25 #[.slice (some ⟨g, 0, none⟩) l.length c, .pointer (some ⟨R, 0, none⟩)] w fun e w' => ∃ v', e = .returned v' ∧ w'.ownsRow w.heap.size 5 1 v' (spl l (nx cs n i)).length (cv (spl l (nx cs n i))) ∧ w.grownBy w' (some R) := by
  have HN := hide (next_any w R a0 b off n cap cs i hn h)
  have hR := h.lt
  have hv := nx_lt cs n i
  obtain ⟨v, hv'⟩ : ∃ v, nx cs n i = v := ⟨_, rfl⟩
  rw [hv'] at HN hv ⊢
  have HSP : Hid (spl l v = l.take (v % (l.length + 1)) ++ bdN (v % 7) ++ l.drop (v % (l.length + 1))) := rfl
  obtain ⟨at_, hat⟩ : ∃ a, v % (l.length + 1) = a := ⟨_, rfl⟩
  have hatl : at_ ≤ l.length := by have := Nat.mod_lt v (show 0 < l.length + 1 by omega); omega
  have hm1 : (v : Int).tmod ((l.length : Int) + 1) = (at_ : Int) := by rw [← hat]; exact (Int.ofNat_tmod v (l.length + 1)).symm
  obtain ⟨k, hk⟩ : ∃ k, v % 7 = k := ⟨_, rfl⟩
  have hk7 : k < 7 := by omega
  have hm2 : (v : Int).tmod 7 = (k : Int) := by rw [← hk]; exact (Int.ofNat_tmod v 7).symm
  rw [hat, hk] at HSP
  have HC := hide hc
  have hlz : ((l.length : Int) + 1 == 0) = false := by rw [beq_eq_false_iff_ne]; omega
  clear hv' h hat hk hc
  go_enter Tryz.func25, Tryz.ntmps25
  go_wp2_with fail
  refine HN.out.mono ?_
  rintro e w1 ⟨rfl, hg1, hr1⟩
  have HG1 := hide hg1
  have HR1 := hide hr1
  clear hg1 hr1
  have c1 := (cell_fresh w1 bdc 9 k).trans (bdc_at k hk7)
  have hsc := bd_cells k hk7
  obtain ⟨x, hx⟩ : ∃ x : ByteArray, (⟨(bd.getD k []).toArray⟩ : ByteArray) = x := ⟨_, rfl⟩
  rw [hx] at c1 hsc
  have hbl := bdN_le k
  have hga : w.grownBy (w1.alloc (.cells bdc 9)) (some R) := grown_trans HG1.out (World.grownBy_alloc w1 _ none) hR
  have hcell : ∀ j, j < l.length → (w1.alloc (.cells bdc 9)).cell? ⟨g, j, none⟩ = some (.int .u8 (l.getD j 0 : Nat)) := fun j hj => by
    have hcj := HC.out j hj
    rw [World.cell?_of_block (w := w) (a := ⟨g, j, none⟩) (hga.block g (World.block_lt_of_cell? _ _ hcj) (fun e => hgR (Option.some.inj e)))]; exact hcj
  have HGA := hide hga
  have HCA := hide hcell
  have HC1 := hide c1
  have hW1 : w1.heap.size < (w1.alloc (.cells bdc 9)).heap.size := by simp
  have hww : w.heap.size ≤ w1.heap.size := HG1.out.size
  have HSC := hide hsc
  obtain ⟨T1, hT1⟩ : ∃ T1, l.take at_ = T1 := ⟨_, rfl⟩
  obtain ⟨T2, hT2⟩ : ∃ T2, bdN k = T2 := ⟨_, rfl⟩
  obtain ⟨T3, hT3⟩ : ∃ T3, l.drop at_ = T3 := ⟨_, rfl⟩
  have hl1 : T1.length = at_ := by rw [← hT1, List.length_take]; omega
  have hl3 : T3.length = l.length - at_ := by rw [← hT3, List.length_drop]
  have H1C : Hid (∀ j, j < T1.length → (w1.alloc (.cells bdc 9)).cell? ⟨g, j, none⟩ = some (.int .u8 (T1.getD j 0 : Nat))) := fun j hj => by
    rw [HCA.out j (by omega), ← hT1]; congr 3; simp only [List.getD, List.getElem?_take]; rw [if_pos (by omega)]
  rw [hT1, hT2, hT3] at HSP
  rw [hT2] at HSC hbl
  have HT3 := hide hT3
  have HL1 := hide hl1
  have HL3 := hide hl3
  have hl3z : T3.length ≤ 100 := by omega
  clear c1 hsc hga hcell hx hT1 hT2 hT3 hl3
  subst hl1
  clear HL1
  go_wp2_with (at_builtin; refine wp_app rfl _ _ rfl w.heap.size _ [] rfl (World.ownsRow_nil _ _ _ _) g c T1 rfl ?n1 ?l1 ?b1 ?_)
  case n1 => exact H1C.out
  case l1 => (show 0 + T1.length ≤ _; omega)
  case b1 => (simp; omega)
  intro v2 w3 l3 hl3' ho3 hg3
  have hg3n : (w1.alloc (.cells bdc 9)).grownBy w3 none := hg3
  have HO3 := hide ho3
  have HG3 : Hid (w.grownBy w3 (some R)) := grown_trans HGA.out hg3n hR
  have c3 : w3.cell? ⟨w1.heap.size, k, none⟩ = some (.string x) := by
    rw [World.cell?_of_block (w := w1.alloc (.cells bdc 9)) (a := ⟨w1.heap.size, k, none⟩) (hg3n.block w1.heap.size hW1 (by simp))]; exact HC1.out
  have HC3 : Hid (∀ j, j < l.length → w3.cell? ⟨g, j, none⟩ = some (.int .u8 (l.getD j 0 : Nat))) := fun j hj => by
    have hcj := HCA.out j hj
    rw [World.cell?_of_block (w := w1.alloc (.cells bdc 9)) (a := ⟨g, j, none⟩) (hg3n.block g (World.block_lt_of_cell? _ _ hcj) (by simp))]; exact hcj
  have hki : (k : Int) < 7 := by omega
  have hL3 : l3.length = T1.length := by rw [hl3'.out]; try simp
  have hw3 : w.heap.size ≤ w3.heap.size := HG3.out.size
  have hl3b : l3.length ≤ 100 := by omega
  clear ho3 hg3 hg3n hL3
  go_wp2_with (at_builtin; refine wp_app_str rfl _ _ rfl w.heap.size _ l3 rfl HO3.out x T2 rfl HSC.out ?l2 ?b2 ?_)
  case l2 => omega
  case b2 => exact hw3
  intro v4 w4 l4 hl4' ho4 hg4
  have hrow3 : ∀ r, v2.ownBlock = some r → w.heap.size ≤ r := fun r e => (HO3.out.lt r e).1
  have HO4 := hide ho4
  have HG4 : Hid (w.grownBy w4 (some R)) := grown_own HG3.out hg4 (fun r e => .inl (hrow3 r e))
  have HC4 : Hid (∀ j, j < l.length → w4.cell? ⟨g, j, none⟩ = some (.int .u8 (l.getD j 0 : Nat))) := fun j hj => by
    have hcj := HC3.out j hj
    have hgw := World.block_lt_of_cell? _ _ (HC.out j hj)
    rw [World.cell?_of_block (w := w3) (a := ⟨g, j, none⟩) (hg4.block g (World.block_lt_of_cell? _ _ hcj) (fun e => by have := hrow3 g e.symm; simp only at hgw; omega))]; exact hcj
  have hl4b : l4.length ≤ 104 := by rw [hl4'.out, List.length_append]; omega
  have HL4 : Hid (l4 = T1 ++ T2) := by show _ = _; rw [hl4'.out, hl3'.out]; try simp
  have hw4 : w.heap.size ≤ w4.heap.size := HG4.out.size
  clear ho4 hg4
  have H3C : Hid (∀ j, j < T3.length → w4.cell? ⟨g, T1.length + j, none⟩ = some (.int .u8 (T3.getD j 0 : Nat))) := fun j hj => by
    have hz := HL3.out
    rw [HC4.out (T1.length + j) (by omega), ← HT3.out]; congr 3; simp only [List.getD, List.getElem?_drop]
  have HFIN : Hid (∀ v' w5 l5, l5 = l4 ++ T3 → w5.ownsRow w.heap.size 5 1 v' l5.length (cv l5) → w4.grownBy w5 v4.ownBlock → w5.ownsRow w.heap.size 5 1 v' (spl l v).length (cv (spl l v)) ∧ w.grownBy w5 (some R)) := fun v' w5 l5 hl5 ho5 hg5 =>
    ⟨by rw [HSP.out, ← HL4.out, ← hl5]; exact ho5, grown_own HG4.out hg5 (fun r e => .inl (HO4.out.lt r e).1)⟩
  have hz3 : l.length - T1.length = T3.length := HL3.out.symm
  by_cases hend : T1.length < c
  · go_wp2_with (at_builtin; refine wp_app_at rfl _ _ rfl w.heap.size _ l4 rfl HO4.out g T1.length (c - T1.length) T3 rfl ?n3 ?l5 ?b5 ?_)
    case n3 => exact H3C.out
    case l5 => omega
    case b5 => exact hw4
    intro v' w5 l5 hl5 ho5 hg5
    have HF := hide (HFIN.out v' w5 l5 hl5.out ho5 hg5)
    clear ho5 hg5
    go_wp2
    go_ret
    exact ⟨v', rfl, HF.out.1, HF.out.2⟩
  · have he : T1.length = c := by omega
    have hle : l.length = c := by omega
    have hT0 : T3 = [] := List.eq_nil_of_length_eq_zero (by omega)
    subst hT0
    rw [he] at hm1 hatl
    clear hz3 hl3z
    go_wp2_with (at_builtin; refine wp_app rfl _ _ rfl w.heap.size _ l4 rfl HO4.out g 0 [] rfl ?n3 ?l5 ?b5 ?_)
    case n3 => (intro j hj; exact absurd hj (Nat.not_lt_zero _))
    case l5 => (show l4.length + 0 ≤ _; omega)
    case b5 => exact hw4
    intro v' w5 l5 hl5 ho5 hg5
    have HF := hide (HFIN.out v' w5 l5 (by rw [hl5.out, List.append_nil]) ho5 hg5)
    clear ho5 hg5
    go_wp2
    go_ret
    exact ⟨v', rfl, HF.out.1, HF.out.2⟩

theorem own_cap {w : World} {B : Nat} {v : Value} {l : List Nat} (h : w.ownsRow B 5 1 v l.length (cv l)) (hl : 0 < l.length) : ∃ g c, v = .slice (some ⟨g, 0, none⟩) l.length c ∧ l.length ≤ c := by
  rcases h.2 with ⟨_, h0⟩ | ⟨g, c, cur, hv, hb, hg, hx⟩
  · omega
  · exact ⟨g, c, hv, by first | exact hx.1 | exact hx | omega⟩

set_option maxHeartbeats 2000000 in
set_option maxRecDepth 1000000 in
theorem spoil_nil (w : World) (R : Nat) (a0 : Option Addr) (b off n cap : Nat) (cs : ByteArray) (i : Nat) (hn : n ≤ 600) (h : RdAt w R a0 b off n cap cs i) :
    Calls Tryz.prog 25 #[.slice none 0 0, .pointer (some ⟨R, 0, none⟩)] w fun e w' => ∃ v', e = .returned v' ∧ w'.ownsRow w.heap.size 5 1 v' (spl [] (nx cs n i)).length (cv (spl [] (nx cs n i))) ∧ w.grownBy w' (some R) := by
  have HN := hide (next_any w R a0 b off n cap cs i hn h)
  have hR := h.lt
  have hv := nx_lt cs n i
  obtain ⟨v, hv'⟩ : ∃ v, nx cs n i = v := ⟨_, rfl⟩
  rw [hv'] at HN hv ⊢
  have hspl : spl [] v = bdN (v % 7) := by unfold spl; simp
  obtain ⟨k, hk⟩ : ∃ k, v % 7 = k := ⟨_, rfl⟩
  have hk7 : k < 7 := by omega
  have hm2 : (v : Int).tmod 7 = (k : Int) := by rw [← hk]; exact (Int.ofNat_tmod v 7).symm
  have hm1 : (v : Int).tmod 1 = 0 := by rw [Int.tmod_one]
  rw [hk] at hspl
  have hsc := bd_cells k hk7
  have hbl := bdN_le k
  have hb1 : 0 < (bdN k).length := by
    have hc : k = 0 ∨ k = 1 ∨ k = 2 ∨ k = 3 ∨ k = 4 ∨ k = 5 ∨ k = 6 := by omega
    rcases hc with rfl | rfl | rfl | rfl | rfl | rfl | rfl <;> decide
  rw [hspl]
  obtain ⟨T2, hT2⟩ : ∃ T2, bdN k = T2 := ⟨_, rfl⟩
  rw [hT2] at hsc hbl hb1 ⊢
  clear hv' h hk hspl hT2
  go_enter Tryz.func25, Tryz.ntmps25
  go_wp2_with fail
  refine HN.out.mono ?_
  rintro e w1 ⟨rfl, hg1, hr1⟩
  have HG1 := hide hg1
  have hww : w.heap.size ≤ w1.heap.size := hg1.size
  clear hg1 hr1
  have hki : (k : Int) < 7 := by omega
  have hcase : k = 0 ∨ k = 1 ∨ k = 2 ∨ k = 3 ∨ k = 4 ∨ k = 5 ∨ k = 6 := by omega
  have HSC := hide hsc
  clear hsc
  rcases hcase with rfl | rfl | rfl | rfl | rfl | rfl | rfl
  all_goals
    go_wp2_with (at_builtin; refine wp_app_str rfl _ _ rfl w.heap.size _ [] rfl (World.ownsRow_nil _ _ _ _) _ T2 rfl HSC.out ?l2 ?b2 ?_)
    case l2 => (show 0 + T2.length ≤ _; omega)
    case b2 => (simp; omega)
    intro v4 w4 l4 hl4 ho4 hg4
    have e4 : l4 = T2 := hl4.out
    subst e4
    have HG4 : Hid (w.grownBy w4 (some R)) := grown_trans (grown_trans HG1.out (World.grownBy_alloc w1 _ none) hR) hg4 hR
    have HO4 := hide ho4
    obtain ⟨g, c, rfl, hcap⟩ := own_cap ho4 hb1
    clear ho4 hg4 hl4
    go_wp2
    go_ret
    exact ⟨_, rfl, HO4.out, HG4.out⟩
end Go.Proofs.YteojiblglbmmdaaGreatDoor
