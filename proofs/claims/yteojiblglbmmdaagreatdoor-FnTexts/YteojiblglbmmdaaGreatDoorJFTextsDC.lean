/-
  The walks of spec.DrawCheckText, spec.DrawQuoteText.
-/
import Derived.Test.YteojiblglbmmdaaGreatDoorJFTextsDS
namespace Go.Proofs.YteojiblglbmmdaaGreatDoor
open Go.RowKit

/-- The drawn text. -/
def dtx (cs : ByteArray) (n : Nat) : List Nat := dts cs n 2 (nx cs n 1 % 6)
def dct (cs : ByteArray) (n : Nat) : List Nat := if nx cs n 0 % 3 = 0 then spl (dtx cs n) (nx cs n (2 + nx cs n 1 % 6)) else dtx cs n
theorem dtx_le (cs : ByteArray) (n : Nat) : (dtx cs n).length ≤ 40 := by
  have := dts_le cs n 2 (nx cs n 1 % 6)
  unfold dtx; omega
theorem spl_le (l : List Nat) (k : Nat) : (spl l k).length ≤ l.length + 4 := by
  have := bdN_le (k % 7)
  unfold spl
  rw [List.length_append, List.length_append, List.length_take, List.length_drop]; omega
theorem dct_le (cs : ByteArray) (n : Nat) : (dct cs n).length ≤ 44 := by
  have := dtx_le cs n
  unfold dct; split
  · have := spl_le (dtx cs n) (nx cs n (2 + nx cs n 1 % 6)); omega
  · omega

theorem own_lower {w : World} {B B' n : Nat} {v : Value} {xs : List Value} (h : w.ownsRow B 5 1 v n xs) (hB : B' ≤ B) : w.ownsRow B' 5 1 v n xs :=
  ⟨h.1, h.2.imp id (fun ⟨g, c, cur, h1, h2, h3⟩ => ⟨g, c, cur, h1, Nat.le_trans hB h2, h3⟩)⟩
/-- The slice that owns some bytes, written out: the nil slice, or one that lies in memory. -/
theorem own_cases {w : World} {B : Nat} {v : Value} {l : List Nat} (h : w.ownsRow B 5 1 v l.length (cv l)) :
    (v = .slice none 0 0 ∧ l = []) ∨ ∃ g c, v = .slice (some ⟨g, 0, none⟩) l.length c ∧ B ≤ g ∧ g < w.heap.size ∧ l.length ≤ c ∧ ∀ j, j < l.length → w.cell? ⟨g, j, none⟩ = some (.int .u8 (l.getD j 0 : Nat)) := by
  rcases h.2 with ⟨h1, h0⟩ | ⟨g, c, cur, hv, hb, hg, hx⟩
  · exact .inl ⟨h1, List.eq_nil_of_length_eq_zero h0⟩
  · refine .inr ⟨g, c, hv, hb, (Array.getElem?_eq_some_iff.1 hg).1, hx.1, fun j hj => ?_⟩
    rw [hv] at h
    rw [h.cellAt j (by omega)]
    simp [cv, List.getD, hj]

theorem spoil_any (w : World) (R : Nat) (a0 : Option Addr) (b off n cap : Nat) (cs : ByteArray) (i : Nat) (hn : n ≤ 600) (h : RdAt w R a0 b off n cap cs i) (B : Nat) (hB : R < B) (v : Value) (l : List Nat) (hl : l.length ≤ 100) (hown : w.ownsRow B 5 1 v l.length (cv l)) :
    Calls Tryz.prog 25 #[v, .pointer (some ⟨R, 0, none⟩)] w fun e w' => ∃ v', e = .returned v' ∧ w'.ownsRow w.heap.size 5 1 v' (spl l (nx cs n i)).length (cv (spl l (nx cs n i))) ∧ w.grownBy w' (some R) := by
  rcases own_cases hown with ⟨rfl, rfl⟩ | ⟨g, c, rfl, hg, _, hc, hcell⟩
  · exact spoil_nil w R a0 b off n cap cs i hn h
  · exact spoil_some w R a0 b off n cap cs i hn h g c l hl hc (by omega) hcell

set_option maxHeartbeats 1000000 in
set_option maxRecDepth 1000000 in
theorem draw_any (w : World) (a0 : Option Addr) (b off cap : Nat) (cs : ByteArray) (hs : cs.size ≤ 1048576) (hcap : cs.size ≤ cap) (ha : 0 < cs.size → a0 = some ⟨b, off, none⟩) (hc : ∀ j, j < cs.size → w.cell? ⟨b, off + j, none⟩ = some (bts cs j)) :
    Calls Tryz.prog 13 #[.slice a0 cs.size cap] w fun e w' => ∃ v', e = .returned v' ∧ w'.ownsRow w.heap.size 5 1 v' (dct cs (min cs.size 600)).length (cv (dct cs (min cs.size 600))) ∧ Below w.heap.size w w' := by
  have HO := hide (open_any w a0 b off cap cs hs hcap ha hc)
  obtain ⟨n, hn⟩ : ∃ n, min cs.size 600 = n := ⟨_, rfl⟩
  have hn6 : n ≤ 600 := by omega
  rw [hn] at HO ⊢
  clear ha hc hn
  go_enter Tryz.func13, Tryz.ntmps13
  go_wp2_with fail
  refine HO.out.mono ?_
  rintro e w1 ⟨n2, hn2, rfl, hr1, hb1⟩
  rw [hn2] at hr1
  clear hn2
  have HN1 := hide (next_any w1 w.heap.size a0 b off n cap cs 0 hn6 hr1)
  have hR1 := hr1.lt
  have HB1 := hide hb1
  have hk := nx_lt cs n 0
  have HD : Hid (dct cs n = if nx cs n 0 % 3 = 0 then spl (dtx cs n) (nx cs n (2 + nx cs n 1 % 6)) else dtx cs n) := rfl
  obtain ⟨k, hk'⟩ : ∃ k, nx cs n 0 = k := ⟨_, rfl⟩
  rw [hk'] at HN1 hk HD
  clear hk' hb1 hr1 HO
  go_wp2_with fail
  refine HN1.out.mono ?_
  rintro e w2 ⟨rfl, hg2, hr2⟩
  have HT := hide (texts_any w2 w.heap.size a0 b off n cap cs 1 hn6 hr2)
  have HB2 : Hid (Below w.heap.size w w2) := HB1.out.grown hg2 (by omega) (fun r e => by cases e; omega)
  have hR2 := hr2.lt
  clear hg2 hr2
  go_wp2_with fail
  refine HT.out.mono ?_
  rintro e w3 ⟨v', rfl, ho3, hg3, hr3⟩
  have HB3 : Hid (Below w.heap.size w w3) := HB2.out.grown hg3 (by omega) (fun r e => by cases e; omega)
  have hR3 := hr3.lt
  have ho3' : w3.ownsRow w2.heap.size 5 1 v' (dtx cs n).length (cv (dtx cs n)) := ho3
  have hr3' : RdAt w3 w.heap.size a0 b off n cap cs (2 + nx cs n 1 % 6) := hr3
  have HO3 := hide ho3'
  have hlen := dtx_le cs n
  have hw23 : w2.heap.size ≤ w3.heap.size := hg3.size
  by_cases h0 : k % 3 = 0
  · have hm : (k : Int).tmod 3 = 0 := by have := Int.ofNat_tmod k 3; rw [h0] at this; exact this.symm
    have HS := hide (spoil_any w3 w.heap.size a0 b off n cap cs _ hn6 hr3' w2.heap.size hR2 v' (dtx cs n) (by omega) ho3')
    rw [if_pos h0] at HD
    clear ho3 hg3 hr3 ho3' hr3' h0
    go_wp2_with fail
    refine HS.out.mono ?_
    rintro e w4 ⟨v4, rfl, ho4, hg4⟩
    have HO4 := hide (own_lower ho4 (B' := w.heap.size) (by omega))
    have HB4 : Hid (Below w.heap.size w w4) := HB3.out.grown hg4 (by omega) (fun r e => by cases e; omega)
    clear ho4 hg4
    go_wp2
    go_ret
    exact ⟨v4, rfl, by rw [HD.out]; exact HO4.out, HB4.out⟩
  · obtain ⟨m, hm'⟩ : ∃ m, k % 3 = m := ⟨_, rfl⟩
    have hm : (k : Int).tmod 3 = (m : Int) := by rw [← hm']; exact (Int.ofNat_tmod k 3).symm
    have hm0 : (m : Int) ≠ 0 := by omega
    have hmb : ((m : Int) == 0) = false := by rw [beq_eq_false_iff_ne]; exact hm0
    rw [if_neg h0] at HD
    clear ho3 hg3 hr3 ho3' hr3' h0 hm'
    go_wp2
    go_ret
    exact ⟨v', rfl, by rw [HD.out]; exact own_lower HO3.out (by omega), HB3.out⟩

set_option maxHeartbeats 1000000 in
set_option maxRecDepth 1000000 in
theorem drawQ_any (w : World) (a0 : Option Addr) (b off cap : Nat) (cs : ByteArray) (hs : cs.size ≤ 1048576) (hcap : cs.size ≤ cap) (ha : 0 < cs.size → a0 = some ⟨b, off, none⟩) (hc : ∀ j, j < cs.size → w.cell? ⟨b, off + j, none⟩ = some (bts cs j)) :
    Calls Tryz.prog 4 #[.slice a0 cs.size cap] w fun e w' => ∃ v', e = .returned v' ∧ w'.ownsRow w.heap.size 5 1 v' (dct cs (min cs.size 600)).length (cv (dct cs (min cs.size 600))) ∧ Below w.heap.size w w' := by
  have HD := hide (draw_any w a0 b off cap cs hs hcap ha hc)
  clear ha hc
  go_enter Tryz.func4, Tryz.ntmps4
  go_wp2_with fail
  refine HD.out.mono ?_
  rintro e w1 ⟨v', rfl, ho, hb⟩
  have HO := hide ho
  have HB := hide hb
  clear ho hb
  go_wp2
  go_ret
  exact ⟨_, rfl, HO.out, HB.out⟩
end Go.Proofs.YteojiblglbmmdaaGreatDoor
