/-
  The walk of spec.l1value.
  The walks of spec.l1words, spec.l1isWord.
  The walks of spec.l1digit and spec.l1escape.
-/
import Derived.Test.YthoinjddamlapaaGreatDoorJToRH
import Derived.Test.YthoinjddamlapaaGreatDoorJToLX
import Derived.Test.YthoinjddamlapaaGreatDoorJToB0
import Derived.Test.YthoinjddamlapaaGreatDoorJToC
import Derived.Test.YthoinjddamlapaaGreatDoorJToGDL
namespace Go.Proofs.YthoinjddamlapaaGreatDoor
open Go.RowKit

set_option maxHeartbeats 1000000 in
set_option maxRecDepth 1000000 in
theorem value_any (b off cap p k : Nat) (s : ByteArray) (w : World) (hs : s.size ≤ 1048576) (hk : p + k ≤ s.size) (hc : ∀ j, j < s.size → w.cell? ⟨b, off + j, none⟩ = some (bts s j)) :
    Calls Tryz.prog 26 #[.slice (some ⟨b, off + p, none⟩) k cap] w fun e w' => e = .returned (.int .i64 (nval s k p 0)) ∧ w' = w := by
  have HC := hide hc
  clear hc
  obtain ⟨R, hR⟩ : ∃ R, nval s k p 0 = R := ⟨_, rfl⟩
  have HR := hide hR
  rw [hR]
  clear hR
  go_enter Tryz.func26, Tryz.ntmps26
  go_wp2
  go_loopw [3, 4] (fun vx ix wr => ∃ V n : Nat, vx = .int .i64 V ∧ ix = .int .i64 n ∧ n ≤ k ∧ V ≤ 99999 ∧ nval s (k - n) (p + n) V = R ∧ wr = w) (fun _ ix _ => k - (intOf ix).toNat)
  case atStart => exact ⟨0, 0, rfl, rfl, Nat.zero_le _, by omega, HR.out, rfl⟩
  case round =>
    obtain ⟨V, n, rfl, rfl, hn, hV, hval, rfl⟩ := hrel
    have HVAL := hide hval
    clear hval
    by_cases hlt : n < k
    · have t0 : decide ((n : Int) < (k : Int)) = true := decide_eq_true (by omega)
      have g1 : wr.cell? ⟨b, off + p + n, none⟩ = some (.int .u8 ((s.get! (p + n)).toNat : Int)) := by rw [Nat.add_assoc]; exact HC.out (p + n) (by omega)
      have b1 : (s.get! (p + n)).toNat < 256 := (s.get! (p + n)).toNat_lt
      have HST : Hid (nval s (k - n) (p + n) V = if isD (s.get! (p + n)).toNat = true then (if 99999 < V * 10 + ((s.get! (p + n)).toNat - 48) then -1 else nval s (k - (n + 1)) (p + (n + 1)) (V * 10 + ((s.get! (p + n)).toNat - 48))) else -1) := by
        show _ = _
        obtain ⟨f, hf⟩ : ∃ f, k - n = f + 1 := ⟨k - n - 1, by omega⟩
        rw [hf, nval, show k - (n + 1) = f by omega, ← Nat.add_assoc]
      obtain ⟨y, hy⟩ : ∃ y : Nat, (s.get! (p + n)).toNat = y := ⟨_, rfl⟩
      rw [hy] at g1 b1 HST
      clear hy
      have HN := hide (fun w => number_any y w b1)
      cases hd : isD y with
      | true =>
        rw [hd] at HN
        have hd' := (isD_iff y).1 hd
        obtain ⟨D, hD⟩ : ∃ D : Nat, (y : Int) - 48 = (D : Int) := ⟨y - 48, by omega⟩
        have hD9 : (D : Int) ≤ 9 := by omega
        have hyD : y - 48 = D := by omega
        rw [if_pos hd, hyD] at HST
        have hVi : (V : Int) ≤ 99999 := by omega
        have hy1 : (48 : Int) ≤ (y : Int) := by omega
        have hy2 : (y : Int) ≤ 57 := by omega
        clear hd hd' hyD
        by_cases hb : 99999 < V * 10 + D
        · have t1 : decide ((99999 : Int) < (V : Int) * 10 + (D : Int)) = true := decide_eq_true (by omega)
          have HE : Hid (R = -1) := by show _ = _; rw [← HVAL.out, HST.out, if_pos hb]
          clear hb
          go_wp2_with fail
          refine (HN.out _).mono ?_
          rintro e w' ⟨rfl, rfl⟩
          go_wp2
          go_ret
          exact ⟨by rw [HE.out]; rfl, by first | rfl | trivial⟩
        · have t1 : decide ((99999 : Int) < (V : Int) * 10 + (D : Int)) = false := decide_eq_false (by omega)
          have HE : Hid (nval s (k - (n + 1)) (p + (n + 1)) (V * 10 + D) = R) := by show _ = _; rw [← HVAL.out, HST.out, if_neg hb]
          go_wp2_with fail
          refine (HN.out _).mono ?_
          rintro e w' ⟨rfl, rfl⟩
          go_wp2
          go_roundw
          case rel => exact ⟨V * 10 + D, n + 1, by go_num, by go_num, by omega, by omega, HE.out, by first | rfl | trivial⟩
          case measure => simp [intOf]; omega
      | false =>
        rw [hd] at HN
        have HE : Hid (R = -1) := by show _ = _; rw [← HVAL.out, HST.out, if_neg (by rw [hd]; decide)]
        clear hd
        go_wp2_with fail
        refine (HN.out _).mono ?_
        rintro e w' ⟨rfl, rfl⟩
        go_wp2
        go_ret
        exact ⟨by rw [HE.out]; rfl, by first | rfl | trivial⟩
    · have t0 : decide ((n : Int) < (k : Int)) = false := decide_eq_false (by omega)
      have HE : Hid (R = (V : Int)) := by show _ = _; rw [← HVAL.out, show k - n = 0 by omega]; rfl
      go_wp2
      go_ret
      exact ⟨by rw [HE.out]; rfl, by first | rfl | trivial⟩
end Go.Proofs.YthoinjddamlapaaGreatDoor

namespace Go.Proofs.YthoinjddamlapaaGreatDoor
open Go.RowKit

/-- The words as texts in cells. -/
def wc : Array Value := (wl.map fun l => Value.string ⟨l.toArray⟩).toArray
theorem wc_at (j : Nat) (h : j < 26) : wc[j]? = some (.string ⟨(wl.getD j []).toArray⟩) := by
  have h' : j < wl.length := h
  unfold wc
  rw [List.getElem?_toArray, List.getElem?_map]
  simp [List.getD, List.getElem?_eq_getElem h']

set_option maxHeartbeats 1000000 in
set_option maxRecDepth 1000000 in
theorem words_any (w : World) :
    Calls Tryz.prog 39 #[] w fun e w' => ∃ g, e = .returned (.slice (some ⟨g, 0, none⟩) 26 26) ∧ (∀ j, j < 26 → w'.cell? ⟨g, j, none⟩ = some (.string ⟨(wl.getD j []).toArray⟩)) ∧ Below w.heap.size w w' := by
  go_enter Tryz.func39, Tryz.ntmps39
  go_wp2
  go_ret
  exact ⟨w.heap.size, rfl, fun j hj => (cell_fresh w wc 9 j).trans (wc_at j hj), (Below.refl _ _).alloc (Nat.le_refl _) _⟩

theorem isW_yes {s : ByteArray} {n : Nat} (hn : n < 26) (h : wl.getD n [] = s.toList) : isW s = true := by
  have h' : n < wl.length := hn
  unfold isW
  rw [List.contains_iff_mem, ← h]
  simp [List.getD, List.getElem?_eq_getElem h']
theorem isW_no {s : ByteArray} (h : ∀ j, j < 26 → wl.getD j [] ≠ s.toList) : isW s = false := by
  unfold isW
  rw [Bool.eq_false_iff]
  intro g
  rw [List.contains_iff_mem] at g
  obtain ⟨j, hj, e⟩ := List.getElem_of_mem g
  exact h j hj (by simp [List.getD, List.getElem?_eq_getElem hj, e])

set_option maxHeartbeats 1000000 in
set_option maxRecDepth 1000000 in
theorem isWord_any (s : ByteArray) (w : World) :
    Calls Tryz.prog 25 #[.string s] w fun e w' => e = .returned (.bool (isW s)) ∧ Below w.heap.size w w' := by
  have HW := hide (words_any w)
  go_enter Tryz.func25, Tryz.ntmps25
  go_wp2_with fail
  refine HW.out.mono ?_
  rintro e w1 ⟨g, rfl, hcs, hb⟩
  have HCS := hide hcs
  have HB := hide hb
  clear hcs hb
  go_wp2
  go_loopw [4] (fun ix wr => ∃ n : Nat, ix = .int .i64 n ∧ n ≤ 26 ∧ (∀ j, j < n → wl.getD j [] ≠ s.toList) ∧ wr = w1) (fun ix _ => 26 - (intOf ix).toNat)
  case atStart => exact ⟨0, rfl, by omega, fun j hj => absurd hj (Nat.not_lt_zero _), rfl⟩
  case round =>
    obtain ⟨n, rfl, hn, hall, rfl⟩ := hrel
    have HALL := hide hall
    clear hall
    by_cases hlt : n < 26
    · have g1 := HCS.out n hlt
      obtain ⟨x, hx⟩ : ∃ x : ByteArray, (⟨(wl.getD n []).toArray⟩ : ByteArray) = x := ⟨_, rfl⟩
      have HX : Hid (x.toList = wl.getD n []) := by show _ = _; rw [← hx, Lib.toList_data]
      rw [hx] at g1
      clear hx
      have hlti : (n : Int) < 26 := by omega
      by_cases he : x.toList = s.toList
      · have t1 : (x.toList == s.toList) = true := by rw [beq_iff_eq]; exact he
        have HR : Hid (isW s = true) := isW_yes hlt (by rw [← HX.out]; exact he)
        clear he
        go_wp2
        go_ret
        exact ⟨by rw [HR.out]; rfl, HB.out⟩
      · have t1 : (x.toList == s.toList) = false := by rw [beq_eq_false_iff_ne]; exact he
        have HE : Hid (wl.getD n [] ≠ s.toList) := by show _ ≠ _; rw [← HX.out]; exact he
        clear he
        go_wp2
        go_roundw
        case rel => exact ⟨n + 1, by go_num, by omega, fun j hj => by
          by_cases e : j = n
          · rw [e]; exact HE.out
          · exact HALL.out j (by omega), by first | rfl | trivial⟩
        case measure => simp [intOf]; omega
    · have hlti : ¬ (n : Int) < 26 := by omega
      have HR : Hid (isW s = false) := isW_no (fun j hj => HALL.out j (by omega))
      go_wp2
      go_ret
      exact ⟨by rw [HR.out]; rfl, HB.out⟩
end Go.Proofs.YthoinjddamlapaaGreatDoor

namespace Go.Proofs.YthoinjddamlapaaGreatDoor
open Go.RowKit

set_option maxHeartbeats 400000 in
set_option maxRecDepth 1000000 in
theorem digit_any (c : Nat) (w : World) (hc : c < 256) :
    Calls Tryz.prog 58 #[.int .u8 c] w fun e w' => e = .returned (.int .i64 (hd c)) ∧ w' = w := by
  have hci : (c : Int) < 256 := by omega
  go_enter Tryz.func58, Tryz.ntmps58
  go_wp2
  all_goals go_ret
  all_goals exact ⟨ret_int (by unfold hd; repeat' split <;> omega), rfl⟩

/-- A slice of bytes and a number, as an answer. -/
def Gives (w w' : World) (e : Ending) (l : List Nat) (n : Nat) : Prop :=
  ∃ a g c, e = .returned (.tuple #[.slice a l.length c, .int .i64 (n : Int)]) ∧ (0 < l.length → a = some ⟨g, 0, none⟩) ∧ (∀ j, j < l.length → w'.cell? ⟨g, j, none⟩ = some (.int .u8 (l.getD j 0 : Nat))) ∧ Below w.heap.size w w'

theorem gives_nil {w w' : World} {l : List Nat × Nat} (h : l = ([], 0)) (hb : Below w.heap.size w w') : Gives w w' (.returned (.tuple #[.slice none 0 0, .int .i64 0])) l.1 l.2 := by
  rw [h]; exact ⟨none, 0, 0, rfl, fun h => absurd h (by decide), fun j hj => absurd hj (Nat.not_lt_zero _), hb⟩

set_option maxHeartbeats 1000000 in
set_option maxRecDepth 1000000 in
theorem esc_short (b off cap i : Nat) (s : ByteArray) (w : World) (hs : s.size ≤ 1048576) (hi : i ≤ s.size) (hc : ∀ j, j < s.size → w.cell? ⟨b, off + j, none⟩ = some (bts s j))
    (hno : ¬ (i + 1 < s.size ∧ (s.get! i).toNat = 117 ∧ (s.get! (i + 1)).toNat = 123)) :
    Calls Tryz.prog 40 #[.slice (some ⟨b, off, none⟩) s.size cap, .int .i64 i] w fun e w' => Gives w w' e (esc s i).1 (esc s i).2 := by
  by_cases h0 : s.size ≤ i
  · have HE : Hid (esc s i = ([], 0)) := by show _ = _; unfold esc; rw [if_pos h0]
    have t0 : decide ((s.size : Int) ≤ (i : Int)) = true := decide_eq_true (by omega)
    clear hc hno
    go_enter Tryz.func40, Tryz.ntmps40
    go_wp2
    go_ret2
    exact gives_nil HE.out (Below.refl _ _)
  have hlt : i < s.size := by omega
  have g0 : w.cell? ⟨b, off + i, none⟩ = some (.int .u8 ((s.get! i).toNat : Int)) := hc i hlt
  have b0 : (s.get! i).toNat < 256 := (s.get! i).toNat_lt
  obtain ⟨y, hy⟩ : ∃ y : Nat, (s.get! i).toNat = y := ⟨_, rfl⟩
  by_cases hq : y = 34 ∨ y = 92
  · have HE : Hid (esc s i = ([y], 1)) := by show _ = _; unfold esc; rw [if_neg h0, hy, if_pos hq]
    rw [hy] at g0 b0
    clear hc hno hy
    by_cases h34 : y = 34
    · have t1 : ((y : Int) == 34) = true := by rw [beq_iff_eq]; omega
      clear hq h34
      go_enter Tryz.func40, Tryz.ntmps40
      go_wp2
      go_ret2
      rw [HE.out]
      exact ⟨some ⟨w.heap.size, 0, none⟩, w.heap.size, 1, rfl, fun _ => rfl, fun j hj => by match j, hj with | 0, _ => simp, (Below.refl _ _).alloc (Nat.le_refl _) _⟩
    · have t1 : ((y : Int) == 34) = false := by rw [beq_eq_false_iff_ne]; omega
      have t2 : ((y : Int) == 92) = true := by rw [beq_iff_eq]; omega
      clear hq h34
      go_enter Tryz.func40, Tryz.ntmps40
      go_wp2
      go_ret2
      rw [HE.out]
      exact ⟨some ⟨w.heap.size, 0, none⟩, w.heap.size, 1, rfl, fun _ => rfl, fun j hj => by match j, hj with | 0, _ => simp, (Below.refl _ _).alloc (Nat.le_refl _) _⟩
  have t1 : ((y : Int) == 34) = false := by rw [beq_eq_false_iff_ne]; omega
  have t2 : ((y : Int) == 92) = false := by rw [beq_eq_false_iff_ne]; omega
  by_cases h117 : y = 117
  · have t3 : ((y : Int) != 117) = false := by rw [bne_eq_false_iff_eq]; omega
    by_cases h1 : i + 1 < s.size
    · have g1 : w.cell? ⟨b, off + (i + 1), none⟩ = some (.int .u8 ((s.get! (i + 1)).toNat : Int)) := hc (i + 1) h1
      have b1 : (s.get! (i + 1)).toNat < 256 := (s.get! (i + 1)).toNat_lt
      obtain ⟨z, hz⟩ : ∃ z : Nat, (s.get! (i + 1)).toNat = z := ⟨_, rfl⟩
      have hz123 : z ≠ 123 := fun e => hno ⟨h1, by rw [hy]; exact h117, by rw [hz]; exact e⟩
      have t4 : ((z : Int) != 123) = true := by rw [bne_iff_ne]; omega
      have t5 : decide ((s.size : Int) ≤ (i : Int) + 1) = false := decide_eq_false (by omega)
      have HE : Hid (esc s i = ([], 0)) := by show _ = _; unfold esc; rw [if_neg h0, hy, if_neg hq, if_pos (.inr (.inr (by rw [hz]; exact hz123)))]
      rw [hy] at g0 b0
      rw [hz] at g1 b1
      clear hc hno hy hz hq h117 hz123
      go_enter Tryz.func40, Tryz.ntmps40
      go_wp2
      go_ret2
      exact gives_nil HE.out (Below.refl _ _)
    · have t5 : decide ((s.size : Int) ≤ (i : Int) + 1) = true := decide_eq_true (by omega)
      have HE : Hid (esc s i = ([], 0)) := by show _ = _; unfold esc; rw [if_neg h0, hy, if_neg hq, if_pos (.inr (.inl (by omega)))]
      rw [hy] at g0 b0
      clear hc hno hy hq h117
      go_enter Tryz.func40, Tryz.ntmps40
      go_wp2
      go_ret2
      exact gives_nil HE.out (Below.refl _ _)
  · have t3 : ((y : Int) != 117) = true := by rw [bne_iff_ne]; omega
    have HE : Hid (esc s i = ([], 0)) := by show _ = _; unfold esc; rw [if_neg h0, hy, if_neg hq, if_pos (.inl h117)]
    rw [hy] at g0 b0
    clear hc hno hy hq h117
    go_enter Tryz.func40, Tryz.ntmps40
    go_wp2
    go_ret2
    exact gives_nil HE.out (Below.refl _ _)
end Go.Proofs.YthoinjddamlapaaGreatDoor
