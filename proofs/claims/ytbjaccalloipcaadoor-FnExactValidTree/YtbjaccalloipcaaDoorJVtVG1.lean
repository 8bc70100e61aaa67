/-
  The walk of l2name.
  The walk of szIntS.
  The walk of szByteS.
-/
import Derived.Test.YtbjaccalloipcaaDoorJVtIW
import Derived.Test.YtbjaccalloipcaaDoorJVtSX0
import Derived.Test.YtbjaccalloipcaaDoorJVtAP
import Derived.Test.YtbjaccalloipcaaDoorJVtIN0
namespace Go.Proofs.YtbjaccalloipcaaDoor
open Go.RowKit

theorem pk_letter (s : ByteArray) : (pk s == 3) = isL (s.get! 0).toNat := by
  unfold pk
  obtain ⟨c, hc⟩ : ∃ c, s.get! 0 = c := ⟨_, rfl⟩
  rw [hc]
  have h47 : c = 47 ↔ c.toNat = 47 := ⟨fun h => by rw [h]; rfl, fun h => UInt8.toNat_inj.1 h⟩
  by_cases hL : isL c.toNat = true
  · have h := (isL_iff _).1 hL
    have hD : ¬ isD c.toNat = true := fun h' => by have := (isD_iff _).1 h'; omega
    rw [if_neg (by omega), if_neg (fun h' => by have := h47.1 h'.2.1; omega), if_neg (fun h' => by have := h47.1 h'.2.1; omega), if_neg hD, if_pos ((isR_iff _).2 (.inl hL)), hL]; rfl
  · have hL' : isL c.toNat = false := by simpa using hL
    rw [hL']
    split
    · rfl
    split
    · rfl
    split
    · rfl
    split
    · rfl
    rename_i h1 h2 h3 h4
    rw [if_neg (fun h' => by rcases (isR_iff _).1 h' with g | g <;> contradiction)]
    split <;> rfl
theorem vNm_eq (s : ByteArray) : vNm s = (decide (0 < s.size) && (decide (s.size ≤ 30) && (isL (s.get! 0).toNat && (run s 0 == s.size && !isW s)))) := by
  unfold vNm; rw [pk_letter, ← Bool.and_assoc, Bool.and_comm (decide (s.size ≤ 30)), Bool.and_assoc]

set_option maxHeartbeats 1000000 in
set_option maxRecDepth 1000000 in
theorem l2name_any (v : Value) (s : ByteArray) (w : World) (hv : BS w v s) (hl : s.size ≤ 1048576) :
    Calls Tryd.prog 31 #[v] w fun e w' => e = .returned (.bool (vNm s)) ∧ Below w.heap.size w w' := by
  have hcv := toStr_bs hv
  obtain ⟨a, b, o, c, rfl, ha, hc⟩ := hv
  have HN := hide (vNm_eq s)
  by_cases h0 : 0 < s.size
  · have d0 : decide ((0 : Int) < (s.size : Int)) = true := decide_eq_true (by omega)
    obtain rfl := ha h0
    by_cases h30 : s.size ≤ 30
    · have d1 : decide ((s.size : Int) ≤ 30) = true := decide_eq_true (by omega)
      rw [decide_eq_true h0, decide_eq_true h30, Bool.true_and, Bool.true_and] at HN
      have g0 : w.cell? ⟨b, o, none⟩ = some (bts s 0) := hc 0 h0
      have HR := hide (run_any b o c 0 s w hl (Nat.zero_le _) hc)
      have HL := hide (letter_any (s.get! 0).toNat w (UInt8.toNat_lt _))
      have HW := hide (fun w => isWord_any s w)
      unfold bts at g0
      obtain ⟨x, hx⟩ : ∃ x, (s.get! 0).toNat = x := ⟨_, rfl⟩
      obtain ⟨R, hR⟩ : ∃ R, run s 0 = R := ⟨_, rfl⟩
      obtain ⟨V, hV⟩ : ∃ V, vNm s = V := ⟨_, rfl⟩
      rw [hx] at g0 HL HN
      rw [hR] at HR HN
      rw [hV] at HN ⊢
      obtain ⟨Lt, hLt⟩ : ∃ Lt, isL x = Lt := ⟨_, rfl⟩
      obtain ⟨W, hW⟩ : ∃ W, isW s = W := ⟨_, rfl⟩
      rw [hLt] at HL HN
      simp only [hW] at HW HN
      clear hx hR hV hLt hW hc ha h30
      cases Lt with
      | false =>
        rw [Bool.false_and] at HN
        go_enter Tryd.func31, Tryd.ntmps31
        go_wp2_with fail
        refine HL.out.mono ?_
        rintro e w1 ⟨rfl, rfl⟩
        go_wp2
        go_ret
        exact ⟨by rw [HN.out]; rfl, Below.refl _ _⟩
      | true =>
        rw [Bool.true_and] at HN
        by_cases c2 : R = s.size
        · have e2 : ((R : Int) == (s.size : Int)) = true := by rw [nat_beq, beq_iff_eq]; exact c2
          rw [beq_iff_eq.2 c2, Bool.true_and] at HN
          clear c2
          go_enter Tryd.func31, Tryd.ntmps31
          go_wp2_with fail
          refine HL.out.mono ?_
          rintro e w1 ⟨rfl, rfl⟩
          go_wp2_with fail
          refine HR.out.mono ?_
          rintro e w2 ⟨rfl, rfl⟩
          go_wp2_with fail
          refine (HW.out _).mono ?_
          rintro e w3 ⟨rfl, hb3⟩
          have HB := hide hb3
          clear hb3
          go_wp2
          go_ret
          exact ⟨by rw [HN.out]; rfl, HB.out⟩
        · have e2 : ((R : Int) == (s.size : Int)) = false := by rw [nat_beq, beq_eq_false_iff_ne]; exact c2
          rw [beq_eq_false_iff_ne.2 c2, Bool.false_and] at HN
          clear c2
          go_enter Tryd.func31, Tryd.ntmps31
          go_wp2_with fail
          refine HL.out.mono ?_
          rintro e w1 ⟨rfl, rfl⟩
          go_wp2_with fail
          refine HR.out.mono ?_
          rintro e w2 ⟨rfl, rfl⟩
          go_wp2
          go_ret
          exact ⟨by rw [HN.out]; rfl, Below.refl _ _⟩
    · have d1 : decide ((s.size : Int) ≤ 30) = false := decide_eq_false (by omega)
      rw [decide_eq_false h30, Bool.false_and, Bool.and_false] at HN
      clear hc ha h30 hcv
      go_enter Tryd.func31, Tryd.ntmps31
      go_wp2
      go_ret
      exact ⟨by rw [HN.out]; rfl, Below.refl _ _⟩
  · have d0 : decide ((0 : Int) < (s.size : Int)) = false := decide_eq_false (by omega)
    rw [decide_eq_false h0, Bool.false_and] at HN
    have e0 : s.size = 0 := by omega
    clear hc ha h0 hcv d0 hl
    go_enter Tryd.func31, Tryd.ntmps31
    go_wp2
    go_ret
    exact ⟨by rw [HN.out]; rfl, Below.refl _ _⟩
end Go.Proofs.YtbjaccalloipcaaDoor

namespace Go.Proofs.YtbjaccalloipcaaDoor
open Go.RowKit


set_option maxHeartbeats 400000 in
set_option maxRecDepth 1000000 in
theorem szI_any (a : Option Addr) (n c : Nat) (left : Int) (w : World) (h0 : 0 ≤ left) (hl : left ≤ 1048576) (hn : (n : Int) ≤ 9223372036854775807) :
    Calls Tryd.prog 17 #[.slice a n c, .int .i64 left] w fun e w' => e = .returned (.int .i64 (szl n left)) ∧ w' = w := by
  have e1 : IntKind.i64.wrap (left - (n : Int)) = left - n := by rw [IntKind.wrap_i64]; omega
  by_cases c1 : left - (n : Int) < 0
  · have HZ : Hid (szl n left = -1) := by show _ = _; unfold szl; rw [if_pos c1]
    have d1 : decide (left - (n : Int) < 0) = true := decide_eq_true c1
    go_enter Tryd.func17, Tryd.ntmps17
    go_wp2
    go_ret
    exact ⟨by rw [HZ.out]; rfl, by trivial⟩
  · have HZ : Hid (szl n left = left - n) := by show _ = _; unfold szl; rw [if_neg c1]
    have d1 : decide (left - (n : Int) < 0) = false := decide_eq_false c1
    go_enter Tryd.func17, Tryd.ntmps17
    go_wp2
    go_ret
    exact ⟨by rw [HZ.out]; first | rfl | exact ret_int (by omega), by trivial⟩

end Go.Proofs.YtbjaccalloipcaaDoor

namespace Go.Proofs.YtbjaccalloipcaaDoor
open Go.RowKit

set_option maxHeartbeats 400000 in
set_option maxRecDepth 1000000 in
theorem szB_any (a : Option Addr) (n c : Nat) (left : Int) (w : World) (h0 : 0 ≤ left) (hl : left ≤ 1048576) (hn : (n : Int) ≤ 9223372036854775807) :
    Calls Tryd.prog 15 #[.slice a n c, .int .i64 left] w fun e w' => e = .returned (.int .i64 (szl n left)) ∧ w' = w := by
  have e1 : IntKind.i64.wrap (left - (n : Int)) = left - n := by rw [IntKind.wrap_i64]; omega
  by_cases c1 : left - (n : Int) < 0
  · have HZ : Hid (szl n left = -1) := by show _ = _; unfold szl; rw [if_pos c1]
    have d1 : decide (left - (n : Int) < 0) = true := decide_eq_true c1
    go_enter Tryd.func15, Tryd.ntmps15
    go_wp2
    go_ret
    exact ⟨by rw [HZ.out]; rfl, by trivial⟩
  · have HZ : Hid (szl n left = left - n) := by show _ = _; unfold szl; rw [if_neg c1]
    have d1 : decide (left - (n : Int) < 0) = false := decide_eq_false c1
    go_enter Tryd.func15, Tryd.ntmps15
    go_wp2
    go_ret
    exact ⟨by rw [HZ.out]; first | rfl | exact ret_int (by omega), by trivial⟩

end Go.Proofs.YtbjaccalloipcaaDoor
