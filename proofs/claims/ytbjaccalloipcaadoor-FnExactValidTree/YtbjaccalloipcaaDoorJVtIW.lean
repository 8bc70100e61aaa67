/-
  The walk of impl.isWord.
  The walk of validName.
-/
import Derived.Test.YtbjaccalloipcaaDoorJVtLX
import Derived.Test.YtbjaccalloipcaaDoorJVtCV
import Derived.Test.YtbjaccalloipcaaDoorJVtIK
namespace Go.Proofs.YtbjaccalloipcaaDoor
open Go.RowKit

theorem isW_or (s : ByteArray) : isW s = wl.any (fun l => s.toList == l) := by
  unfold isW
  rw [Bool.eq_iff_iff, List.contains_iff_mem, List.any_eq_true]
  constructor
  · intro h; exact ⟨_, h, by simp⟩
  · rintro ⟨l, h1, h2⟩; rw [eq_of_beq h2]; exact h1

set_option maxHeartbeats 4000000 in
set_option maxRecDepth 1000000 in
theorem implWord_any (s : ByteArray) (w : World) :
    Calls Tryd.prog 56 #[.string s] w fun e w' => e = .returned (.bool (isW s)) ∧ w' = w := by
  have HI := hide (isW_or s)
  generalize isW s = W at *
  go_enter Tryd.func56, Tryd.ntmps56
  go_wp2
  all_goals go_ret
  all_goals refine ⟨ret_bool ?_, rfl⟩
  all_goals rw [HI.out]
  all_goals simp only [wl, List.any_cons, List.any_nil]
  all_goals simp_all only [Bool.true_or, Bool.or_true, Bool.or_false, Bool.false_eq_true]
end Go.Proofs.YtbjaccalloipcaaDoor

namespace Go.Proofs.YtbjaccalloipcaaDoor
open Go.RowKit

set_option maxHeartbeats 1000000 in
set_option maxRecDepth 1000000 in
theorem pieceKind_nil (w : World) (hT : Lib.Utf8Tabs 0 1 w) :
    Calls Tryd.prog 54 #[.string ByteArray.empty] w fun e w' => e = .returned (.int .i64 6) ∧ Below w.heap.size w w' := by
  have hd : Lib.decodeGo ByteArray.empty = (65533, 0) := rfl
  have hdec := Tryd.utf8_DecodeRuneInString ByteArray.empty w hT
  rw [hd] at hdec
  have HD := hide hdec
  have H1 := hide (fun w => hp_at ByteArray.empty ⟨#[47, 47]⟩ false rfl w)
  have H2 := hide (fun w => hp_at ByteArray.empty ⟨#[47, 42]⟩ false rfl w)
  have hD : isD 65533 = false := rfl
  have hR : isR 65533 = false := rfl
  have h3 := fun w => isDigit_any 65533 w (by omega)
  have h4 := fun w => isRunRune_any 65533 w (by omega)
  simp only [hD] at h3
  simp only [hR] at h4
  have H3 := hide h3
  have H4 := hide h4
  clear h3 h4 hD hR
  clear hdec hd hT
  go_enter Tryd.func54, Tryd.ntmps54
  go_wp2_with fail
  refine HD.out.mono ?_
  rintro e w1 ⟨rfl, hb1⟩
  have HB := hide hb1
  clear hb1
  go_wp2_with fail
  refine (H1.out _).mono ?_
  rintro e w2 ⟨rfl, rfl⟩
  go_wp2_with fail
  refine (H2.out _).mono ?_
  rintro e w3 ⟨rfl, rfl⟩
  go_wp2_with fail
  refine (H3.out _).mono ?_
  rintro e w4 ⟨rfl, rfl⟩
  go_wp2_with fail
  refine (H4.out _).mono ?_
  rintro e w5 ⟨rfl, rfl⟩
  go_wp2
  go_ret
  exact ⟨rfl, HB.out⟩

/-- Whether a text is a name. -/
def vNm (s : ByteArray) : Bool := decide (s.size ≤ 30) && (decide (0 < s.size) && (pk s == 3 && (run s 0 == s.size && !isW s)))
theorem nat_beq (a b : Nat) : (((a : Nat) : Int) == ((b : Nat) : Int)) = (a == b) := by
  by_cases h : a = b
  · subst h; simp
  · rw [beq_eq_false_iff_ne.2 h, beq_eq_false_iff_ne]; omega
set_option maxHeartbeats 1000000 in
set_option maxRecDepth 1000000 in
theorem validName_any (v : Value) (s : ByteArray) (w : World) (hv : BS w v s) (hl : s.size ≤ 1048576) (hT : Lib.Utf8Tabs 0 1 w) :
    Calls Tryd.prog 49 #[v] w fun e w' => e = .returned (.bool (vNm s)) ∧ Below w.heap.size w w' := by
  have hcv := toStr_bs hv
  have HT := hide hT
  obtain ⟨a, _, _, c, rfl, _, _⟩ := hv
  clear hT
  by_cases h30 : s.size ≤ 30
  · have d1 : decide ((30 : Int) < (s.size : Int)) = false := decide_eq_false (by omega)
    by_cases h0 : s.size = 0
    · have e : s = ByteArray.empty := ext_bytes h0 (fun j hj => by omega)
      have HN : Hid (vNm s = false) := by show _ = _; unfold vNm; rw [decide_eq_false (show ¬ 0 < s.size by omega), Bool.false_and, Bool.and_false]
      have HP := hide (pieceKind_nil w HT.out)
      rw [← e] at HP
      clear e h0
      go_enter Tryd.func49, Tryd.ntmps49
      go_wp2_with fail
      refine HP.out.mono ?_
      rintro e w1 ⟨rfl, hb1⟩
      have HB := hide hb1
      clear hb1 hcv
      go_wp2
      go_ret
      exact ⟨by rw [HN.out]; rfl, HB.out⟩
    · have HN : Hid (vNm s = (pk s == 3 && (run s 0 == s.size && !isW s))) := by show _ = _; unfold vNm; rw [decide_eq_true h30, decide_eq_true (show 0 < s.size by omega), Bool.true_and, Bool.true_and]
      have HP := hide (pieceKind_any s w (by omega) HT.out)
      obtain ⟨P, hP⟩ : ∃ P, pk s = P := ⟨_, rfl⟩
      rw [hP] at HN HP
      by_cases c1 : P = 3
      · subst c1
        have HR := hide (fun w => runSize_any s w hl)
        obtain ⟨R, hR⟩ : ∃ R, run s 0 = R := ⟨_, rfl⟩
        simp only [hR] at HN HR
        by_cases c2 : R = s.size
        · have e2 : ((R : Int) == (s.size : Int)) = true := by rw [nat_beq, beq_iff_eq]; exact c2
          have HN2 : Hid (vNm s = !isW s) := by show _ = _; rw [HN.out, beq_iff_eq.2 c2]; rfl
          have HW := hide (fun w => implWord_any s w)
          obtain ⟨B, hB⟩ : ∃ B, isW s = B := ⟨_, rfl⟩
          simp only [hB] at HN2 HW
          clear h0 c2 HN hP hR hB
          go_enter Tryd.func49, Tryd.ntmps49
          go_wp2_with fail
          refine HP.out.mono ?_
          rintro e w1 ⟨rfl, hb1⟩
          have HB1 := hide hb1
          clear hb1 hcv
          go_wp2_with fail
          refine (HR.out _).mono ?_
          rintro e w2 ⟨rfl, hb2⟩
          have HB2 : Hid (Below w.heap.size w w2) := HB1.out.trans (hb2.mono HB1.out.size)
          clear hb2
          go_wp2_with fail
          refine (HW.out _).mono ?_
          rintro e w3 ⟨rfl, rfl⟩
          go_wp2
          go_ret
          exact ⟨by rw [HN2.out]; rfl, HB2.out⟩
        · have e2 : ((R : Int) == (s.size : Int)) = false := by rw [nat_beq, beq_eq_false_iff_ne]; exact c2
          have HN2 : Hid (vNm s = false) := by show _ = _; rw [HN.out, beq_eq_false_iff_ne.2 c2]; rfl
          clear h0 c2 HN hP hR
          go_enter Tryd.func49, Tryd.ntmps49
          go_wp2_with fail
          refine HP.out.mono ?_
          rintro e w1 ⟨rfl, hb1⟩
          have HB1 := hide hb1
          clear hb1 hcv
          go_wp2_with fail
          refine (HR.out _).mono ?_
          rintro e w2 ⟨rfl, hb2⟩
          have HB2 : Hid (Below w.heap.size w w2) := HB1.out.trans (hb2.mono HB1.out.size)
          clear hb2
          go_wp2
          go_ret
          exact ⟨by rw [HN2.out]; rfl, HB2.out⟩
      · have e1 : ((P : Int) == 3) = false := by rw [beq_eq_false_iff_ne]; omega
        have HN2 : Hid (vNm s = false) := by show _ = _; rw [HN.out, beq_eq_false_iff_ne.2 c1]; rfl
        clear h0 c1 HN hP
        go_enter Tryd.func49, Tryd.ntmps49
        go_wp2_with fail
        refine HP.out.mono ?_
        rintro e w1 ⟨rfl, hb1⟩
        have HB1 := hide hb1
        clear hb1 hcv
        go_wp2
        go_ret
        exact ⟨by rw [HN2.out]; rfl, HB1.out⟩
  · have d1 : decide ((30 : Int) < (s.size : Int)) = true := decide_eq_true (by omega)
    have HN : Hid (vNm s = false) := by show _ = _; unfold vNm; rw [decide_eq_false h30]; rfl
    go_enter Tryd.func49, Tryd.ntmps49
    go_wp2
    go_ret
    exact ⟨by rw [HN.out]; rfl, Below.refl _ _⟩
end Go.Proofs.YtbjaccalloipcaaDoor
