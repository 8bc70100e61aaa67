/-
  The walk of rotateCmpFunc.
  Goals that are alike, closed once.
-/
import Derived.Test.YtochfhoaiekioaaJRtSRX
import Derived.Test.YtochfhoaiekioaaJRtB0
namespace Go.Proofs.Ytochfhoaiekioaa
open Go.RowKit

theorem swapRange_at (v cf : Value) (D : Nat) (X U M V Y : List Ed) (a b n : Int) (w : World) (ha : a = X.length) (hb : b = (X.length + U.length + M.length : Nat)) (hn' : n = U.length) (hUV : U.length = V.length) (hn : (X ++ U ++ M ++ V ++ Y).length ≤ 1048576) (h : EdR w D v (X ++ U ++ M ++ V ++ Y)) :
    Calls Try.prog 55 #[v, .int .i64 a, .int .i64 b, .int .i64 n, cf] w fun e w' => e = .returned (.tuple #[]) ∧ EdR w' D v (X ++ V ++ M ++ U ++ Y) ∧ Wrs [D] w w' := by
  subst ha hb hn'
  exact swapRange_any v cf D X U M V Y w hUV hn h

set_option maxHeartbeats 2000000 in
set_option maxRecDepth 1000000 in
theorem rotate_any (v cf : Value) (D : Nat) (X U V Y : List Ed) (w : World) (hU0 : 0 < U.length) (hV0 : 0 < V.length) (hn : (X ++ U ++ V ++ Y).length ≤ 1048576) (h : EdR w D v (X ++ U ++ V ++ Y)) :
    Calls Try.prog 54 #[v, .int .i64 X.length, .int .i64 (X.length + U.length : Nat), .int .i64 (X.length + U.length + V.length : Nat), cf] w fun e w' => e = .returned (.tuple #[]) ∧ EdR w' D v (X ++ V ++ U ++ Y) ∧ Wrs [D] w w' := by
  have HE := hide h
  have hlen : (X ++ U ++ V ++ Y).length = X.length + U.length + V.length + Y.length := by simp; omega
  rw [hlen] at hn
  obtain ⟨xa, hxa⟩ : ∃ x, X.length = x := ⟨_, rfl⟩
  obtain ⟨m, hm⟩ : ∃ x, X.length + U.length = x := ⟨_, rfl⟩
  obtain ⟨b, hb⟩ : ∃ x, X.length + U.length + V.length = x := ⟨_, rfl⟩
  rw [hb, hm, hxa]
  have HXA := hide hxa
  have HM := hide hm
  have HB := hide hb
  have HNN : Hid (X.length + U.length + V.length + Y.length ≤ 1048576) := hn
  have HU0 := hide hU0
  have HV0 := hide hV0
  have hmb : m < b := by omega
  have hxm : xa < m := by omega
  have hbn : b ≤ 1048576 := by omega
  obtain ⟨RS, hRS⟩ : ∃ R, X ++ V ++ U ++ Y = R := ⟨_, rfl⟩
  rw [hRS]
  have HRS := hide hRS
  clear h hlen hxa hm hb hn hU0 hV0 hRS
  go_enter Try.func54, Try.ntmps54
  go_wp2
  go_loopw [10, 11] (fun ix jx wr => ∃ (i j : Nat) (F P Q G : List Ed), 0 < i ∧ 0 < j ∧ ix = .int .i64 i ∧ jx = .int .i64 j ∧ P.length = i ∧ Q.length = j ∧ (X ++ F).length + i = m ∧ EdR wr D v (X ++ F ++ P ++ Q ++ G ++ Y) ∧ F ++ Q ++ P ++ G = V ++ U ∧ Wrs [D] w wr) (fun ix jx _ => (intOf ix).toNat + (intOf jx).toNat)
  case atStart =>
    have h1 := HM.out
    have h2 := HB.out
    have h3 := HXA.out
    refine ⟨m - xa, b - m, [], U, V, [], by omega, by omega, ?_, ?_, by omega, by omega, ?_, ?_, ?_, Wrs.refl _ _⟩
    · congr 1; omega
    · congr 1; omega
    · rw [List.append_nil]; omega
    · simpa using HE.out
    · simp
  case round =>
    obtain ⟨i, j, F, P, Q, G, hi0, hj0, rfl, rfl, hP, hQ, hXF, hr, heq, hw⟩ := hrel
    rename World => Z
    have HR := hide hr
    have HEQ := hide heq
    have HW := hide hw
    have HP := hide hP
    have HQ := hide hQ
    have HXF := hide hXF
    have HLL : Hid (F.length + Q.length + P.length + G.length = V.length + U.length) := by
      have := congrArg List.length heq
      simp only [List.length_append] at this
      show _ = _
      omega
    have him : i ≤ m := by omega
    have hjb : i + j ≤ 1048576 := by
      have h1 := HLL.out; have h2 := HNN.out; omega
    clear hr heq hw hP hQ hXF
    by_cases qe : i = j
    · subst qe
      have te : ((i : Int) != (i : Int)) = false := by simp
      go_wp2_with fail
      refine (swapRange_at v cf D (X ++ F) P [] Q (G ++ Y) _ _ _ Z (by have := HXF.out; omega) (by have := HXF.out; have := HP.out; simp only [List.length_nil]; omega) (by have := HP.out; omega) (HP.out.trans HQ.out.symm) (by have h1 := HLL.out; have h2 := HNN.out; simp only [List.length_append, List.length_nil]; omega) (by simpa using HR.out)).mono ?_
      rintro e w2 ⟨rfl, hr2, hw2⟩
      have HR2 : Hid (EdR w2 D v RS) := by
        show EdR _ _ _ _
        rw [← HRS.out]
        have e1 : X ++ F ++ Q ++ [] ++ P ++ (G ++ Y) = X ++ (F ++ Q ++ P ++ G) ++ Y := by simp
        rw [e1, HEQ.out] at hr2
        simpa using hr2
      have HW2 := hide (HW.out.trans hw2)
      clear hr2 hw2
      go_wp2
      go_end0
      exact ⟨rfl, HR2.out, HW2.out⟩
    have te : ((i : Int) != (j : Int)) = true := by rw [bne_iff_ne]; omega
    by_cases qg : j < i
    · have tg : decide ((j : Int) < (i : Int)) = true := decide_eq_true (by omega)
      have tg2 : decide (j < i) = true := decide_eq_true qg
      obtain ⟨P1, P2, hP12, hP1⟩ : ∃ P1 P2, P = P1 ++ P2 ∧ P1.length = j := ⟨P.take j, P.drop j, (List.take_append_drop _ _).symm, by rw [List.length_take]; have := HP.out; omega⟩
      have hP2 : P2.length = i - j := by have h1 := HP.out; rw [hP12, List.length_append] at h1; omega
      have HP12 := hide hP12
      have HP1 := hide hP1
      have HP2 := hide hP2
      clear hP12 hP1 hP2 qe
      go_wp2_with fail
      refine (swapRange_at v cf D (X ++ F) P1 P2 Q (G ++ Y) _ _ _ Z (by have := HXF.out; omega) (by have h1 := HXF.out; have h2 := HP1.out; have h3 := HP2.out; omega) (by have := HP1.out; omega) (HP1.out.trans HQ.out.symm) (by have h1 := HLL.out; have h2 := HNN.out; have h3 := HP1.out; have h4 := HP2.out; have h5 := HP.out; simp only [List.length_append]; omega) (by have := HR.out; rw [HP12.out] at this; simpa using this)).mono ?_
      rintro e w2 ⟨rfl, hr2, hw2⟩
      have HR2 : Hid (EdR w2 D v (X ++ (F ++ Q) ++ P2 ++ P1 ++ G ++ Y)) := by
        show EdR _ _ _ _
        simpa using hr2
      have HW2 := hide (HW.out.trans hw2)
      clear hr2 hw2
      go_wp2
      go_roundw
      case rel =>
        refine ⟨i - j, j, F ++ Q, P2, P1, G, by omega, hj0, ?_, rfl, HP2.out, HP1.out, ?_, HR2.out, ?_, HW2.out⟩
        · congr 1; omega
        · have h1 := HXF.out; have h2 := HQ.out; simp only [List.length_append] at h1 ⊢; omega
        · rw [← HEQ.out, HP12.out]; simp
      case measure => simp [intOf]; omega
    · have tg : decide ((j : Int) < (i : Int)) = false := decide_eq_false (by omega)
      have tg2 : decide (j < i) = false := decide_eq_false qg
      have hij : i < j := by omega
      obtain ⟨Q1, Q2, hQ12, hQ1⟩ : ∃ Q1 Q2, Q = Q1 ++ Q2 ∧ Q1.length = j - i := ⟨Q.take (j - i), Q.drop (j - i), (List.take_append_drop _ _).symm, by rw [List.length_take]; have := HQ.out; omega⟩
      have hQ2 : Q2.length = i := by have h1 := HQ.out; rw [hQ12, List.length_append] at h1; omega
      have HQ12 := hide hQ12
      have HQ1 := hide hQ1
      have HQ2 := hide hQ2
      clear hQ12 hQ1 hQ2 qe
      go_wp2_with fail
      refine (swapRange_at v cf D (X ++ F) P Q1 Q2 (G ++ Y) _ _ _ Z (by have := HXF.out; omega) (by have h1 := HXF.out; have h2 := HQ1.out; have h3 := HP.out; omega) (by have := HP.out; omega) (HP.out.trans HQ2.out.symm) (by have h1 := HLL.out; have h2 := HNN.out; have h3 := HQ1.out; have h4 := HQ2.out; have h5 := HQ.out; simp only [List.length_append]; omega) (by have := HR.out; rw [HQ12.out] at this; simpa using this)).mono ?_
      rintro e w2 ⟨rfl, hr2, hw2⟩
      have HR2 : Hid (EdR w2 D v (X ++ F ++ Q2 ++ Q1 ++ (P ++ G) ++ Y)) := by
        show EdR _ _ _ _
        simpa using hr2
      have HW2 := hide (HW.out.trans hw2)
      clear hr2 hw2
      go_wp2
      go_roundw
      case rel =>
        refine ⟨i, j - i, F, Q2, Q1, P ++ G, hi0, by omega, rfl, ?_, HQ2.out, HQ1.out, HXF.out, HR2.out, ?_, HW2.out⟩
        · congr 1; omega
        · rw [← HEQ.out, HQ12.out]; simp
      case measure => simp [intOf]; omega
end Go.Proofs.Ytochfhoaiekioaa

namespace Go.Proofs.Ytochfhoaiekioaa
open Go.RowKit

theorem key_rest {T G : Prop} (rest : Hid T → G) (key : T) : G := rest (hide key)
end Go.Proofs.Ytochfhoaiekioaa
