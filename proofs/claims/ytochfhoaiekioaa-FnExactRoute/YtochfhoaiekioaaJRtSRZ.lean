/-
  The walk of stableCmpFunc.
-/
import Derived.Test.YtochfhoaiekioaaJRtSRV
namespace Go.Proofs.Ytochfhoaiekioaa
open Go.RowKit

/-- A row is in order, what is alike as it stood. -/
def StbP (w w' : World) (D : Nat) (v : Value) (S : List Ed) : Prop := ∃ C, Stb S C ∧ EdR w' D v C ∧ Wrs [D] w w'

set_option maxHeartbeats 4000000 in
set_option maxRecDepth 1000000 in
theorem stable_any (v : Value) (D : Nat) (S : List Ed) (w : World) (hn : S.length ≤ 1048576) (h : EdR w D v S) :
    Calls Try.prog 51 #[v, .int .i64 S.length, cfV] w fun e w' => e = .returned (.tuple #[]) ∧ StbP w w' D v S := by
  have HE := hide h
  have HSY := hide (fun X A B Y a m b w' => sym_at v D X A B Y a m b w')
  have HIN := hide (fun X T Y a b w' => insSort_at v D X T Y a b w')
  generalize cfV = cf at HSY HIN ⊢
  obtain ⟨N, hN⟩ : ∃ N, S.length = N := ⟨_, rfl⟩
  have HN := hide hN
  rw [hN] at hn ⊢
  clear h hN
  go_enter Try.func51, Try.ntmps51
  go_wp2
  go_loopw [7, 8] (fun ax bx wr => ∃ (a b : Nat) (S1 S2 C1 : List Ed), ax = .int .i64 a ∧ bx = .int .i64 b ∧ a + 20 = b ∧ S1.length = a ∧ S = S1 ++ S2 ∧ Fb 20 S1 C1 ∧ EdR wr D v (C1 ++ S2) ∧ Wrs [D] w wr) (fun ax _ _ => N - (intOf ax).toNat)
  case atStart => exact ⟨0, 20, [], S, [], rfl, rfl, rfl, rfl, rfl, .nil, HE.out, Wrs.refl _ _⟩
  case round =>
    obtain ⟨a, b, S1, S2, C1, rfl, rfl, hab, hl1, hS, hF, hr, hw⟩ := hrel
    rename World => Z
    have HAB := hide hab
    have HL1 := hide hl1
    have HS := hide hS
    have HF := hide hF
    have HR := hide hr
    have HW := hide hw
    have LL : Hid (S1.length + S2.length = N ∧ C1.length = S1.length) := ⟨by rw [← HN.out, hS, List.length_append], hF.len⟩
    have haN : a ≤ N := by have := LL.out; omega
    clear hS hF hr hw hl1
    by_cases hbN : b ≤ N
    · have hbi : (b : Int) ≤ (N : Int) := by omega
      have tb : decide ((b : Int) ≤ (N : Int)) = true := decide_eq_true hbi
      have tb2 : decide (b ≤ N) = true := decide_eq_true hbN
      obtain ⟨T, R, hT, hTl⟩ : ∃ T R, S2 = T ++ R ∧ T.length = 20 := ⟨S2.take 20, S2.drop 20, (List.take_append_drop _ _).symm, by rw [List.length_take]; have := LL.out; have := HL1.out; have := HAB.out; omega⟩
      have HT := hide hT
      have HTL := hide hTl
      have LR : Hid (S2.length = T.length + R.length) := by show _ = _; rw [hT, List.length_append]
      clear hT hTl hab
      go_wp2_with fail
      refine (HIN.out C1 T R _ _ Z (by have := LL.out; have := LR.out; simp only [List.length_append]; omega) (by have := HR.out; rw [HT.out] at this; simpa using this) (by have := LL.out; have := HL1.out; omega) (by have := LL.out; have := HL1.out; have := HAB.out; have := HTL.out; omega)).mono ?_
      rintro e w2 ⟨rfl, C, hC, hr2, hw2⟩
      have HR2 : Hid (EdR w2 D v (C1 ++ C ++ R)) := hr2
      have HW2 := hide (HW.out.trans hw2)
      have HF2 : Hid (Fb 20 (S1 ++ T) (C1 ++ C)) := HF.out.snoc HTL.out hC
      have HS2 : Hid (S = S1 ++ T ++ R) := by show _ = _; rw [HS.out, HT.out]; simp
      clear hr2 hw2 hC
      go_wp2
      go_roundw
      case rel => exact ⟨b, b + 20, _, R, _, rfl, by first | rfl | (congr 1; done) | (congr 1; omega), rfl, by have := HL1.out; have := HAB.out; have := HTL.out; rw [List.length_append]; omega, HS2.out, HF2.out, HR2.out, HW2.out⟩
      case measure =>
        have := HAB.out
        simp [intOf]
        omega
    · have hbi : ¬ (b : Int) ≤ (N : Int) := by omega
      have tb : decide ((b : Int) ≤ (N : Int)) = false := decide_eq_false hbi
      have tb2 : decide (b ≤ N) = false := decide_eq_false hbN
      clear hab
      go_wp2_with fail
      refine (HIN.out C1 S2 [] _ _ Z (by have := LL.out; simp only [List.length_append, List.length_nil]; omega) (by simpa using HR.out) (by have := LL.out; have := HL1.out; omega) (by have := LL.out; have := HL1.out; omega)).mono ?_
      rintro e w2 ⟨rfl, C, hC, hr2, hw2⟩
      have HB0 : Hid (Bk 20 S (C1 ++ C)) := by
        have h1 := HF.out.bk (.last (by have := LL.out; have := HL1.out; have := HAB.out; omega) hC)
        rw [← HS.out] at h1
        exact h1
      have HR2 : Hid (EdR w2 D v (C1 ++ C)) := by show EdR _ _ _ _; simpa using hr2
      have HW2 := hide (HW.out.trans hw2)
      obtain ⟨C0, hC0⟩ : ∃ K, C1 ++ C = K := ⟨_, rfl⟩
      rw [hC0] at HB0 HR2
      clear hr2 hw2 hC hC0 HAB HL1 HS HF HR HW LL
      go_wp2
      go_loopw [6] (fun sx wr => ∃ (bs : Nat) (C : List Ed), sx = .int .i64 bs ∧ 0 < bs ∧ bs ≤ 2097152 ∧ Bk bs S C ∧ EdR wr D v C ∧ Wrs [D] w wr) (fun sx _ => N - (intOf sx).toNat)
      case atStart => exact ⟨20, C0, rfl, by omega, by omega, HB0.out, HR2.out, HW2.out⟩
      case round =>
        obtain ⟨bs, K, rfl, hbs0, hbs1, hB, hr, hw⟩ := hrel
        rename World => Y
        have HB := hide hB
        have HR3 := hide hr
        have HW3 := hide hw
        clear hB hr hw HR2 HW2 HB0
        by_cases hsn : bs < N
        · have hsi : (bs : Int) < (N : Int) := by omega
          obtain ⟨b2, hb2⟩ : ∃ q : Nat, 2 * (bs : Int) = (q : Int) := ⟨2 * bs, by omega⟩
          have HB2 : Hid (b2 = 2 * bs) := by show _ = _; omega
          have hb2b : b2 ≤ 2097152 := by omega
          have hb20 : 0 < b2 := by omega
          have hbb : bs ≤ 1048576 := by omega
          go_wp2
          go_loopw [7, 8] (fun ax bx wr => ∃ (a b : Nat) (S1 S2 C1 C2 : List Ed), ax = .int .i64 a ∧ bx = .int .i64 b ∧ a + b2 = b ∧ S1.length = a ∧ S = S1 ++ S2 ∧ Fb b2 S1 C1 ∧ Bk bs S2 C2 ∧ EdR wr D v (C1 ++ C2) ∧ Wrs [D] w wr) (fun ax _ _ => N - (intOf ax).toNat)
          case atStart => exact ⟨0, b2, [], S, [], K, rfl, rfl, by omega, rfl, rfl, .nil, HB.out, HR3.out, HW3.out⟩
          case round =>
            obtain ⟨a, b, S1, S2, C1, C2, rfl, rfl, hab, hl1, hS, hF, hB4, hr, hw⟩ := hrel
            rename World => V
            have HAB := hide hab
            have HL1 := hide hl1
            have HS := hide hS
            have HF := hide hF
            have HB4 := hide hB4
            have HR4 := hide hr
            have HW4 := hide hw
            have LL : Hid (S1.length + S2.length = N ∧ C1.length = S1.length ∧ C2.length = S2.length ∧ S1.length = a ∧ a + b2 = b ∧ b2 = 2 * bs ∧ N ≤ 1048576 ∧ 0 < bs) := ⟨by rw [← HN.out, hS, List.length_append], hF.len, hB4.len, hl1, hab, HB2.out, hn, hbs0⟩
            have haN : a ≤ N := by have := LL.out; omega
            have hbn : b ≤ 4000000 := by have := LL.out; omega
            obtain ⟨m, hm⟩ : ∃ q : Nat, (a : Int) + (bs : Int) = (q : Int) := ⟨a + bs, by omega⟩
            have HM : Hid (m = a + bs) := by show _ = _; omega
            clear hS hF hr hw hl1 hB4 hab HR3 HW3 HB
            by_cases hbN : b ≤ N
            · have hbi : (b : Int) ≤ (N : Int) := by omega
              have tb : decide ((b : Int) ≤ (N : Int)) = true := decide_eq_true hbi
              have tb2 : decide (b ≤ N) = true := decide_eq_true hbN
              obtain ⟨T1, D1, U2, E2, e1, e2, l1, s1, k1⟩ := HB4.out.first (by have := LL.out; omega)
              obtain ⟨T2, D2, U3, E3, e3, e4, l2, s2, k2⟩ := k1.first (by have h1 := LL.out; rw [e1, List.length_append] at h1; omega)
              have LR : Hid (S2.length = T1.length + T2.length + U3.length ∧ D1.length = T1.length ∧ D2.length = T2.length ∧ E3.length = U3.length ∧ T1.length = bs ∧ T2.length = bs) := ⟨by rw [e1, e3, List.length_append, List.length_append]; omega, s1.len, s2.len, k2.len, l1, l2⟩
              have HRR : Hid (EdR V D v (C1 ++ D1 ++ D2 ++ E3)) := by
                have h1 := HR4.out
                rw [e2, e4] at h1
                show EdR _ _ _ _
                simpa using h1
              have HSS : Hid (S = S1 ++ (T1 ++ T2) ++ U3) := by show _ = _; rw [HS.out, e1, e3]; simp
              have HS1 := hide s1
              have HS2 := hide s2
              have HK2 := hide k2
              clear e1 e2 e3 e4 l1 l2 s1 s2 k1 k2
              go_wp2_with fail
              refine (HSY.out C1 D1 D2 E3 _ _ _ V (by have := LL.out; have := LR.out; omega) (by have := LL.out; have := LR.out; omega) HS1.out.srt HS2.out.srt (by have := LL.out; have := LR.out; simp only [List.length_append]; omega) HRR.out (by have := LL.out; omega) (by have := LL.out; have := LR.out; have := HM.out; omega) (by have := LL.out; have := LR.out; omega)).mono ?_
              rintro e w5 ⟨rfl, C, hC, hr5, hw5⟩
              have HF5 : Hid (Fb b2 (S1 ++ (T1 ++ T2)) (C1 ++ C)) := HF.out.snoc (by have := LL.out; have := LR.out; rw [List.length_append]; omega) (Stb.merge HS1.out HS2.out hC)
              have HR5 : Hid (EdR w5 D v (C1 ++ C ++ E3)) := hr5
              have HW5 := hide (HW4.out.trans hw5)
              clear hC hr5 hw5
              go_wp2
              go_roundw
              case rel => exact ⟨b, b + b2, _, U3, _, E3, rfl, by first | rfl | (congr 1; done) | (congr 1; omega), rfl, by have := LL.out; have := LR.out; rw [List.length_append, List.length_append]; omega, HSS.out, HF5.out, HK2.out, HR5.out, HW5.out⟩
              case measure =>
                have := LL.out
                simp [intOf]
                omega
            · have hbi : ¬ (b : Int) ≤ (N : Int) := by omega
              have tb : decide ((b : Int) ≤ (N : Int)) = false := decide_eq_false hbi
              have tb2 : decide (b ≤ N) = false := decide_eq_false hbN
              by_cases hmN : m < N
              · have hmi : (m : Int) < (N : Int) := by omega
                have tm : decide ((m : Int) < (N : Int)) = true := decide_eq_true hmi
                have tm2 : decide (m < N) = true := decide_eq_true hmN
                obtain ⟨T1, D1, U2, E2, e1, e2, l1, s1, k1⟩ := HB4.out.first (by have := LL.out; have := HM.out; omega)
                have LR : Hid (S2.length = T1.length + U2.length ∧ D1.length = T1.length ∧ E2.length = U2.length ∧ T1.length = bs) := ⟨by rw [e1, List.length_append], s1.len, k1.len, l1⟩
                have s2 := k1.short (by have := LL.out; have := LR.out; omega)
                have HRR : Hid (EdR V D v (C1 ++ D1 ++ E2 ++ [])) := by
                  have h1 := HR4.out
                  rw [e2] at h1
                  show EdR _ _ _ _
                  simpa using h1
                have HSS : Hid (S = S1 ++ (T1 ++ U2)) := by show _ = _; rw [HS.out, e1]
                have HS1 := hide s1
                have HS2 := hide s2
                clear e1 e2 l1 s1 s2 k1
                go_wp2_with fail
                refine (HSY.out C1 D1 E2 [] _ _ _ V (by have := LL.out; have := LR.out; omega) (by have := LL.out; have := LR.out; have := HM.out; omega) HS1.out.srt HS2.out.srt (by have := LL.out; have := LR.out; simp only [List.length_append, List.length_nil]; omega) HRR.out (by have := LL.out; omega) (by have := LL.out; have := LR.out; have := HM.out; omega) (by have := LL.out; have := LR.out; omega)).mono ?_
                rintro e w5 ⟨rfl, C, hC, hr5, hw5⟩
                have HB5 : Hid (Bk b2 S (C1 ++ C)) := by
                  have h1 := HF.out.bk (.last (by have := LL.out; have := LR.out; rw [List.length_append]; omega) (Stb.merge HS1.out HS2.out hC))
                  rw [← HSS.out] at h1
                  exact h1
                have HR5 : Hid (EdR w5 D v (C1 ++ C)) := by show EdR _ _ _ _; simpa using hr5
                have HW5 := hide (HW4.out.trans hw5)
                clear hC hr5 hw5
                go_wp2
                go_roundw
                case rel => exact ⟨b2, _, by first | rfl | (congr 1; omega), hb20, hb2b, HB5.out, HR5.out, HW5.out⟩
                case measure =>
                  have := LL.out
                  simp [intOf]
                  omega
              · have hmi : ¬ (m : Int) < (N : Int) := by omega
                have tm : decide ((m : Int) < (N : Int)) = false := decide_eq_false hmi
                have tm2 : decide (m < N) = false := decide_eq_false hmN
                have HB5 : Hid (Bk b2 S (C1 ++ C2)) := by
                  have h1 := HF.out.bk (.last (by have := LL.out; have := HM.out; omega) (HB4.out.short (by have := LL.out; have := HM.out; omega)))
                  rw [← HS.out] at h1
                  exact h1
                go_wp2
                go_roundw
                case rel => exact ⟨b2, _, by first | rfl | (congr 1; omega), hb20, hb2b, HB5.out, HR4.out, HW4.out⟩
                case measure =>
                  have := LL.out
                  simp [intOf]
                  omega
        · have hsi : ¬ (bs : Int) < (N : Int) := by omega
          have HP : Hid (StbP w Y D v S) := ⟨K, HB.out.short (by have := HN.out; omega), HR3.out, HW3.out⟩
          go_wp2
          go_end0
          exact ⟨rfl, HP.out⟩
end Go.Proofs.Ytochfhoaiekioaa
