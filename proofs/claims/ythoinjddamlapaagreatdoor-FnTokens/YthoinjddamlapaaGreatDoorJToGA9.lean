/-
  spec.l9anySource: odd sources and programs; whole.
-/
import Derived.Test.YthoinjddamlapaaGreatDoorJToGA3
import Derived.Test.YthoinjddamlapaaGreatDoorJToGA7
import Derived.Test.YthoinjddamlapaaGreatDoorJToGPR
namespace Go.Proofs.YthoinjddamlapaaGreatDoor
open Go.RowKit

theorem gYk_rest {cs : ByteArray} {n k i : Nat} (h : k < 3 ∨ 8 < k) (h9 : k % 16 ≠ 9) : gYk cs n k i = gRest cs n k i := by
  unfold gYk
  rw [if_neg (by omega), if_neg (by omega), if_neg (by omega), if_neg (by omega), if_neg (by omega), if_neg (by omega), if_neg h9]
theorem gYk_odd {cs : ByteArray} {n k i : Nat} (_h : k < 3 ∨ 8 < k) (h9 : k % 16 = 9) : gYk cs n k i = (lst (odL.getD (nx cs n i % 36) ⟨#[]⟩), i + 1) := by
  unfold gYk
  rw [if_neg (by omega), if_neg (by omega), if_neg (by omega), if_neg (by omega), if_neg (by omega), if_neg (by omega), if_pos h9]
/-- What is drawn behind a call that left a reader. -/
theorem AnQ.behind {R : Nat} {a0 : Option Addr} {b off n cap : Nat} {cs : ByteArray} {q : List Nat × Nat} {w w1 w' : World} {r : Ending} (hg : Gw (· = R) w w1) (h : AnQ R a0 b off n cap cs q w1 r w') : AnQ R a0 b off n cap cs q w r w' := by
  obtain ⟨v', e, h1, h2, h3, h4, h5⟩ := h
  refine ⟨v', e, ?_, h2, h3, hg.then h4, h5⟩
  rcases h1 with ⟨g, c, e1, e2, e3, e4⟩ | e1
  · exact .inl ⟨g, c, e1, e2, Nat.le_trans hg.size e3, e4⟩
  · exact .inr e1
theorem spoil_nr {w : World} {R : Nat} {a0 : Option Addr} {b off n cap : Nat} {cs : ByteArray} {i : Nat} (hn : n ≤ 600) (h : RdAt w R a0 b off n cap cs i) {g c : Nat} {s : ByteArray} (hs : s.size ≤ 90000000) (hc : s.size ≤ c) (hgR : g ≠ R) (hl : ∀ j, j < s.size → w.cell? ⟨g, j, none⟩ = some (bts s j)) :
    Calls Tryz.prog 21 #[.slice (some ⟨g, 0, none⟩) s.size c, .pointer (some ⟨R, 0, none⟩)] w (AnQ R a0 b off n cap cs (splG (lst s) (nx cs n i), i + 1) w) := by
  have k := spoil_g w R a0 b off n cap cs i hn h g c (lst s) (by rw [lst_len]; omega) (by rw [lst_len]; exact hc) hgR (fun j hj => by rw [lst_len] at hj; rw [hl j hj, lst_bts _ hj])
  rw [lst_len] at k
  refine k.mono fun r w' ⟨v', e, h1, h2, h3⟩ => ?_
  have h4 := splG_le (lst s) (nx cs n i)
  rw [lst_len] at h4
  exact ⟨v', e, own_nr h1 (Nat.le_refl _), splG_lo (lst_lo _) _, by show (splG (lst s) (nx cs n i)).length ≤ _; omega, Gw.of_grown h2 (fun k hk _ => by injection hk with hk; exact hk.symm), h3⟩
set_option maxHeartbeats 4000000 in
set_option maxRecDepth 1000000 in
theorem any_9 (w : World) (R : Nat) (a0 : Option Addr) (b off n cap : Nat) (cs : ByteArray) (i : Nat) (hn : n ≤ 600) (h : RdAt w R a0 b off n cap cs i) (hk : nx cs n i < 3 ∨ 8 < nx cs n i) (h9 : nx cs n i % 16 = 9) :
    Calls Tryz.prog 9 #[.pointer (some ⟨R, 0, none⟩)] w (AnQ R a0 b off n cap cs (gY cs n i) w) := by
  have HN := hide (next_rd hn h)
  have hG : gY cs n i = (lst (odL.getD (nx cs n (i + 1) % 36) ⟨#[]⟩), i + 2) := gYk_odd hk h9
  rw [hG]
  obtain ⟨x, hx0⟩ : ∃ x, nx cs n i = x := ⟨_, rfl⟩
  rw [hx0] at HN hk h9
  have t3 : ((x : Int) == 3) = false := by rw [beq_eq_false_iff_ne]; omega
  have t4 : ((x : Int) == 4) = false := by rw [beq_eq_false_iff_ne]; omega
  have t5 : ((x : Int) == 5) = false := by rw [beq_eq_false_iff_ne]; omega
  have t6 : ((x : Int) == 6) = false := by rw [beq_eq_false_iff_ne]; omega
  have t7 : ((x : Int) == 7) = false := by rw [beq_eq_false_iff_ne]; omega
  have t8 : ((x : Int) == 8) = false := by rw [beq_eq_false_iff_ne]; omega
  have tm : (x : Int).tmod 16 = 9 := by rw [show (9 : Int) = ((9 : Nat) : Int) from rfl, ← h9]; rfl
  have HOD : Hid (∀ V, RdAt V R a0 b off n cap cs (i + 1) → Calls Tryz.prog 18 #[.pointer (some ⟨R, 0, none⟩)] V (SrQ R a0 b off n cap cs (odL.getD (nx cs n (i + 1) % 36) ⟨#[]⟩, i + 2) V)) := fun V hV => odd_any V R a0 b off n cap cs (i + 1) hn hV
  clear h hk hG hx0 h9
  go_enter Tryz.func9, Tryz.ntmps9
  go_wp2_with fail
  refine HN.out.mono ?_
  rintro r w1 ⟨rfl, hr1, hg1⟩
  have HW1 := hide hg1
  have HO1 := hide (HOD.out w1 hr1)
  clear hr1 hg1 HN
  go_wp2_with fail
  refine HO1.out.mono ?_
  intro r w2 hq
  have HF := hide (AnQ.behind HW1.out (sr_an hq))
  obtain ⟨g, c, rfl, _⟩ := hq
  clear HO1
  go_wp2
  go_ret
  exact HF.out
set_option maxHeartbeats 8000000 in
set_option maxRecDepth 1000000 in
theorem any_rest (w : World) (R : Nat) (a0 : Option Addr) (b off n cap : Nat) (cs : ByteArray) (i : Nat) (hn : n ≤ 600) (h : RdAt w R a0 b off n cap cs i) (hbR : 0 < n → b < R) (hk : nx cs n i < 3 ∨ 8 < nx cs n i) (h9 : nx cs n i % 16 ≠ 9) :
    Calls Tryz.prog 9 #[.pointer (some ⟨R, 0, none⟩)] w (AnQ R a0 b off n cap cs (gY cs n i) w) := by
  have HN := hide (next_rd hn h)
  have hG : gY cs n i = gRest cs n (nx cs n i) (i + 1) := gYk_rest hk h9
  rw [hG]
  have hR := h.lt
  obtain ⟨x, hx0⟩ : ∃ x, nx cs n i = x := ⟨_, rfl⟩
  rw [hx0] at HN hk h9 ⊢
  have t3 : ((x : Int) == 3) = false := by rw [beq_eq_false_iff_ne]; omega
  have t4 : ((x : Int) == 4) = false := by rw [beq_eq_false_iff_ne]; omega
  have t5 : ((x : Int) == 5) = false := by rw [beq_eq_false_iff_ne]; omega
  have t6 : ((x : Int) == 6) = false := by rw [beq_eq_false_iff_ne]; omega
  have t7 : ((x : Int) == 7) = false := by rw [beq_eq_false_iff_ne]; omega
  have t8 : ((x : Int) == 8) = false := by rw [beq_eq_false_iff_ne]; omega
  obtain ⟨m9, hm9⟩ : ∃ m, x % 16 = m := ⟨_, rfl⟩
  have tm : (x : Int).tmod 16 = (m9 : Int) := by rw [← hm9]; rfl
  have t9 : ((m9 : Int) == 9) = false := by rw [beq_eq_false_iff_ne]; omega
  obtain ⟨m5, hm5⟩ : ∃ m, x % 5 = m := ⟨_, rfl⟩
  have tm5 : (x : Int).tmod 5 = (m5 : Int) := by rw [← hm5]; rfl
  obtain ⟨m8, hm8⟩ : ∃ m, x % 8 = m := ⟨_, rfl⟩
  have tm8 : (x : Int).tmod 8 = (m8 : Int) := by rw [← hm8]; rfl
  obtain ⟨m32, hm32⟩ : ∃ m, x % 32 = m := ⟨_, rfl⟩
  have tm32 : (x : Int).tmod 32 = (m32 : Int) := by rw [← hm32]; rfl
  have HPR : Hid (∀ V, RdAt V R a0 b off n cap cs (i + 1) → Calls Tryz.prog 19 #[.pointer (some ⟨R, 0, none⟩)] V (SrQ R a0 b off n cap cs (gP cs n (i + 1)) V)) := fun V hV => program_any V R a0 b off n cap cs (i + 1) hn hV hbR
  have HGR : Hid (gRest cs n x (i + 1) = if m8 = 1 then (gM cs n (gBase cs n x (i + 1)).2 (lst (gBase cs n x (i + 1)).1), (gBase cs n x (i + 1)).2 + 4) else if m32 = 2 then (splG (lst (gBase cs n x (i + 1)).1) (nx cs n (gBase cs n x (i + 1)).2), (gBase cs n x (i + 1)).2 + 1) else (lst (gBase cs n x (i + 1)).1, (gBase cs n x (i + 1)).2)) := by show _ = _; unfold gRest; rw [hm8, hm32]
  have HGB : Hid (gBase cs n x (i + 1) = if m5 = 0 then (gKnown cs n (gP cs n (i + 1)).2, (gP cs n (i + 1)).2 + 3) else gP cs n (i + 1)) := by show _ = _; unfold gBase; rw [hm5]
  obtain ⟨q0, hq0⟩ : ∃ q, gP cs n (i + 1) = q := ⟨_, rfl⟩
  rw [hq0] at HPR HGB
  obtain ⟨q1, hq1⟩ : ∃ q, gBase cs n x (i + 1) = q := ⟨_, rfl⟩
  rw [hq1] at HGR HGB
  have HKN : Hid (∀ V, RdAt V R a0 b off n cap cs q0.2 → Calls Tryz.prog 20 #[.pointer (some ⟨R, 0, none⟩)] V (SrQ R a0 b off n cap cs (gKnown cs n q0.2, q0.2 + 3) V)) := fun V hV => known_any V R a0 b off n cap cs q0.2 hn hV
  have HR0 := hide hR
  have HHn := hide hn
  -- what is done behind the program
  have h5 : m5 = 0 ∨ m5 ≠ 0 := by omega
  have h8 : (m8 = 1) ∨ (m8 ≠ 1 ∧ m32 = 2) ∨ (m8 ≠ 1 ∧ m32 ≠ 2) := by omega
  have HN32 : Hid (m8 = 1 → m32 ≠ 2) := fun e => by omega
  clear h hk hG hx0 h9 hm9 hm5 hm8 hm32 hq0 hq1 hR hbR
  go_enter Tryz.func9, Tryz.ntmps9
  go_wp2_with fail
  refine HN.out.mono ?_
  rintro r w1 ⟨rfl, hr1, hg1⟩
  have HW1 := hide hg1
  have HP1 := hide (HPR.out w1 hr1)
  clear hr1 hg1 HN HPR
  go_wp2_with fail
  refine HP1.out.mono ?_
  rintro r w2 ⟨g2, c2, rfl, hqc, hqs, hgw, hcl, hg2, hr2⟩
  clear HP1
  rcases h5 with h5 | h5
  · have t5 : ((m5 : Int) == 0) = true := by rw [h5]; rfl
    have HK := hide (HKN.out w2 hr2)
    have HW2 := hide (HW1.out.then hg2)
    have HQ1 : Hid (q1 = (gKnown cs n q0.2, q0.2 + 3)) := by show _ = _; rw [HGB.out, if_pos h5]
    clear hr2 hg2 hcl h5 HKN hqc hqs hgw
    go_wp2_with fail
    refine HK.out.mono ?_
    rw [← HQ1.out]
    clear HQ1 HGB
    rintro r w3 ⟨g3, c3, rfl, hqc, hqs, hgw, hcl, hg3, hr3⟩
    have HW3 := hide (HW2.out.then hg3)
    have HGG : Hid (R < g3) := Nat.lt_of_lt_of_le HR0.out (Nat.le_trans HW2.out.size hgw)
    have HGw : Hid (w.heap.size ≤ g3) := Nat.le_trans HW2.out.size hgw
    clear hg3 hgw HK HW2
    rcases h8 with h8 | ⟨h8, h32⟩ | ⟨h8, h32⟩
    · have t8 : ((m8 : Int) == 1) = true := by rw [h8]; rfl
      have HGE : Hid (gRest cs n x (i + 1) = (gM cs n q1.2 (lst q1.1), q1.2 + 4)) := by show _ = _; rw [HGR.out, if_pos h8]
      have HM := hide (mut_nr hn hr3 (B := w.heap.size) (v := .slice (some ⟨g3, 0, none⟩) q1.1.size c3) (l := lst q1.1) (.inl ⟨g3, c3, by rw [lst_len], by rw [lst_len]; exact hqc, HGw.out, fun j hj => by rw [lst_len] at hj; rw [hcl j hj, lst_bts _ hj]⟩) HR0.out (by rw [lst_len]; omega))
      have HNO : Hid (m32 ≠ 2) := HN32.out h8
      have t32 : ((m32 : Int) == 2) = false := by have := HNO.out; rw [beq_eq_false_iff_ne]; omega
      have HQZ : Hid ((lst q1.1).length ≤ 90000005) := by show _ ≤ _; rw [lst_len]; omega
      clear hr3 hcl h8 hqs hqc
      go_wp2_with fail
      refine HM.out.mono ?_
      intro r w4 hq
      have HF := hide (AnQ.behind HW3.out (mu_an hq (lst_lo _) HQZ.out))
      rw [← HGE.out] at HF
      obtain ⟨v4, rfl, _⟩ := hq
      clear HM
      go_wp2
      go_ret
      exact HF.out
    · have t8 : ((m8 : Int) == 1) = false := by rw [beq_eq_false_iff_ne]; omega
      have t32 : ((m32 : Int) == 2) = true := by rw [h32]; rfl
      have HGE : Hid (gRest cs n x (i + 1) = (splG (lst q1.1) (nx cs n q1.2), q1.2 + 1)) := by show _ = _; rw [HGR.out, if_neg h8, if_pos h32]
      have HM := hide (spoil_nr hn hr3 hqs hqc (by have := HGG.out; omega) hcl)
      clear hr3 hcl h8 hqs hqc h32
      go_wp2_with fail
      refine HM.out.mono ?_
      intro r w4 hq
      have HF := hide (AnQ.behind HW3.out hq)
      rw [← HGE.out] at HF
      obtain ⟨v4, rfl, _⟩ := hq
      clear HM
      go_wp2
      go_ret
      exact HF.out
    · have t8 : ((m8 : Int) == 1) = false := by rw [beq_eq_false_iff_ne]; omega
      have t32 : ((m32 : Int) == 2) = false := by rw [beq_eq_false_iff_ne]; omega
      have HGE : Hid (gRest cs n x (i + 1) = (lst q1.1, q1.2)) := by show _ = _; rw [HGR.out, if_neg h8, if_neg h32]
      have HF : Hid (AnQ R a0 b off n cap cs (gRest cs n x (i + 1)) w (.returned (.slice (some ⟨g3, 0, none⟩) q1.1.size c3)) w3) := by
        show AnQ _ _ _ _ _ _ _ _ _ _ _
        rw [HGE.out]
        exact ⟨_, rfl, .inl ⟨g3, c3, by rw [lst_len], by rw [lst_len]; exact hqc, HGw.out, fun j hj => by rw [lst_len] at hj; rw [hcl j hj, lst_bts _ hj]⟩, lst_lo _, by show (lst q1.1).length ≤ _; rw [lst_len]; omega, HW3.out, hr3⟩
      clear hr3 hcl h8 hqs hqc h32
      go_wp2
      go_ret
      exact HF.out
  · have t5 : ((m5 : Int) == 0) = false := by rw [beq_eq_false_iff_ne]; omega
    have HW3 := hide (HW1.out.then hg2)
    have HQ1 : Hid (q1 = q0) := by show _ = _; rw [HGB.out, if_neg h5]
    have HGG : Hid (R < g2) := Nat.lt_of_lt_of_le HR0.out (Nat.le_trans HW1.out.size hgw)
    have HGw : Hid (w.heap.size ≤ g2) := Nat.le_trans HW1.out.size hgw
    have hr3 := hr2
    rw [← HQ1.out] at hqc hqs hcl hr3 ⊢
    clear hr2 hg2 HKN hgw h5 HQ1 HGB
    rcases h8 with h8 | ⟨h8, h32⟩ | ⟨h8, h32⟩
    · have t8 : ((m8 : Int) == 1) = true := by rw [h8]; rfl
      have HGE : Hid (gRest cs n x (i + 1) = (gM cs n q1.2 (lst q1.1), q1.2 + 4)) := by show _ = _; rw [HGR.out, if_pos h8]
      have HM := hide (mut_nr hn hr3 (B := w.heap.size) (v := .slice (some ⟨g2, 0, none⟩) q1.1.size c2) (l := lst q1.1) (.inl ⟨g2, c2, by rw [lst_len], by rw [lst_len]; exact hqc, HGw.out, fun j hj => by rw [lst_len] at hj; rw [hcl j hj, lst_bts _ hj]⟩) HR0.out (by rw [lst_len]; omega))
      have HNO : Hid (m32 ≠ 2) := HN32.out h8
      have t32 : ((m32 : Int) == 2) = false := by have := HNO.out; rw [beq_eq_false_iff_ne]; omega
      have HQZ : Hid ((lst q1.1).length ≤ 90000005) := by show _ ≤ _; rw [lst_len]; omega
      clear hr3 hcl h8 hqs hqc
      go_wp2_with fail
      refine HM.out.mono ?_
      intro r w4 hq
      have HF := hide (AnQ.behind HW3.out (mu_an hq (lst_lo _) HQZ.out))
      rw [← HGE.out] at HF
      obtain ⟨v4, rfl, _⟩ := hq
      clear HM
      go_wp2
      go_ret
      exact HF.out
    · have t8 : ((m8 : Int) == 1) = false := by rw [beq_eq_false_iff_ne]; omega
      have t32 : ((m32 : Int) == 2) = true := by rw [h32]; rfl
      have HGE : Hid (gRest cs n x (i + 1) = (splG (lst q1.1) (nx cs n q1.2), q1.2 + 1)) := by show _ = _; rw [HGR.out, if_neg h8, if_pos h32]
      have HM := hide (spoil_nr hn hr3 hqs hqc (by have := HGG.out; omega) hcl)
      clear hr3 hcl h8 hqs hqc h32
      go_wp2_with fail
      refine HM.out.mono ?_
      intro r w4 hq
      have HF := hide (AnQ.behind HW3.out hq)
      rw [← HGE.out] at HF
      obtain ⟨v4, rfl, _⟩ := hq
      clear HM
      go_wp2
      go_ret
      exact HF.out
    · have t8 : ((m8 : Int) == 1) = false := by rw [beq_eq_false_iff_ne]; omega
      have t32 : ((m32 : Int) == 2) = false := by rw [beq_eq_false_iff_ne]; omega
      have HGE : Hid (gRest cs n x (i + 1) = (lst q1.1, q1.2)) := by show _ = _; rw [HGR.out, if_neg h8, if_neg h32]
      have HF : Hid (AnQ R a0 b off n cap cs (gRest cs n x (i + 1)) w (.returned (.slice (some ⟨g2, 0, none⟩) q1.1.size c2)) w2) := by
        show AnQ _ _ _ _ _ _ _ _ _ _ _
        rw [HGE.out]
        exact ⟨_, rfl, .inl ⟨g2, c2, by rw [lst_len], by rw [lst_len]; exact hqc, HGw.out, fun j hj => by rw [lst_len] at hj; rw [hcl j hj, lst_bts _ hj]⟩, lst_lo _, by show (lst q1.1).length ≤ _; rw [lst_len]; omega, HW3.out, hr3⟩
      clear hr3 hcl h8 hqs hqc h32
      go_wp2
      go_ret
      exact HF.out
theorem any_any (w : World) (R : Nat) (a0 : Option Addr) (b off n cap : Nat) (cs : ByteArray) (i : Nat) (hn : n ≤ 600) (h : RdAt w R a0 b off n cap cs i) (hbR : 0 < n → b < R) :
    Calls Tryz.prog 9 #[.pointer (some ⟨R, 0, none⟩)] w (AnQ R a0 b off n cap cs (gY cs n i) w) := by
  have hc : nx cs n i = 3 ∨ nx cs n i = 4 ∨ nx cs n i = 5 ∨ nx cs n i = 6 ∨ nx cs n i = 7 ∨ nx cs n i = 8 ∨ (nx cs n i < 3 ∨ 8 < nx cs n i) := by omega
  rcases hc with q | q | q | q | q | q | q
  · exact any_3 w R a0 b off n cap cs i hn h q
  · exact any_4 w R a0 b off n cap cs i hn h q
  · exact any_5 w R a0 b off n cap cs i hn h q
  · exact any_6 w R a0 b off n cap cs i hn h q
  · exact any_7 w R a0 b off n cap cs i hn h q
  · exact any_8 w R a0 b off n cap cs i hn h q
  · by_cases h9 : nx cs n i % 16 = 9
    · exact any_9 w R a0 b off n cap cs i hn h q h9
    · exact any_rest w R a0 b off n cap cs i hn h hbR q h9
end Go.Proofs.YthoinjddamlapaaGreatDoor
