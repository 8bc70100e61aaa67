/-
  The walk of laws.FnTexts.
-/
import Derived.Test.YteojiblglbmmdaaGreatDoorJFTextsTX
namespace Go.Proofs.YteojiblglbmmdaaGreatDoor
open Go.RowKit

theorem lexGives_at {w w' : World} {e : Ending} {r : List (Nat × Nat × Nat) × Nat × Nat} {k n : Nat} (hr : r = ([(k, 0, n)], 0, 0)) (h : LexGives w w' e r) :
    ∃ g c, e = .returned (.tuple #[.slice (some ⟨g, 0, none⟩) 1 c, .int .i64 0, .int .i64 0]) ∧ w'.cell? ⟨g, 0, none⟩ = some (.int .i64 (k : Nat)) ∧ w'.cell? ⟨g, 2, none⟩ = some (.int .i64 (n : Nat)) ∧ w'.cell? ⟨g, 1, none⟩ = some (.int .i64 0) ∧ Below w.heap.size w w' := by
  subst hr
  obtain ⟨v', rfl, ho, hb⟩ := h
  have ho' : w'.ownsRow w.heap.size 33 3 v' 1 (tcv [(k, 0, n)]) := ho
  rcases ho'.2 with ⟨_, h0⟩ | ⟨g, c, cur, rfl, _⟩
  · omega
  · have hc := fun j hj => ho'.cellAt j hj
    exact ⟨g, c, rfl, hc 0 (by omega), hc 2 (by omega), hc 1 (by omega), hb⟩

theorem Holds.cells {w : World} {a : Option Addr} {c b : Nat} {s : ByteArray} (h : Holds w (.slice a s.size c) s) (ha : 0 < s.size → a = some ⟨b, 0, none⟩) : ∀ j, j < s.size → w.cell? ⟨b, j, none⟩ = some (bts s j) := fun j hj => by
  obtain ⟨a', b', c', he, ha', hc⟩ := h.view
  injection he with h1 h2 h3
  have e := (ha (by omega)).symm.trans (h1.trans (ha' (by omega)))
  injection e with e
  injection e with e1
  subst e1
  exact hc j hj

set_option maxHeartbeats 400000 in
set_option maxRecDepth 1000000 in
theorem law_big1 (a0 a1 : Option Addr) (len cap len1 cap1 : Nat) (w : World) (h : 1048576 < (len : Int)) :
    Calls Tryz.prog 3 #[.slice a0 len cap, .slice a1 len1 cap1] w fun e w' => e = .returned (.bool true) ∧ Below w.heap.size w w' := by
  go_enter Tryz.func3, Tryz.ntmps3
  go_wp2
  go_ret
  exact ⟨rfl, Below.refl _ _⟩
set_option maxHeartbeats 400000 in
set_option maxRecDepth 1000000 in
theorem law_big2 (a0 a1 : Option Addr) (len cap len1 cap1 : Nat) (w : World) (h0 : ¬ 1048576 < (len : Int)) (h : 1048576 < (len1 : Int)) :
    Calls Tryz.prog 3 #[.slice a0 len cap, .slice a1 len1 cap1] w fun e w' => e = .returned (.bool true) ∧ Below w.heap.size w w' := by
  go_enter Tryz.func3, Tryz.ntmps3
  go_wp2
  go_ret
  exact ⟨rfl, Below.refl _ _⟩

set_option maxHeartbeats 4000000 in
set_option maxRecDepth 1000000 in
theorem law_small (a0 a1 : Option Addr) (b off cap b1 o1 cap1 : Nat) (cs ms : ByteArray) (w : World) (hs : cs.size ≤ 1048576) (hms : ms.size ≤ 1048576) (hcap : cs.size ≤ cap) (m : Int) (te1 te2 : TypeId) (pe1 pe2 : Value) (hlib : LibOk w m te1 te2 pe1 pe2)
    (hdb : w.cell? ⟨7, 15, none⟩ = some (.int .u8 4))
    (ha : 0 < cs.size → a0 = some ⟨b, off, none⟩) (hc : ∀ j, j < cs.size → w.cell? ⟨b, off + j, none⟩ = some (bts cs j))
    (ha1 : 0 < ms.size → a1 = some ⟨b1, o1, none⟩) (hc1 : ∀ j, j < ms.size → w.cell? ⟨b1, o1 + j, none⟩ = some (bts ms j)) :
    Calls Tryz.prog 3 #[.slice a0 cs.size cap, .slice a1 ms.size cap1] w fun e w' => e = .returned (.bool true) ∧ Below w.heap.size w w' := by
  have HDRAW : Hid (∀ w', Below w.heap.size w w' → Calls Tryz.prog 4 #[.slice a0 cs.size cap] w' fun e w'' => ∃ v', e = .returned v' ∧ Holds w'' v' (mkB (dct cs (min cs.size 600))) ∧ Below w'.heap.size w' w'') := fun w' hb =>
    drawn w' a0 b off cap cs hs hcap ha (fun j hj => by rw [hb.cell (p := ⟨b, off + j, none⟩) (World.block_lt_of_cell? _ _ (hc j hj))]; exact hc j hj)
  have HTAKE : Hid (∀ w' (i : Nat), Below w.heap.size w w' → Calls Tryz.prog 11 #[.slice a1 ms.size cap1, .int .i64 i] w' fun e w'' => ∃ t : Nat, t < 256 ∧ e = .returned (.int .i64 t) ∧ Below w'.heap.size w' w'') := fun w' i hb =>
    take_any w' a1 b1 o1 cap1 ms i hms ha1 (fun j hj => by rw [hb.cell (p := ⟨b1, o1 + j, none⟩) (World.block_lt_of_cell? _ _ (hc1 j hj))]; exact hc1 j hj)
  have HLIB : Hid (∀ w', Below w.heap.size w w' → LibOk w' m te1 te2 pe1 pe2) := fun w' hb => hlib.below hb
  have HDB : Hid (∀ w', Below w.heap.size w w' → w'.cell? ⟨7, 15, none⟩ = some (.int .u8 4)) := fun w' hb => by
    rw [hb.cell (p := ⟨7, 15, none⟩) (World.block_lt_of_cell? _ _ hdb)]; exact hdb
  have hsz : (mkB (dct cs (min cs.size 600))).size ≤ 44 := by rw [mkB_size]; exact dct_le _ _
  obtain ⟨S, hS⟩ : ∃ S, mkB (dct cs (min cs.size 600)) = S := ⟨_, rfl⟩
  rw [hS] at HDRAW hsz
  have hlt0 : ((cs.size : Int) > 1048576) = False := by simp; omega
  have hlt1 : ((ms.size : Int) > 1048576) = False := by simp; omega
  obtain ⟨A, D, hAD⟩ : ∃ A D, chk S = (A, D) := ⟨_, _, rfl⟩
  have HAD := hide hAD
  have hAA : ((A : Int) != (A : Int)) = false := by simp
  have hDD : ((D : Int) != (D : Int)) = false := by simp
  clear hlib hdb ha hc ha1 hc1 hS hAD
  go_enter Tryz.func3, Tryz.ntmps3
  -- the text
  go_wp2_with fail
  refine (HDRAW.out w (Below.refl _ _)).mono ?_
  rintro e w1 ⟨v1, rfl, hh1, hb1⟩
  obtain ⟨aS, bS, cS, rfl, haS, _⟩ := hh1.view
  have HH1 := hide hh1
  have HB1 := hide hb1
  have HAS := hide haS
  clear hh1 hb1 haS
  go_wp2_with fail
  refine (specCheck_h HH1.out (by omega)).mono ?_
  rintro e w2 ⟨rfl, hb2⟩
  rw [pairVal_of HAD.out]
  have HH2 := hide (HH1.out.below hb2)
  have HB2 : Hid (Below w.heap.size w w2) := HB1.out.trans (hb2.mono HB1.out.size)
  clear hb2 HH1 HB1
  -- CheckText
  go_wp2_with fail
  refine (HDRAW.out w2 HB2.out).mono ?_
  rintro e w3 ⟨v3, rfl, hh3, hb3⟩
  have HH3 := hide hh3
  have HS3 := hide (HH2.out.below hb3)
  have HB3 : Hid (Below w.heap.size w w3) := HB2.out.trans (hb3.mono HB2.out.size)
  clear hh3 hb3 HH2 HB2
  go_wp2_with fail
  refine (implCheck_h HH3.out (by omega) (HLIB.out w3 HB3.out).tabs).mono ?_
  rintro e w4 ⟨rfl, hb4⟩
  rw [pairVal_of HAD.out]
  have HS4 := hide (HS3.out.below hb4)
  have HB4 : Hid (Below w.heap.size w w4) := HB3.out.trans (hb4.mono HB3.out.size)
  clear hb4 HS3 HB3 HH3
  -- QuoteText
  go_wp2_with fail
  refine (HDRAW.out w4 HB4.out).mono ?_
  rintro e w5 ⟨v5, rfl, hh5, hb5⟩
  have HH5 := hide hh5
  have HS5 := hide (HS4.out.below hb5)
  have HB5 : Hid (Below w.heap.size w w5) := HB4.out.trans (hb5.mono HB4.out.size)
  clear hh5 hb5 HS4 HB4
  go_wp2_with fail
  refine (implQuote_h HH5.out (by omega) (HLIB.out w5 HB5.out).tabs (HDB.out w5 HB5.out)).mono ?_
  rintro e w6 ⟨v6, rfl, ho6, hb6⟩
  have HS6 := hide (HS5.out.below hb6)
  have HB6 : Hid (Below w.heap.size w w6) := HB5.out.trans (hb6.mono HB5.out.size)
  clear hb6 HS5 HB5 HH5
  by_cases hA : A = 0
  case' pos =>
    have hg0 : (chk S).1 = 0 := by rw [HAD.out]; exact hA
    obtain ⟨Q, hQz, hQ2, hQ6, hQg, hQX⟩ := quoted_is hg0 (by omega)
    have hunq := unq_back hQX hg0
    have hlex := lexed_back hQX hg0 (by omega)
    have hold6 : Holds w6 v6 Q := own_holds ho6 hQz hQg
    obtain ⟨g6, c6, rfl, _, hcell6⟩ : ∃ g c, v6 = .slice (some ⟨g, 0, none⟩) Q.size c ∧ Q.size ≤ c ∧ ∀ j, j < Q.size → w6.cell? ⟨g, 0 + j, none⟩ = some (bts Q j) := by
      rcases hold6 with ⟨_, e⟩ | h
      · rw [e] at hQ2; exact absurd hQ2 (by decide)
      · exact h
    have HC6 := hide hcell6
    have hAb : ((A : Int) == 0) = true := by rw [beq_iff_eq]; omega
    have HUNQ := hide hunq
    have HLEX := hide hlex
    clear hunq hlex hold6 hcell6 hQX hQg hQz ho6 hg0 hA
    go_wp2_with fail
    refine (implUnq_any g6 0 c6 Q w6 m te1 pe1 (by omega) (HLIB.out w6 HB6.out).tabs (HLIB.out w6 HB6.out).max (HLIB.out w6 HB6.out).syn HC6.out).mono ?_
    rintro e w7 ⟨v7, rfl, ho7, hb7⟩
    rw [HUNQ.out] at ho7 ⊢
    have HH7 := hide (bys_own ho7)
    have HS7 := hide (HS6.out.below hb7)
    have HB7 : Hid (Below w.heap.size w w7) := HB6.out.trans (hb7.mono HB6.out.size)
    have HC7 : Hid (∀ j, j < Q.size → w7.cell? ⟨g6, 0 + j, none⟩ = some (bts Q j)) := fun j hj => by
      rw [hb7.cell (p := ⟨g6, 0 + j, none⟩) (World.block_lt_of_cell? _ _ (HC6.out j hj))]; exact HC6.out j hj
    clear hb7 ho7 HC6 HS6 HB6
    go_wp2_with fail
    refine (implLex_any g6 0 c6 Q w7 m te1 te2 pe1 pe2 (HLIB.out w7 HB7.out) HC7.out).mono ?_
    intro e w8 hgv
    obtain ⟨g8, c8, rfl, hk8, hn8, hz8, hb8⟩ := lexGives_at HLEX.out hgv
    have HH8 := hide (HH7.out.below hb8)
    have HS8 := hide (HS7.out.below hb8)
    have HB8 : Hid (Below w.heap.size w w8) := HB7.out.trans (hb8.mono HB7.out.size)
    have HK8 := hide hk8
    have HN8 := hide hn8
    have HZ8 := hide hz8
    clear hb8 hk8 hn8 hz8 hgv HC7 HS7 HB7 HH7
    go_wp2_with fail
    refine (sameB_any (by omega) HH8.out HS8.out).mono ?_
    rintro e wt ⟨rfl, hbt⟩
    have HST := hide (HS8.out.below hbt)
    have HBT : Hid (Below w.heap.size w wt) := HB8.out.trans (hbt.mono HB8.out.size)
    have k0 : wt.cell? ⟨g8, 0, none⟩ = some (.int .i64 4) := by
      rw [hbt.cell (p := ⟨g8, 0, none⟩) (World.block_lt_of_cell? _ _ HK8.out)]; exact HK8.out
    have k2 : wt.cell? ⟨g8, 2, none⟩ = some (.int .i64 (Q.size : Nat)) := by
      rw [hbt.cell (p := ⟨g8, 2, none⟩) (World.block_lt_of_cell? _ _ HN8.out)]; exact HN8.out
    have k1 : wt.cell? ⟨g8, 1, none⟩ = some (.int .i64 0) := by
      rw [hbt.cell (p := ⟨g8, 1, none⟩) (World.block_lt_of_cell? _ _ HZ8.out)]; exact HZ8.out
    have hQQ : ((Q.size : Int) != (Q.size : Int)) = false := by simp
    clear hbt HK8 HN8 HZ8 HS8 HB8 HH8
    go_wp2_with fail
  case' neg =>
    have hq0 : quoted S = [] := by unfold quoted; rw [if_neg (by rw [HAD.out]; exact hA)]
    rw [hq0] at ho6
    obtain ⟨a6, c6, rfl⟩ : ∃ a c, v6 = .slice a 0 c := by
      rcases own_cases ho6 with ⟨h, _⟩ | ⟨g, c, h, _⟩
      · exact ⟨_, _, h⟩
      · exact ⟨_, _, h⟩
    have hAb : ((A : Int) == 0) = false := by rw [beq_eq_false_iff_ne]; omega
    obtain ⟨wt, hwt⟩ : ∃ wt, w6 = wt := ⟨_, rfl⟩
    rw [hwt] at HS6 HB6 ⊢
    have HST := hide HS6.out
    have HBT := hide HB6.out
    clear hq0 ho6 hA hwt HS6 HB6
    go_wp2_with fail
  -- the two places
  all_goals
    refine (HTAKE.out wt 0 HBT.out).mono ?_
    rintro e x1 ⟨t0, ht0, rfl, hx1⟩
    have HSX := hide (HST.out.below hx1)
    have HBX : Hid (Below w.heap.size w x1) := HBT.out.trans (hx1.mono HBT.out.size)
    have hlz : ((S.size : Int) + 1 == 0) = false := by rw [beq_eq_false_iff_ne]; omega
    obtain ⟨i0, hi0⟩ : ∃ i0, t0 % (S.size + 1) = i0 := ⟨_, rfl⟩
    have hi0l : i0 ≤ S.size := by have := Nat.mod_lt t0 (show 0 < S.size + 1 by omega); omega
    have hm0 : (t0 : Int).tmod ((S.size : Int) + 1) = (i0 : Int) := by rw [← hi0]; exact (Int.ofNat_tmod t0 (S.size + 1)).symm
    clear hx1 hi0 HST HBT
    go_wp2_with fail
    refine (HTAKE.out x1 1 HBX.out).mono ?_
    rintro e x2 ⟨t1, ht1, rfl, hx2⟩
    have HSY := hide (HSX.out.below hx2)
    have HBY : Hid (Below w.heap.size w x2) := HBX.out.trans (hx2.mono HBX.out.size)
    obtain ⟨j0, hj0⟩ : ∃ j0, t1 % (S.size + 1) = j0 := ⟨_, rfl⟩
    have hj0l : j0 ≤ S.size := by have := Nat.mod_lt t1 (show 0 < S.size + 1 by omega); omega
    have hm1 : (t1 : Int).tmod ((S.size : Int) + 1) = (j0 : Int) := by rw [← hj0]; exact (Int.ofNat_tmod t1 (S.size + 1)).symm
    clear hx2 hj0 HSX HBX
    obtain ⟨I, J, hIJ, hJS, hcase⟩ : ∃ I J, I ≤ J ∧ J ≤ S.size ∧ ((I = i0 ∧ J = j0 ∧ decide (j0 < i0) = false) ∨ (J = i0 ∧ I = j0 ∧ decide (j0 < i0) = true)) := by
      by_cases h : j0 < i0
      · exact ⟨j0, i0, by omega, hi0l, .inr ⟨rfl, rfl, decide_eq_true (by omega)⟩⟩
      · exact ⟨i0, j0, by omega, hj0l, .inl ⟨rfl, rfl, decide_eq_false (by omega)⟩⟩
    rcases hcase with ⟨rfl, rfl, hsw⟩ | ⟨rfl, rfl, hsw⟩
  all_goals
    obtain ⟨st1, c1, hP1⟩ := pos_ex S I (by omega)
    obtain ⟨st2, c2, hP2⟩ := pos_ex S J (by omega)
    have hone := hP1.one
    have hcl1 := hP1.c_le
    have hcl := hP2.c_le
    have hgrow := hP1.grows hP2 hIJ
    have hcm := cntLF_mono' S hIJ
    have hcI := cntLF_le S I
    have hcJ := cntLF_le S J
    have HP1 := hide hP1
    have HP2 := hide hP2
    clear hP1 hP2
    obtain ⟨A2, hA2⟩ : ∃ A2, 1 + cntLF S J = A2 := ⟨_, rfl⟩
    obtain ⟨A1, hA1⟩ : ∃ A1, 1 + cntLF S I = A1 := ⟨_, rfl⟩
    have HGR : Hid (A1 = A2 → c1 ≤ c2) := fun h => hgrow (by omega)
    have hA12 : A1 ≤ A2 := by omega
    have HA1 := hide hA1
    have HA2 := hide hA2
    clear hgrow hcm hA1 hA2
    go_wp2_with fail
    refine (implPos_h HSY.out (by omega) (by omega) HP1.out).mono ?_
    rintro e x3 ⟨rfl, hx3⟩
    rw [HA1.out]
    have HS3 := hide (HSY.out.below hx3)
    have HB3 : Hid (Below w.heap.size w x3) := HBY.out.trans (hx3.mono HBY.out.size)
    clear hx3 HSY HBY
    go_wp2_with fail
    refine (implPos_h HS3.out (by omega) (by omega) HP2.out).mono ?_
    rintro e x4 ⟨rfl, hx4⟩
    rw [HA2.out]
    have HS4 := hide (HS3.out.below hx4)
    have HB4 : Hid (Below w.heap.size w x4) := HB3.out.trans (hx4.mono HB3.out.size)
    have HCS := hide (HS4.out.cells HAS.out)
    clear hx4 HS3 HB3 HS4
    go_wp2_with fail
  all_goals
    go_loopw [23, 24] (fun ln ix wr => ∃ k : Nat, k ≤ I ∧ ln = .int .i64 (1 + cntLF S k : Nat) ∧ ix = .int .i64 k ∧ wr = x4) (fun _ ix _ => I - (intOf ix).toNat)
    case atStart => exact ⟨0, Nat.zero_le _, rfl, rfl, rfl⟩
    case round =>
      obtain ⟨k, hk, rfl, rfl, rfl⟩ := hrel
      have hcK := cntLF_le S k
      by_cases hlt : k < I
      · obtain rfl := HAS.out (by omega)
        have g : wr.cell? ⟨bS, k, none⟩ = some (.int .u8 ((S.get! k).toNat : Int)) := HCS.out k (by omega)
        have hcs : cntLF S (k + 1) = cntLF S k + if (S.get! k).toNat = 10 then 1 else 0 := rfl
        have hy := (S.get! k).toNat_lt
        obtain ⟨y, hy'⟩ : ∃ y : Nat, (S.get! k).toNat = y := ⟨_, rfl⟩
        rw [hy'] at g hcs hy
        obtain ⟨n, hn⟩ : ∃ n, cntLF S k = n := ⟨_, rfl⟩
        rw [hn] at hcs hcK
        rw [hn]
        have d1 : decide ((k : Int) < (I : Int)) = true := decide_eq_true (by omega)
        have hkS : (k : Int) < (S.size : Int) := by omega
        clear hy' hn
        by_cases h10 : y = 10
        · subst h10
          have HCN : Hid (cntLF S (k + 1) = n + 1) := hcs
          clear hcs
          go_wp2
          go_roundw
          case rel => exact ⟨k + 1, by omega, by rw [HCN.out]; go_num, by go_num, by trivial⟩
          case measure => simp [intOf]; omega
        · have HCN : Hid (cntLF S (k + 1) = n) := by show _ = _; rw [hcs, if_neg h10, Nat.add_zero]
          have hyb : ((y : Int) == 10) = false := by rw [beq_eq_false_iff_ne]; omega
          clear hcs h10
          go_wp2
          go_roundw
          case rel => exact ⟨k + 1, by omega, by rw [HCN.out], by go_num, by trivial⟩
          case measure => simp [intOf]; omega
      · have e : k = I := by omega
        subst e
        rw [HA1.out]
        have d1 : decide ((k : Int) < (k : Int)) = false := decide_eq_false (by omega)
        have e1 : ((A1 : Int) == (A1 : Int)) = true := by simp
        have e2 : decide ((1 : Int) ≤ (c1 : Int)) = true := decide_eq_true (by omega)
        have e4 : decide ((c2 : Int) ≤ (S.size : Int) + 1) = true := decide_eq_true (by omega)
        by_cases h12 : A1 < A2
        · have e3 : decide ((A1 : Int) < (A2 : Int)) = true := decide_eq_true (by omega)
          go_wp2
          go_ret
          exact ⟨rfl, HB4.out⟩
        · have h12' : A2 = A1 := by omega
          subst h12'
          have e3 : decide ((A2 : Int) < (A2 : Int)) = false := decide_eq_false (by omega)
          have h5 : c1 ≤ c2 := HGR.out rfl
          have e5 : decide ((c1 : Int) ≤ (c2 : Int)) = true := decide_eq_true (by omega)
          go_wp2
          go_ret
          exact ⟨rfl, HB4.out⟩
end Go.Proofs.YteojiblglbmmdaaGreatDoor
