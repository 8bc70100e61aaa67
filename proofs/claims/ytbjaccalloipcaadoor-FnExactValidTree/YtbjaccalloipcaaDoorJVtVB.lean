/-
  The walk of branchEnd.
-/
import Derived.Test.YtbjaccalloipcaaDoorJVtVF5
import Derived.Test.YtbjaccalloipcaaDoorJVtVK3
import Derived.Test.YtbjaccalloipcaaDoorJVtVE
namespace Go.Proofs.YtbjaccalloipcaaDoor
open Go.RowKit

/-- Whether a node is well made by itself. -/
def okN (L : List Nd) (i : Nat) : Bool := vFd (L.getD i .zero) && vCnt (L.getD i .zero).kind (L.getD i .zero).count
/-- Whether a node may stand below another one, at a number. -/
def stN (L : List Nd) (p k i : Nat) : Bool := mSt (L.getD p .zero).kind k (L.getD i .zero).kind

theorem vCnt_nn {k c : Int} (h : vCnt k c = true) : 0 ≤ c := by
  rcases kinds k with g | g
  · rcases g with rfl | rfl | rfl | rfl | rfl | rfl | rfl | rfl | rfl | rfl | rfl | rfl | rfl | rfl | rfl | rfl | rfl | rfl | rfl | rfl | rfl | rfl | rfl
    all_goals simp [vCnt] at h; omega
  · rw [vCnt_none k c g] at h; cases h

theorem bE_le {L : List Nd} {f i e : Nat} (hf : f ≤ 60) (hi : i < L.length) (he : e ≠ 0) (h : bE L.length (cn L) (okN L) (stN L) f i = e) : e ≤ L.length ∧ i < e := by
  have hok : ∀ i, okN L i = true → 0 ≤ cn L i := fun i h => by
    unfold okN at h
    rw [Bool.and_eq_true] at h
    exact vCnt_nn h.2
  have hB := sE_br _ _ _ _ _ ((bE_sE hok f hf i e hi he).1 h).1
  exact ⟨hB.le, hB.lt⟩

set_option maxHeartbeats 4000000 in
set_option maxRecDepth 1000000 in
theorem branchEnd_any (v : Value) (L : List Nd) (hl : L.length ≤ 1048576) (hz : ∀ j, j < L.length → NB (L.getD j .zero)) : ∀ f : Nat, f ≤ 60 → ∀ D : Int, D = 61 - f → ∀ (i : Nat) (w : World), i < L.length → NS w v L → Lib.Utf8Tabs 0 1 w →
    Calls Tryd.prog 13 #[v, .int .i64 i, .int .i64 D] w fun e w' => e = .returned (.int .i64 (bE L.length (cn L) (okN L) (stN L) f i : Nat)) ∧ Below w.heap.size w w' := by
  intro f
  induction f with
  | zero =>
    intro _ D hD i w hi h hT
    obtain rfl : D = 61 := by omega
    obtain ⟨a, b, o, c, rfl, ha, hc⟩ := h
    obtain rfl := ha (by omega)
    obtain ⟨vt, vn, vy, hN, hV⟩ := hc i hi
    have g0 := hN.kind
    have g1 := hN.n
    have g2 := hN.text
    have g3 := hN.names
    have g4 := hN.types
    have g5 := hN.count
    clear hc ha hN hT hD
    have HR : Hid (bE L.length (cn L) (okN L) (stN L) 0 i = 0) := rfl
    obtain ⟨d, hd⟩ : ∃ d, L.getD i .zero = d := ⟨_, rfl⟩
    rw [hd] at g0 g1 g5 hV
    obtain ⟨at_, ct, hvt⟩ : ∃ a c, vt = .slice a d.text.size c := by obtain ⟨a, _, _, c, h, _⟩ := hV.text; exact ⟨a, c, h⟩
    obtain ⟨an, cn', hvn⟩ : ∃ a c, vn = .slice a d.names.length c := by obtain ⟨a, _, _, c, h, _⟩ := hV.names; exact ⟨a, c, h⟩
    obtain ⟨ay, cy, hvy⟩ : ∃ a c, vy = .slice a d.types.length c := by obtain ⟨a, _, _, c, h, _⟩ := hV.types; exact ⟨a, c, h⟩
    subst hvt hvn hvy
    clear hd hV
    go_enter Tryd.func13, Tryd.ntmps13
    go_wp2
    go_ret
    exact ⟨by rw [HR.out]; rfl, (Below.refl _ _).alloc (Nat.le_refl _) _⟩
  | succ f ih =>
    intro hf D hD i w hi h hT
    have HIH := hide (ih (by omega))
    have HNS := hide h
    have HT := hide hT
    have HBL := hide (fun p e => bE_le (L := L) (f := f) (i := p) (e := e) (by omega))
    obtain ⟨a, b, o, c, rfl, ha, hc⟩ := h
    obtain rfl := ha (by omega)
    have HCK : Hid (∀ j, j < L.length → w.cell? ⟨b, o + j * 6, none⟩ = some (.int .i64 (L.getD j .zero).kind)) := fun j hj => by
      obtain ⟨_, _, _, hN, _⟩ := hc j hj
      exact hN.kind
    obtain ⟨vt, vn, vy, hN, hV⟩ := hc i hi
    have HZ := hz i hi
    have g0 := hN.kind
    have g1 := hN.n
    have g2 := hN.text
    have g3 := hN.names
    have g4 := hN.types
    have g5 := hN.count
    clear hc ha hN hT ih
    have HR : Hid (bE L.length (cn L) (okN L) (stN L) (f + 1) i = if okN L i = true then bLoop L.length (stN L) (bE L.length (cn L) (okN L) (stN L) f) i (cn L i).toNat 0 (i + 1) else 0) := rfl
    have HOK : Hid (okN L i = (vFd (L.getD i .zero) && vCnt (L.getD i .zero).kind (L.getD i .zero).count)) := rfl
    have HST : Hid (∀ k j, stN L i k j = mSt (L.getD i .zero).kind k (L.getD j .zero).kind) := fun _ _ => rfl
    have HCN : Hid (cn L i = (L.getD i .zero).count) := rfl
    obtain ⟨d, hd⟩ : ∃ d, L.getD i .zero = d := ⟨_, rfl⟩
    rw [hd] at g0 g1 g5 hV HZ HOK HCN
    simp only [hd] at HST
    obtain ⟨at_, ct, hvt⟩ : ∃ a c, vt = .slice a d.text.size c := by obtain ⟨a, _, _, c, h, _⟩ := hV.text; exact ⟨a, c, h⟩
    obtain ⟨an, cn', hvn⟩ : ∃ a c, vn = .slice a d.names.length c := by obtain ⟨a, _, _, c, h, _⟩ := hV.names; exact ⟨a, c, h⟩
    obtain ⟨ay, cy, hvy⟩ : ∃ a c, vy = .slice a d.types.length c := by obtain ⟨a, _, _, c, h, _⟩ := hV.types; exact ⟨a, c, h⟩
    subst hvt hvn hvy
    clear hd
    obtain ⟨W1, hW1⟩ : ∃ W1, w.alloc (.cells #[.int .i64 d.kind, .int .i64 d.n, .slice at_ d.text.size ct, .slice an d.names.length cn', .slice ay d.types.length cy, .int .i64 d.count] 35) = W1 := ⟨_, rfl⟩
    have hB1 : Below w.heap.size w W1 := by rw [← hW1]; exact (Below.refl _ _).alloc (Nat.le_refl _) _
    have hBk : Blk W1 w.heap.size 35 #[.int .i64 d.kind, .int .i64 d.n, .slice at_ d.text.size ct, .slice an d.names.length cn', .slice ay d.types.length cy, .int .i64 d.count] := by rw [← hW1]; exact Blk.new _ _ _
    have b0 := hBk.cell 0
    have b1 := hBk.cell 1
    have b2 := hBk.cell 2
    have b3 := hBk.cell 3
    have b4 := hBk.cell 4
    have b5 := hBk.cell 5
    simp only [List.getElem?_toArray, List.getElem?_cons_succ, List.getElem?_cons_zero] at b0 b1 b2 b3 b4 b5
    have HB1 := hide hB1
    have HW := hide hW1
    have hF := validFields_any d _ _ _ W1 (hV.below hB1) HZ (Utf8Tabs_below HT.out hB1)
    have HVC := hide (fun w => validCount_any d.kind d.count w)
    have HMS := hide (fun (k : Nat) e w => mayStand_any d.kind k e w)
    obtain ⟨E, hE⟩ : ∃ E, bE L.length (cn L) (okN L) (stN L) (f + 1) i = E := ⟨_, rfl⟩
    obtain ⟨F, hFF⟩ : ∃ F, vFd d = F := ⟨_, rfl⟩
    obtain ⟨G, hG⟩ : ∃ G, vCnt d.kind d.count = G := ⟨_, rfl⟩
    have HG := hide hG
    rw [hFF] at hF HOK
    simp only [hG] at HVC HOK
    rw [hE] at HR ⊢
    unfold nagg at hF
    have HF := hide hF
    have hiI : (i : Int) ≤ 1048576 := by omega
    have hD0 : (1 : Int) ≤ D := by omega
    have hD1 : D ≤ 60 := by omega
    have HD := hide hD
    have t0 : decide ((60 : Int) < D) = false := decide_eq_false (by omega)
    clear hW1 hB1 hBk hV HZ hF hFF hG hE hD
    cases F with
    | false =>
      have HE : Hid (E = 0) := by show _ = _; rw [HR.out, HOK.out]; rfl
      go_enter Tryd.func13, Tryd.ntmps13
      go_wp2_with fail
      rw [HW.out]
      go_wp2_with fail
      refine HF.out.mono ?_
      rintro e w2 ⟨rfl, hb2⟩
      have HB2 : Hid (Below w.heap.size w w2) := HB1.out.trans (hb2.mono HB1.out.size)
      clear hb2
      go_wp2
      go_ret
      exact ⟨by rw [HE.out]; rfl, HB2.out⟩
    | true =>
      cases G with
      | false =>
        have HE : Hid (E = 0) := by show _ = _; rw [HR.out, HOK.out]; rfl
        go_enter Tryd.func13, Tryd.ntmps13
        go_wp2_with fail
        rw [HW.out]
        go_wp2_with fail
        refine HF.out.mono ?_
        rintro e w2 ⟨rfl, hb2⟩
        have HB2 : Hid (Below w.heap.size w w2) := HB1.out.trans (hb2.mono HB1.out.size)
        have q0 := cell_kept b0 hb2
        have q5 := cell_kept b5 hb2
        clear hb2
        go_wp2_with fail
        refine (HVC.out _).mono ?_
        rintro e w3 ⟨rfl, rfl⟩
        go_wp2
        go_ret
        exact ⟨by rw [HE.out]; rfl, HB2.out⟩
      | true =>
        have HE : Hid (E = bLoop L.length (stN L) (bE L.length (cn L) (okN L) (stN L) f) i d.count.toNat 0 (i + 1)) := by show _ = _; rw [HR.out, HOK.out, HCN.out]; rfl
        have hC0 : 0 ≤ d.count := vCnt_nn HG.out
        obtain ⟨C, hC⟩ : ∃ C, d.count = C := ⟨_, rfl⟩
        rw [hC] at HE HF HVC g5 b5 hC0 HW
        clear hC HG HCN HOK HR
        go_enter Tryd.func13, Tryd.ntmps13
        go_wp2_with fail
        rw [HW.out]
        go_wp2_with fail
        refine HF.out.mono ?_
        rintro e w2 ⟨rfl, hb2⟩
        have HB2 : Hid (Below w.heap.size w w2) := HB1.out.trans (hb2.mono HB1.out.size)
        have HBW2 := hide hb2
        have q0 := cell_kept b0 hb2
        have q5 := cell_kept b5 hb2
        clear hb2
        go_wp2_with fail
        refine (HVC.out _).mono ?_
        rintro e w3 ⟨rfl, rfl⟩
        go_wp2
        clear q0 q5 b1 b2 b3 b4 b5 g0 g1 g2 g3 g4 g5 HF HVC HW hz
        go_loopw [8, 33] (fun x ix wr => ∃ k p : Nat, k ≤ C.toNat ∧ k < p ∧ ix = .int .i64 k ∧ x = .int .i64 p ∧ p ≤ L.length ∧ bLoop L.length (stN L) (bE L.length (cn L) (okN L) (stN L) f) i (C.toNat - k) k p = E ∧ Below w.heap.size w wr ∧ Below W1.heap.size W1 wr) (fun _ ix _ => C.toNat - (intOf ix).toNat)
        case atStart => exact ⟨0, i + 1, Nat.zero_le _, by omega, rfl, by go_num, by omega, HE.out.symm, HB2.out, HBW2.out⟩
        case round =>
          obtain ⟨k, p, hk, hkp, rfl, rfl, hp, hs, hb, hbw⟩ := hrel
          have HB := hide hb
          have HBW := hide hbw
          have r0 := cell_kept b0 hbw
          by_cases hlt : k < C.toNat
          · have hlti : decide ((k : Int) < C) = true := decide_eq_true (by omega)
            have hsp : C.toNat - k = (C.toNat - (k + 1)) + 1 := by omega
            rw [hsp, bLoop] at hs
            by_cases hpe : p = L.length
            · have t1 : ((p : Int) == (L.length : Int)) = true := by rw [beq_iff_eq]; omega
              rw [if_pos hpe] at hs
              have HS := hide hs
              clear hs hpe hb hbw
              go_wp2_with fail
              go_region
              all_goals go_wp2
              all_goals go_ret
              all_goals exact ⟨by rw [← HS.out]; rfl, HB.out.drew⟩
            · have hpl : p < L.length := by omega
              have t1 : ((p : Int) == (L.length : Int)) = false := by rw [beq_eq_false_iff_ne]; omega
              have hpi : (p : Int) < (L.length : Int) := by omega
              rw [if_neg hpe, HST.out k p] at hs
              have r1 := cell_kept (HCK.out p hpl) hb
              obtain ⟨kk, hkk⟩ : ∃ kk, (L.getD p .zero).kind = kk := ⟨_, rfl⟩
              rw [hkk] at r1 hs
              have HM := hide (fun w => HMS.out k kk w)
              obtain ⟨S, hS⟩ : ∃ S, mSt d.kind k kk = S := ⟨_, rfl⟩
              simp only [hS] at hs HM
              have HH := hide (fun w2 (hb2 : Below w.heap.size w w2) => HIH.out (D + 1) (by have := HD.out; omega) p w2 hpl (HNS.out.below hb2) (Utf8Tabs_below HT.out hb2))
              have HLE := hide (HBL.out p)
              obtain ⟨Q, hQ⟩ : ∃ Q, bE L.length (cn L) (okN L) (stN L) f p = Q := ⟨_, rfl⟩
              simp only [hQ] at hs HH HLE
              clear hpe hb hbw hkk hS hQ
              cases S with
              | false =>
                have HS : Hid (0 = E) := by show _ = _; simpa using hs
                clear hs
                go_wp2_with fail
                go_quiet ((go_at_call 27; exact Calls.quiet_of_same (HM.out _)))
                go_wp2
                go_ret
                exact ⟨by rw [← HS.out]; rfl, HB.out.trans ⟨rfl, rfl, rfl, Nat.le_refl _, fun _ _ => rfl⟩⟩
              | true =>
                have HDR : Hid (∀ n, Below w.heap.size w (wr.drewN n)) := fun n => HB.out.trans ⟨rfl, rfl, rfl, Nat.le_refl _, fun _ _ => rfl⟩
                have HDW : Hid (∀ n, Below W1.heap.size W1 (wr.drewN n)) := fun n => HBW.out.trans ⟨rfl, rfl, rfl, Nat.le_refl _, fun _ _ => rfl⟩
                by_cases hQ0 : Q = 0
                · subst hQ0
                  have HS : Hid (0 = E) := by show _ = _; simpa using hs
                  clear hs
                  go_wp2_with fail
                  go_quiet ((go_at_call 27; exact Calls.quiet_of_same (HM.out _)))
                  go_wp2_with fail
                  refine (HH.out _ (HDR.out _)).mono ?_
                  rintro e w6 ⟨rfl, hb6⟩
                  have HB6 : Hid (Below w.heap.size w w6) := (HDR.out _).trans (hb6.mono (HDR.out _).size)
                  clear hb6
                  go_wp2
                  go_ret
                  exact ⟨by rw [← HS.out]; rfl, HB6.out⟩
                · have t2 : ((Q : Int) == 0) = false := by rw [beq_eq_false_iff_ne]; omega
                  have HS : Hid (bLoop L.length (stN L) (bE L.length (cn L) (okN L) (stN L) f) i (C.toNat - (k + 1)) (k + 1) Q = E) := by
                    show _ = _; simpa [hQ0] using hs
                  obtain ⟨hQL, hQp⟩ := HLE.out Q hpl hQ0 rfl
                  clear hs
                  go_wp2_with fail
                  go_quiet ((go_at_call 27; exact Calls.quiet_of_same (HM.out _)))
                  go_wp2_with fail
                  refine (HH.out _ (HDR.out _)).mono ?_
                  rintro e w6 ⟨rfl, hb6⟩
                  have HB6 : Hid (Below w.heap.size w w6) := (HDR.out _).trans (hb6.mono (HDR.out _).size)
                  have HBW6 : Hid (Below W1.heap.size W1 w6) := (HDW.out _).trans (hb6.mono (HDW.out _).size)
                  clear hb6
                  go_wp2
                  go_roundw
                  case rel => exact ⟨k + 1, Q, by omega, by omega, by go_num, rfl, hQL, HS.out, HB6.out, HBW6.out⟩
                  case measure => simp [intOf]; omega
          · have hlti : decide ((k : Int) < C) = false := decide_eq_false (by omega)
            have HE2 : Hid (E = p) := by show _ = _; rw [← hs, show C.toNat - k = 0 by omega, bLoop]
            clear hs hb hbw
            go_wp2
            go_ret
            exact ⟨by rw [HE2.out]; rfl, HB.out⟩
end Go.Proofs.YtbjaccalloipcaaDoor
