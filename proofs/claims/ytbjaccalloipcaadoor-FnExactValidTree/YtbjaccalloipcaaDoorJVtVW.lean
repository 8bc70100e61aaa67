/-
  The walks of spec.ValidTree and of laws.FnExactValidTree.
-/
import Derived.Test.YtbjaccalloipcaaDoorJVtVH
import Derived.Test.YtbjaccalloipcaaDoorJVtIN2
import Derived.Test.YtbjaccalloipcaaDoorJVtND7
namespace Go.Proofs.YtbjaccalloipcaaDoor
open Go.RowKit

theorem okN_nn {L : List Nd} : ∀ i, okN L i = true → 0 ≤ cn L i := fun i h => by
  unfold okN at h
  rw [Bool.and_eq_true] at h
  exact vCnt_nn h.2
theorem end_other {L : List Nd} (h0 : 0 < L.length) (h : sE L.length (cn L) 60 0 ≠ some L.length) : (bE L.length (cn L) (okN L) (stN L) 60 0 == L.length) = false := by
  rw [beq_eq_false_iff_ne]
  intro g
  exact h ((bE_sE okN_nn 60 (Nat.le_refl _) 0 L.length h0 (by omega)).1 g).1
theorem end_good {L : List Nd} (h0 : 0 < L.length) (h : sE L.length (cn L) 60 0 = some L.length) : (bE L.length (cn L) (okN L) (stN L) 60 0 == L.length) = sG L.length (cn L) (okN L) (stN L) 60 0 := by
  have g := bE_sE (okN_nn (L := L)) (st := stN L) 60 (Nat.le_refl _) 0 L.length h0 (by omega)
  rw [Bool.eq_iff_iff, beq_iff_eq, g]
  exact ⟨fun x => x.2, fun x => ⟨h, x⟩⟩

set_option maxHeartbeats 1000000 in
set_option maxRecDepth 1000000 in
theorem specValid_any (v : Value) (L : List Nd) (w : World) (hl : L.length ≤ 1048576) (hz : ∀ j, j < L.length → NB (L.getD j .zero)) (h : NS w v L) :
    Calls Tryd.prog 5 #[v] w fun e w' => e = .returned (.bool (vT L)) ∧ Below w.heap.size w w' := by
  by_cases h0 : L.length = 0
  · obtain ⟨a, b, o, c, rfl, ha, hc⟩ := h
    have HV := hide (vT_none h0)
    rw [h0]
    clear ha hc h0 hl hz
    go_enter Tryd.func5, Tryd.ntmps5
    go_wp2
    go_ret
    exact ⟨by rw [HV.out]; rfl, Below.refl _ _⟩
  have d0 : decide ((L.length : Int) < 1) = false := decide_eq_false (by omega)
  by_cases h1 : ¬ L.length ≤ 4000
  · obtain ⟨a, b, o, c, rfl, ha, hc⟩ := h
    have HV := hide (vT_long h1)
    have d1 : decide ((4000 : Int) < (L.length : Int)) = true := decide_eq_true (by omega)
    clear ha hc h0 hz h1
    go_enter Tryd.func5, Tryd.ntmps5
    go_wp2
    go_ret
    exact ⟨by rw [HV.out]; rfl, Below.refl _ _⟩
  have h1' : L.length ≤ 4000 := by omega
  have d1 : decide ((4000 : Int) < (L.length : Int)) = false := decide_eq_false (by omega)
  have HC := hide (l2end_any v L hl 60 (Nat.le_refl _) 0 w (by omega) h)
  have HG := hide (fun e => l2good_any v L hl hz 60 (Nat.le_refl _) 0 e w)
  have HNS := hide h
  obtain ⟨a, b, o, c, rfl, ha, hc⟩ := h
  obtain rfl := ha (by omega)
  obtain ⟨vt, vn, vy, hN, _⟩ := hc 0 (by omega)
  have g0 := hN.kind
  rw [Nat.zero_mul, Nat.add_zero] at g0
  have hlI : (0 : Int) < (L.length : Int) := by omega
  by_cases h2 : (L.getD 0 .zero).kind = 0
  · have hVE := vT_end (by omega) h1' h2
    rw [h2] at g0
    by_cases hs : sE L.length (cn L) 60 0 = some L.length
    · rw [end_good (by omega) hs] at hVE
      have HH := hide (HG.out L.length hs HNS.out)
      rw [← hVE] at HH
      rw [hs] at HC
      have e2 : (((L.length : Nat) : Int) == ((L.length : Nat) : Int)) = true := by rw [beq_iff_eq]
      obtain ⟨V, hV⟩ : ∃ V, vT L = V := ⟨_, rfl⟩
      rw [hV] at HH ⊢
      unfold oi at HC
      clear ha hc hN hz h1 h1' h2 hVE hs HG h0 hV
      go_enter Tryd.func5, Tryd.ntmps5
      go_wp2_with fail
      refine HC.out.mono ?_
      rintro e w1 ⟨rfl, rfl⟩
      go_wp2_with fail
      refine HH.out.mono ?_
      rintro e w1 ⟨rfl, hb1⟩
      have HB := hide hb1
      clear hb1
      go_wp2
      go_ret
      exact ⟨rfl, HB.out⟩
    · rw [end_other (by omega) hs] at hVE
      have HV := hide hVE
      have e2 : (oi (sE L.length (cn L) 60 0) == (L.length : Int)) = false := by
        rw [beq_eq_false_iff_ne]
        intro g
        cases hx : sE L.length (cn L) 60 0 with
        | none => rw [hx] at g; have g' : (-1 : Int) = (L.length : Int) := g; omega
        | some q => rw [hx] at g; have g' : (q : Int) = (L.length : Int) := g; exact hs (by rw [hx, show q = L.length by omega])
      obtain ⟨E, hE⟩ : ∃ E, oi (sE L.length (cn L) 60 0) = E := ⟨_, rfl⟩
      rw [hE] at HC e2
      clear ha hc hN hz h1 h1' h2 hVE hs HG h0 hE
      go_enter Tryd.func5, Tryd.ntmps5
      go_wp2_with fail
      refine HC.out.mono ?_
      rintro e w1 ⟨rfl, rfl⟩
      go_wp2
      go_ret
      exact ⟨by rw [HV.out]; rfl, Below.refl _ _⟩
  · have HV := hide (vT_kind h2)
    have d2 : ((L.getD 0 .zero).kind != 0) = true := by rw [bne_iff_ne]; exact h2
    obtain ⟨kk, hkk⟩ : ∃ kk, (L.getD 0 .zero).kind = kk := ⟨_, rfl⟩
    rw [hkk] at g0 d2
    clear ha hc hN hz h1 h1' h2 hkk h0 HG HC
    go_enter Tryd.func5, Tryd.ntmps5
    go_wp2
    go_ret
    exact ⟨by rw [HV.out]; rfl, Below.refl _ _⟩

theorem bool_bne (b : Bool) : (b != b) = false := by cases b <;> rfl

set_option maxHeartbeats 1000000 in
set_option maxRecDepth 1000000 in
theorem law_any (v : Value) (L : List Nd) (w : World) (hn : (L.length : Int) ≤ 9223372036854775807) (hz : ∀ j, j < L.length → NL (L.getD j .zero)) (h : NS w v L) (hT : Lib.Utf8Tabs 0 1 w) :
    Calls Tryd.prog 3 #[v] w fun e w' => e = .returned (.bool true) ∧ Below w.heap.size w w' := by
  have H0 := hide (szNS_any v L 1048576 w (by omega) (by omega) hn hz h)
  have HNS := hide h
  have HT := hide hT
  obtain ⟨a, c, hv⟩ : ∃ a c, v = .slice a L.length c := by obtain ⟨a, _, _, c, h, _⟩ := h; exact ⟨a, c, h⟩
  by_cases hs : szt L 1048576 < 0
  · have d0 : decide (szt L 1048576 < 0) = true := decide_eq_true hs
    obtain ⟨E, hE⟩ : ∃ E, szt L 1048576 = E := ⟨_, rfl⟩
    rw [hE] at H0 d0
    subst hv
    clear hE hs hz h hT hn
    go_enter Tryd.func3, Tryd.ntmps3
    go_wp2_with fail
    refine H0.out.mono ?_
    rintro e w1 ⟨rfl, hb1⟩
    have HB := hide hb1
    clear hb1
    go_wp2
    go_ret
    exact ⟨rfl, HB.out⟩
  · have d0 : decide (szt L 1048576 < 0) = false := decide_eq_false hs
    obtain ⟨hl, hb⟩ := szt_le L 1048576 (by omega) (by omega) (by omega)
    have HL := hide hl
    have HBD := hide hb
    obtain ⟨E, hE⟩ : ∃ E, szt L 1048576 = E := ⟨_, rfl⟩
    rw [hE] at H0 d0
    have HTO := hide (fun w2 (hb2 : Below w.heap.size w w2) => toNS_any v L w2 hl hb (h.below hb2))
    subst hv
    have hVV := bool_bne (vT L)
    have HSV := hide (fun v w2 h2 => specValid_any v L w2 hl hb h2)
    have HIV := hide (fun v w2 h2 h3 => implValid_any v L w2 hl hb h2 h3)
    obtain ⟨V, hV⟩ : ∃ V, vT L = V := ⟨_, rfl⟩
    rw [hV] at hVV
    simp only [hV] at HSV HIV
    clear hE hs hz h hT hn hl hb hV
    go_enter Tryd.func3, Tryd.ntmps3
    go_wp2_with fail
    refine H0.out.mono ?_
    rintro e w1 ⟨rfl, hb1⟩
    have HB1 := hide hb1
    clear hb1 H0
    go_wp2_with fail
    refine (HTO.out _ HB1.out).mono ?_
    rintro e w2 ⟨v2, rfl, hs2, hb2⟩
    have HB2 : Hid (Below w.heap.size w w2) := HB1.out.trans (hb2.mono HB1.out.size)
    have HS2 := hide hs2
    clear hb2 hs2
    obtain ⟨a2, c2, rfl⟩ : ∃ a c, v2 = .slice a L.length c := by obtain ⟨a, _, _, c, h, _⟩ := HS2.out; exact ⟨a, c, h⟩
    go_wp2_with fail
    refine (HSV.out _ _ HS2.out).mono ?_
    rintro e w3 ⟨rfl, hb3⟩
    have HB3 : Hid (Below w.heap.size w w3) := HB2.out.trans (hb3.mono HB2.out.size)
    clear hb3 HS2
    go_wp2_with fail
    refine (HTO.out _ HB3.out).mono ?_
    rintro e w4 ⟨v4, rfl, hs4, hb4⟩
    have HB4 : Hid (Below w.heap.size w w4) := HB3.out.trans (hb4.mono HB3.out.size)
    have HS4 := hide hs4
    clear hb4 hs4
    obtain ⟨a4, c4, rfl⟩ : ∃ a c, v4 = .slice a L.length c := by obtain ⟨a, _, _, c, h, _⟩ := HS4.out; exact ⟨a, c, h⟩
    go_wp2_with fail
    refine (HIV.out _ _ HS4.out (Utf8Tabs_below HT.out HB4.out)).mono ?_
    rintro e w5 ⟨rfl, hb5⟩
    have HB5 : Hid (Below w.heap.size w w5) := HB4.out.trans (hb5.mono HB4.out.size)
    have HS5 := hide (HS4.out.below hb5)
    clear hb5 HS4
    go_wp2_with fail
    refine (HTO.out _ HB5.out).mono ?_
    rintro e w6 ⟨v6, rfl, hs6, hb6⟩
    have HB6 : Hid (Below w.heap.size w w6) := HB5.out.trans (hb6.mono HB5.out.size)
    have HS6 := hide hs6
    have HS7 := hide (HS5.out.below hb6)
    clear hb6 hs6 HS5
    obtain ⟨a6, c6, rfl⟩ : ∃ a c, v6 = .slice a L.length c := by obtain ⟨a, _, _, c, h, _⟩ := HS6.out; exact ⟨a, c, h⟩
    go_wp2_with fail
    refine (eqNS_same HL.out HBD.out HS7.out HS6.out).mono ?_
    rintro e w7 ⟨rfl, hb7⟩
    have HB7 : Hid (Below w.heap.size w w7) := HB6.out.trans (hb7.mono HB6.out.size)
    clear hb7
    go_wp2
    go_ret
    exact ⟨rfl, HB7.out⟩
end Go.Proofs.YtbjaccalloipcaaDoor
