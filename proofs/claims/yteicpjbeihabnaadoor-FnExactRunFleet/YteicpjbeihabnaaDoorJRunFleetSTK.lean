/-
  The walks of l8more, l8tick.
-/
import Derived.Test.YteicpjbeihabnaaDoorJRunFleetSNX
import Derived.Test.YteicpjbeihabnaaDoorJRunFleetROW
import Derived.Test.YteicpjbeihabnaaDoorJRunFleetFLD
import Derived.Test.YteicpjbeihabnaaDoorJRunFleetKRS
import Derived.BigQuiet
import Derived.BigRegion
import Derived.Deep.QuietTactic
import Derived.Deep.RegionWith
namespace Go.Proofs.YteicpjbeihabnaaDoor
open Go.RowKit

set_option maxRecDepth 1000000 in
theorem l8more_any (v : Int) (w : World) (h0 : 0 ≤ v) (h1 : v ≤ 1000000) : Calls Tryd.prog 79 #[.int .i64 v] w fun e w' => e = .returned (.int .i64 (roMore v)) ∧ w' = w := by
  by_cases q : v < 1000000
  · have t : decide (v < 1000000) = true := decide_eq_true q
    have HE : Hid (roMore v = v + 1) := if_pos q
    go_enter Tryd.func79, Tryd.ntmps79
    go_wp2
    go_ret
    exact ⟨by rw [HE.out]; rfl, rfl⟩
  · have t : decide (v < 1000000) = false := decide_eq_false q
    have HE : Hid (roMore v = v) := if_neg q
    go_enter Tryd.func79, Tryd.ntmps79
    go_wp2
    go_ret
    exact ⟨by rw [HE.out]; rfl, rfl⟩

set_option maxHeartbeats 4000000 in
set_option maxRecDepth 1000000 in
theorem l8tick_any (d : Tb) (v2 v3 v4 : Value) (L : List Ro) (u : Value) (w : World) (hb : TbB d) (h : TbV w d v2 v3 v4) (hu : RoS w u L) (hnn : Nn u) (hok : VfOk d L) :
    Calls Tryd.prog 59 #[tbagg d v2 v3 v4, u] w fun e w' => ∃ v R, e = .returned (.tuple #[v, .bool (tick d L).2]) ∧ RobR w' R v (tick d L).1 ∧ Nn v ∧ w.heap.size ≤ R ∧ Below w.heap.size w w' := by
  have HNX := hide (fun V (i c : Nat) (hV : Below w.heap.size w V) hi hc => l8next_any d v2 v3 v4 i c V hb (h.below hV) hok.tb hi hc)
  have hL30 := hok.len
  have HOK := hide hok
  have HUS := hide hu
  obtain ⟨au, cu, rfl⟩ := hu.slice
  obtain ⟨a2, c2, rfl⟩ := h.targets.slice
  obtain ⟨a3, c3, rfl⟩ := h.dist.slice
  obtain ⟨a4, c4, rfl⟩ := h.hop.slice
  clear h hb hu hok
  unfold tbagg at HNX ⊢
  obtain ⟨X, Y, T, Ds, Hs⟩ := d
  simp only at HNX ⊢
  obtain ⟨W0, hW0⟩ : ∃ W, w.alloc (.cells #[.int .i64 X, .int .i64 Y, .slice a2 T.length c2, .slice a3 Ds.length c3, .slice a4 Hs.length c4] 31) = W := ⟨_, rfl⟩
  have hB0 : Below w.heap.size w W0 := by rw [← hW0]; exact (Below.refl _ _).alloc (Nat.le_refl _) _
  have hA0 : Blk W0 w.heap.size 31 #[.int .i64 X, .int .i64 Y, .slice a2 T.length c2, .slice a3 Ds.length c3, .slice a4 Hs.length c4] := by rw [← hW0]; exact Blk.new _ _ _
  have HB := hide hB0
  have HA0 := hide hA0
  have HW := hide hW0
  have hsz : W0.heap.size = w.heap.size + 1 := by rw [← hW0]; simp
  clear hB0 hA0 hW0
  have HNN := hide hnn
  have HZ := hide hsz
  clear hsz
  have HUW := hide (HUS.out.below HB.out)
  have hW := HW.out
  clear hnn
  go_enter Tryd.func59, Tryd.ntmps59
  go_wp2_with (at_builtin; refine wp_app_ro rfl _ _ rfl W0.heap.size rfl _ L rfl HUW.out HNN.out (by omega) (Nat.le_refl _) ?_)
  intro a' c' W1 hown hna hb1
  have HNA := hide hna
  clear hna
  obtain ⟨R, hR, hRb⟩ := own_rob hown
  have HR1 := hide hR
  have HA1 := hide (HA0.out.below hb1)
  have HB1 : Hid (Below w.heap.size w W1) := HB.out.trans (hb1.mono HB.out.size)
  have hRw : w.heap.size < R := by have := HZ.out; omega
  have hsl : 0 < L.length → a' = some ⟨R, 0, none⟩ := by
    obtain ⟨a, c, h1, h2⟩ := hR.slc
    injection h1 with h1 _ _
    intro h0
    rw [h1]
    exact h2 h0
  clear hown hb1 hR hW hRb
  go_wp2
  go_loopw [7, 8] (fun sx ix wr => ∃ i : Nat, i ≤ L.length ∧ ix = .int .i64 i ∧ sx = .bool (tickN ⟨X, Y, T, Ds, Hs⟩ L i).2 ∧ RobR wr R (.slice a' L.length c') (tickN ⟨X, Y, T, Ds, Hs⟩ L i).1 ∧ Blk wr w.heap.size 31 #[.int .i64 X, .int .i64 Y, .slice a2 T.length c2, .slice a3 Ds.length c3, .slice a4 Hs.length c4] ∧ Below w.heap.size w wr) (fun _ ix _ => L.length - (intOf ix).toNat)
  case atStart => exact ⟨0, Nat.zero_le _, rfl, rfl, HR1.out, HA1.out, HB1.out⟩
  case round =>
    obtain ⟨i, hi, rfl, rfl, hrow, htb, hbl⟩ := hrel
    rename World => V
    have HROW := hide hrow
    have HTB := hide htb
    have HBE := hide hbl
    clear hrow htb hbl
    by_cases hlt : i < L.length
    · have hlti : (i : Int) < (L.length : Int) := by omega
      obtain rfl := hsl (by omega)
      have HVP := hide (HOK.out.tickN i (by omega))
      have HPL := hide (tickN_len ⟨X, Y, T, Ds, Hs⟩ L i)
      have HN1 : Hid (tickN ⟨X, Y, T, Ds, Hs⟩ L (i + 1) = (actL ⟨X, Y, T, Ds, Hs⟩ (tickN ⟨X, Y, T, Ds, Hs⟩ L i).1 i, (tickN ⟨X, Y, T, Ds, Hs⟩ L i).2 || actS ⟨X, Y, T, Ds, Hs⟩ (tickN ⟨X, Y, T, Ds, Hs⟩ L i).1 ((tickN ⟨X, Y, T, Ds, Hs⟩ L i).1.getD i .zero))) := rfl
      obtain ⟨P, hP⟩ : ∃ P, (tickN ⟨X, Y, T, Ds, Hs⟩ L i).1 = P := ⟨_, rfl⟩
      obtain ⟨sb, hsb⟩ : ∃ P, (tickN ⟨X, Y, T, Ds, Hs⟩ L i).2 = P := ⟨_, rfl⟩
      rw [hP] at HROW HVP HPL HN1
      rw [hsb] at HN1 ⊢
      clear hP hsb
      have hPi : i < P.length := by have := HPL.out; omega
      have hro := HROW.out.each i hPi
      obtain ⟨cur, hcur, hcs⟩ := HROW.out.blk (by omega)
      have hrk := HVP.out.each i hPi
      have hst := HVP.out.step hPi
      obtain ⟨r, hr⟩ : ∃ r, P.getD i .zero = r := ⟨_, rfl⟩
      rw [hr] at hro hrk hst HN1
      have HRD := hide hr
      have HRO := hide hro
      have HRK := hide hrk
      have HST := hide hst
      have HCUR := hide hcur
      have f4 := hcur.frozen (i * 5 + 4)
      obtain ⟨e0, e1, e2, e3, e4⟩ := hro
      clear hr hrk hst hcur hcs
      have x0 := HTB.out.cell 0
      have x1 := HTB.out.cell 1
      have x2 := HTB.out.cell 2
      have x3 := HTB.out.cell 3
      have x4 := HTB.out.cell 4
      simp only [List.getElem?_toArray, List.getElem?_cons_succ, List.getElem?_cons_zero] at x0 x1 x2 x3 x4
      obtain ⟨dn, hdn⟩ : ∃ b, r.done = b := ⟨_, rfl⟩
      rw [hdn] at e4
      cases dn with
      | true =>
        have HN2 : Hid (tickN ⟨X, Y, T, Ds, Hs⟩ L (i + 1) = (P, sb)) := by
          show _ = _
          rw [HN1.out]
          unfold actL actS actR
          rw [HRD.out, if_pos hdn, hdn]
          refine Prod.ext ?_ (by simp)
          show P.set i r = P
          rw [← HRD.out, getD_at hPi]
          exact List.set_getElem_self hPi
        clear hdn
        go_wp2
        go_roundw
        case rel => exact ⟨i + 1, by omega, by go_num, by rw [HN2.out], by rw [HN2.out]; exact HROW.out, HTB.out, HBE.out⟩
        case measure => simp [intOf]; omega
      | false =>
      obtain ⟨q0, q1, q2, q3⟩ := HRK.out.ask
      obtain ⟨tg, htg⟩ : ∃ t : Nat, r.target = t := ⟨r.target.toNat, by omega⟩
      obtain ⟨ce, hce⟩ : ∃ t : Nat, r.cell = t := ⟨r.cell.toNat, by omega⟩
      have HNC := hide (fun V (hV : Below w.heap.size w V) => HNX.out V tg ce hV (by simp only at q1; omega) (by simp only at q3; omega))
      have hA : nxA ⟨X, Y, T, Ds, Hs⟩ tg ce = roA ⟨X, Y, T, Ds, Hs⟩ r := by unfold roA; rw [htg, hce]; rfl
      have hB : nxB ⟨X, Y, T, Ds, Hs⟩ tg ce = roB ⟨X, Y, T, Ds, Hs⟩ r := by unfold roB; rw [htg, hce]; rfl
      simp only [hA, hB] at HNC
      have hbc := roB_cases ⟨X, Y, T, Ds, Hs⟩ r
      have HACT : Hid (actR ⟨X, Y, T, Ds, Hs⟩ P r = if roB ⟨X, Y, T, Ds, Hs⟩ r = 11 then { r with done := true } else if roB ⟨X, Y, T, Ds, Hs⟩ r = 10 ∨ tkn P (roA ⟨X, Y, T, Ds, Hs⟩ r) = true then { r with waits := roMore r.waits } else { r with cell := roA ⟨X, Y, T, Ds, Hs⟩ r, moves := roMore r.moves }) := by
        show _ = _
        unfold actR
        rw [if_neg (by rw [hdn]; exact Bool.false_ne_true)]
      have HACS : Hid (actS ⟨X, Y, T, Ds, Hs⟩ P r = (decide (roB ⟨X, Y, T, Ds, Hs⟩ r = 11) || (decide (roB ⟨X, Y, T, Ds, Hs⟩ r = 0) && !tkn P (roA ⟨X, Y, T, Ds, Hs⟩ r)))) := by
        show _ = _
        unfold actS
        rw [hdn]
        rfl
      obtain ⟨na, hna⟩ : ∃ z, roA ⟨X, Y, T, Ds, Hs⟩ r = z := ⟨_, rfl⟩
      obtain ⟨nb, hnb⟩ : ∃ z, roB ⟨X, Y, T, Ds, Hs⟩ r = z := ⟨_, rfl⟩
      simp only [hna, hnb] at HNC HACT HACS hbc HST
      rw [htg] at e1
      rw [hce] at e0
      have HDN := hide hdn
      clear hA hB hna hnb q0 q1 q2 q3 htg hdn
      have HCE := hide hce
      clear hce
      go_wp2_with fail
      apply key_rest
      · intro HKEY
        go_region_with (go_at_call 50; refine (HNC.out _ (by exact HBE.out.drew)).mono ?_; rintro e w5 ⟨rfl, hb5⟩; have hbv : Below V.heap.size V w5 := (Below.refl _ _).drew.trans hb5; have HBV := hide hbv; clear hb5 hbv)
        all_goals
          revert HBV
          revert w5
          exact HKEY.out
      intro w5 HBV
      have g0 := cell_kept e0 HBV.out
      have g1 := cell_kept e1 HBV.out
      have g2 := cell_kept e2 HBV.out
      have g3 := cell_kept e3 HBV.out
      have g4 := cell_kept e4 HBV.out
      have HROW5 := hide (HROW.out.below HBV.out)
      have HRO5 := hide (HRO.out.below HBV.out)
      have HCUR5 := hide (HCUR.out.below HBV.out)
      have HTB5 := hide (HTB.out.below HBV.out)
      have HBE5 : Hid (Below w.heap.size w w5) := HBE.out.trans (HBV.out.mono HBE.out.size)
      have j0 := HCUR5.out.frozen (i * 5)
      have j2 := HCUR5.out.frozen (i * 5 + 2)
      have j3 := HCUR5.out.frozen (i * 5 + 3)
      have j4 := HCUR5.out.frozen (i * 5 + 4)
      clear e0 e1 e2 e3 e4 f4 x0 x1 x2 x3 x4 HROW HRO HCUR HTB HBE HBV
      by_cases q11 : nb = 11
      · have HN2 : Hid (tickN ⟨X, Y, T, Ds, Hs⟩ L (i + 1) = (P.set i { r with done := true }, true)) := by
          show _ = _
          rw [HN1.out]
          unfold actL
          rw [HRD.out, HACT.out, HACS.out, if_pos q11, q11]
          simp
        have t11 : (nb == 11) = true := by rw [beq_iff_eq]; exact q11
        clear q11 hbc
        go_wp2
        go_roundw
        case rel => exact ⟨i + 1, by omega, by go_num, by rw [HN2.out], by rw [HN2.out]; exact HROW5.out.set1 hPi (by omega) _ _ (HRO5.out.setDone true), HTB5.out.other _ _ (by omega), HBE5.out.setCell (show w.heap.size ≤ R by omega) _⟩
        case measure => simp [intOf]; omega
      have t11 : (nb == 11) = false := by rw [beq_eq_false_iff_ne]; exact q11
      obtain ⟨fb, hfb⟩ : ∃ b, (nb == 0) = b := ⟨_, rfl⟩
      have HEACH := hide (fun j hj => HROW5.out.each j hj)
      have HFB := hide hfb
      have HQ11 := hide q11
      have HBC := hide hbc
      clear q11 hbc
      go_wp2
      clear hfb t11
      go_loopw [11, 12] (fun fx kx wr => ∃ (k : Nat) (b : Bool), k ≤ L.length ∧ kx = .int .i64 k ∧ fx = .bool b ∧ (b = true ↔ fb = true ∧ ∀ j, j < k → j ≠ i → (P.getD j .zero).done = false → (P.getD j .zero).cell ≠ na) ∧ wr = w5) (fun _ kx _ => L.length - (intOf kx).toNat)
      case atStart => exact ⟨0, fb, Nat.zero_le _, rfl, rfl, ⟨fun h => ⟨h, fun _ h => absurd h (Nat.not_lt_zero _)⟩, fun h => h.1⟩, rfl⟩
      case round =>
        obtain ⟨k, b, hk, rfl, rfl, hbb, hww⟩ := hrel
        subst hww
        rename World => w5
        have HBB := hide hbb
        clear hbb
        by_cases hkl : k < L.length
        · have hkli : (k : Int) < (L.length : Int) := by omega
          have hrk := HEACH.out k (by have := HPL.out; omega)
          obtain ⟨rk, hrk2⟩ : ∃ r, P.getD k .zero = r := ⟨_, rfl⟩
          rw [hrk2] at hrk
          have HRKD := hide hrk2
          obtain ⟨f0, _, _, _, f4⟩ := hrk
          obtain ⟨m0, m1, m2, m3, m4⟩ := rk
          simp only at f0 f4
          clear hrk2
          have HSAME : Hid ((k = i ∨ m4 = true ∨ m0 ≠ na) → (b = true ↔ fb = true ∧ ∀ j, j < k + 1 → j ≠ i → (P.getD j .zero).done = false → (P.getD j .zero).cell ≠ na)) := fun hc => by
            refine HBB.out.trans ⟨fun h => ⟨h.1, fun j hj h1 h2 => ?_⟩, fun h => ⟨h.1, fun j hj => h.2 j (by omega)⟩⟩
            by_cases e : j = k
            · subst e
              rw [HRKD.out] at h2 ⊢
              rcases hc with hc | hc | hc
              · exact absurd hc h1
              · rw [hc] at h2; cases h2
              · exact hc
            · exact h.2 j (by omega) h1 h2
          by_cases qi : k = i
          · have ti : ((k : Int) != (i : Int)) = false := by rw [bne_eq_false_iff_eq]; omega
            have HS := hide (HSAME.out (.inl qi))
            clear qi
            go_wp2
            go_roundw
            case rel => exact ⟨k + 1, b, by omega, by go_num, rfl, HS.out, by first | rfl | trivial⟩
            case measure => simp [intOf]; omega
          have ti : ((k : Int) != (i : Int)) = true := by rw [bne_iff_ne]; omega
          cases m4 with
          | true =>
            have HS := hide (HSAME.out (.inr (.inl rfl)))
            clear qi
            go_wp2
            go_roundw
            case rel => exact ⟨k + 1, b, by omega, by go_num, rfl, HS.out, by first | rfl | trivial⟩
            case measure => simp [intOf]; omega
          | false =>
          by_cases q9 : m0 = na
          · have s9 : (m0 == na) = true := by rw [beq_iff_eq]; exact q9
            have HS : Hid (false = true ↔ fb = true ∧ ∀ j, j < k + 1 → j ≠ i → (P.getD j .zero).done = false → (P.getD j .zero).cell ≠ na) :=
              ⟨(fun h => nomatch h), fun h => absurd (by rw [HRKD.out]; exact q9) (h.2 k (by omega) qi (by rw [HRKD.out]))⟩
            clear qi q9
            go_wp2
            go_roundw
            case rel => exact ⟨k + 1, false, by omega, by go_num, rfl, HS.out, by first | rfl | trivial⟩
            case measure => simp [intOf]; omega
          · have s9 : (m0 == na) = false := by rw [beq_eq_false_iff_ne]; exact q9
            have HS := hide (HSAME.out (.inr (.inr q9)))
            clear qi q9
            go_wp2
            go_roundw
            case rel => exact ⟨k + 1, b, by omega, by go_num, rfl, HS.out, by first | rfl | trivial⟩
            case measure => simp [intOf]; omega
        · have hkge : ¬ (k : Int) < (L.length : Int) := by omega
          have HBT : Hid (b = true ↔ nb = 0 ∧ tkn P na = false) := by
            show _ ↔ _
            rw [HBB.out]
            constructor
            · rintro ⟨h1, h2⟩
              rw [← HFB.out, beq_iff_eq] at h1
              refine ⟨h1, ?_⟩
              rw [← Bool.not_eq_true]
              intro h3
              obtain ⟨j, hj, h4, h5⟩ := (tkn_iff _ _).1 h3
              by_cases e : j = i
              · subst e
                rw [HRD.out] at h5
                exact (HST.out h1).2.2 h5.symm
              · exact h2 j (by have := HPL.out; omega) e h4 h5
            · rintro ⟨h1, h2⟩
              refine ⟨by rw [← HFB.out, beq_iff_eq]; exact h1, fun j hj _ h4 h5 => ?_⟩
              have := (tkn_iff P na).2 ⟨j, by have := HPL.out; omega, h4, h5⟩
              rw [h2] at this
              cases this
          clear j4 g1 g4 HBB HEACH
          cases b with
          | false =>
            have HN2 : Hid (tickN ⟨X, Y, T, Ds, Hs⟩ L (i + 1) = (P.set i { r with waits := roMore r.waits }, sb)) := by
              have hx : nb = 10 ∨ tkn P na = true := by
                rcases HBC.out with e | e | e
                · exact absurd e HQ11.out
                · exact .inl e
                · right
                  rw [← Bool.not_eq_false]
                  intro h3
                  have := HBT.out.2 ⟨e, h3⟩
                  cases this
              show _ = _
              rw [HN1.out]
              unfold actL
              rw [HRD.out, HACT.out, HACS.out, if_neg HQ11.out, if_pos hx]
              refine Prod.ext rfl ?_
              show (sb || (decide (nb = 11) || (decide (nb = 0) && !tkn P na))) = sb
              rw [decide_eq_false HQ11.out]
              rcases hx with e | e
              · rw [e]; simp
              · rw [e]; simp
            have HMO := hide (fun V => l8more_any r.waits V HRK.out.w0 HRK.out.w1)
            go_wp2_with fail
            refine (HMO.out _).mono ?_
            rintro e w7 ⟨rfl, hw7⟩
            subst hw7
            rename World => w5
            go_wp2
            go_roundw
            case rel => exact ⟨i + 1, by omega, by go_num, by rw [HN2.out], by rw [HN2.out]; exact HROW5.out.set1 hPi (by omega) _ _ (HRO5.out.setWaits _), HTB5.out.other _ _ (by omega), HBE5.out.setCell (show w.heap.size ≤ R by omega) _⟩
            case measure => simp [intOf]; omega
          | true =>
            obtain ⟨z1, z2⟩ := HBT.out.1 rfl
            have HN2 : Hid (tickN ⟨X, Y, T, Ds, Hs⟩ L (i + 1) = (P.set i { r with cell := na, moves := roMore r.moves }, true)) := by
              show _ = _
              rw [HN1.out]
              unfold actL
              rw [HRD.out, HACT.out, HACS.out, if_neg HQ11.out, if_neg (by rw [z1, z2]; simp), z1, z2]
              refine Prod.ext rfl ?_
              simp
            have HMO := hide (fun V => l8more_any r.moves V HRK.out.m0 HRK.out.m1)
            clear z1 z2
            have HR6 := hide (HRO5.out.setCel na)
            have HROW6 := hide (HROW5.out.set1 (k := 0) hPi (by omega) _ _ HR6.out)
            go_wp2_with fail
            refine (HMO.out _).mono ?_
            rintro e w7 ⟨rfl, hw7⟩
            subst hw7
            go_wp2
            go_roundw
            case rel =>
              refine ⟨i + 1, by omega, by go_num, by rw [HN2.out], ?_, (HTB5.out.other _ _ (by omega)).other _ _ (by omega), (HBE5.out.setCell (show w.heap.size ≤ R by omega) _).setCell (show w.heap.size ≤ R by omega) _⟩
              rw [HN2.out]
              have h7 := HROW6.out.set1 (i := i) (k := 2) (by rw [List.length_set]; exact hPi) (by omega) _ _ (HR6.out.setMoves (roMore r.moves))
              rw [List.set_set] at h7
              exact h7
            case measure => simp [intOf]; omega
    · have e : i = L.length := by omega
      subst e
      have hge : ¬ (L.length : Int) < (L.length : Int) := by omega
      go_wp2
      go_ret2
      exact ⟨_, rfl, R, HROW.out, HNA.out, by omega, HBE.out⟩
end Go.Proofs.YteicpjbeihabnaaDoor
