/-
  The walks of oneMore, act.
-/
import Derived.Test.YteicpjbeihabnaaDoorJRunFleetINF
namespace Go.Proofs.YteicpjbeihabnaaDoor
open Go.RowKit

set_option maxRecDepth 1000000 in
theorem oneMore_any (v : Int) (w : World) (h0 : 0 ≤ v) (h1 : v ≤ 1000000) : Calls Tryd.prog 87 #[.int .i64 v] w fun e w' => e = .returned (.int .i64 (roMore v)) ∧ w' = w := by
  by_cases q : v < 1000000
  · have HE : Hid (roMore v = v + 1) := if_pos q
    have t : min (v + 1) 1000000 = v + 1 := by omega
    go_enter Tryd.func87, Tryd.ntmps87
    go_wp2
    go_ret
    exact ⟨by rw [HE.out]; rfl, rfl⟩
  · have HE : Hid (roMore v = v) := if_neg q
    obtain rfl : v = 1000000 := by omega
    clear q h0 h1
    go_enter Tryd.func87, Tryd.ntmps87
    go_wp2
    go_ret
    exact ⟨by rw [HE.out]; rfl, rfl⟩

/-- A cell of the grid is a number of its kind. -/
theorem w64_small {n : Int} (h0 : 0 ≤ n) (h1 : n ≤ 2000000) : W64 n := by simp [W64, Lit.wf, IntKind.min, IntKind.max, IntKind.signed, IntKind.bits]; omega

set_option maxHeartbeats 4000000 in
set_option maxRecDepth 1000000 in
theorem act_any (d : Tb) (v2 v3 v4 rv : Value) (L : List Ro) (F R M i : Nat) (w V : World) (hb : TbB d) (hmv : MvOk w) (h : TbV w d v2 v3 v4) (hV : Below w.heap.size w V) (hf : FlAt V F R M d v2 v3 v4 rv L (tkn L) (nds L)) (hok : VfOk d L) (hi : i < L.length) :
    Calls Tryd.prog 80 #[.pointer (some ⟨F, 0, none⟩), .int .i64 i] V fun e V' => e = .returned (.tuple #[]) ∧ FlAt V' F R M d v2 v3 v4 rv (actL d L i) (tkn (actL d L i)) (nds (actL d L i)) ∧ Wrs [R, M] V V' := by
  have HNX := hide (fun U (i c : Nat) (hU : Below w.heap.size w U) hi hc => nextCell_any d v2 v3 v4 i c U hb (h.below hU) hok.tb hi hc (hmv.below hU))
  have hL30 := hok.len
  have HOK := hide hok
  have HV := hide hV
  have HF := hide hf
  obtain ⟨a2, c2, rfl⟩ := h.targets.slice
  obtain ⟨a3, c3, rfl⟩ := h.dist.slice
  obtain ⟨a4, c4, rfl⟩ := h.hop.slice
  obtain ⟨ar, cr, hrv, har⟩ := hf.row.slc
  subst hrv
  obtain rfl := har (by omega)
  have hro := hf.row.each i hi
  obtain ⟨cur, hcur, hcs⟩ := hf.row.blk (by omega)
  have hrk := hok.each i hi
  have HST := hide (hok.step hi)
  have HAL : Hid (actL d L i = L.set i (actR d L (L.getD i .zero))) := rfl
  have HTD := hide (fun (hn : (L.getD i .zero).done = false) (r' : Ro) (hr : r'.done = true) c => tkn_done hok hi hn hr c)
  have HTW := hide (fun (hn : (L.getD i .zero).done = false) (r' : Ro) (hr : r'.done = false) c => tkn_went hok hi hn hr c)
  have HTS := hide (fun (r' : Ro) (hd : r'.done = (L.getD i .zero).done) (hc : r'.cell = (L.getD i .zero).cell) c => tkn_same (L := L) hi hd hc c)
  have HNS := hide (fun (r' : Ro) => nds_set hi r')
  obtain ⟨r, hr⟩ : ∃ r, L.getD i .zero = r := ⟨_, rfl⟩
  rw [hr] at hro hrk HST HAL HTD HTW HTS HNS
  have HRD := hide hr
  have HRO := hide hro
  have HRK := hide hrk
  have HCUR := hide hcur
  obtain ⟨e0, e1, e2, e3, e4⟩ := hro
  have z0 := hf.blk.cell 0
  have z1 := hf.blk.cell 1
  have z2 := hf.blk.cell 2
  have z3 := hf.blk.cell 3
  have z4 := hf.blk.cell 4
  have z5 := hf.blk.cell 5
  have z6 := hf.blk.cell 6
  simp only [List.getElem?_toArray, List.getElem?_cons_succ, List.getElem?_cons_zero] at z0 z1 z2 z3 z4 z5 z6
  clear h hb hf hok hmv hV hr hrk hcur hcs har
  have hii : (i : Int) < (L.length : Int) := by omega
  obtain ⟨X, Y, T, Ds, Hs⟩ := d
  unfold tbagg at HNX
  simp only at HNX z0 z1 z2 z3 z4 z5 z6
  obtain ⟨dn, hdn⟩ : ∃ b, r.done = b := ⟨_, rfl⟩
  rw [hdn] at e4
  cases dn with
  | true =>
    have HE : Hid (actL ⟨X, Y, T, Ds, Hs⟩ L i = L) := by
      show _ = _
      rw [HAL.out]
      unfold actR
      rw [if_pos hdn, ← HRD.out, getD_at hi]
      exact List.set_getElem_self hi
    clear hdn
    go_enter Tryd.func80, Tryd.ntmps80
    go_wp2
    refine bodyPost_ret (results_none rfl _ _ _) rfl ?_
    refine ⟨rfl, ?_, Wrs.refl _ _⟩
    rw [HE.out]
    exact HF.out
  | false =>
  obtain ⟨q0, q1, q2, q3⟩ := HRK.out.ask
  have hn1 : X * Y ≤ 1600 := by
    have := Int.mul_le_mul HOK.out.tb.w1 HOK.out.tb.h1 (by have := HOK.out.tb.h0; omega) (by omega)
    simpa using this
  obtain ⟨tg, htg⟩ : ∃ t : Nat, r.target = t := ⟨r.target.toNat, by omega⟩
  obtain ⟨ce, hce⟩ : ∃ t : Nat, r.cell = t := ⟨r.cell.toNat, by omega⟩
  have HNC := hide (fun U (hU : Below w.heap.size w U) => HNX.out U tg ce hU (by simp only at q1; omega) (by simp only at q3; omega))
  have hA : nxA ⟨X, Y, T, Ds, Hs⟩ tg ce = roA ⟨X, Y, T, Ds, Hs⟩ r := by unfold roA; rw [htg, hce]; rfl
  have hB : nxB ⟨X, Y, T, Ds, Hs⟩ tg ce = roB ⟨X, Y, T, Ds, Hs⟩ r := by unfold roB; rw [htg, hce]; rfl
  simp only [hA, hB] at HNC
  have hbc := roB_cases ⟨X, Y, T, Ds, Hs⟩ r
  have HACT : Hid (actR ⟨X, Y, T, Ds, Hs⟩ L r = if roB ⟨X, Y, T, Ds, Hs⟩ r = 11 then { r with done := true } else if roB ⟨X, Y, T, Ds, Hs⟩ r = 10 ∨ tkn L (roA ⟨X, Y, T, Ds, Hs⟩ r) = true then { r with waits := roMore r.waits } else { r with cell := roA ⟨X, Y, T, Ds, Hs⟩ r, moves := roMore r.moves }) := by
    show _ = _
    unfold actR
    rw [if_neg (by rw [hdn]; exact Bool.false_ne_true)]
  obtain ⟨na, hna⟩ : ∃ z, roA ⟨X, Y, T, Ds, Hs⟩ r = z := ⟨_, rfl⟩
  obtain ⟨nb, hnb⟩ : ∃ z, roB ⟨X, Y, T, Ds, Hs⟩ r = z := ⟨_, rfl⟩
  simp only [hna, hnb] at HNC HACT hbc HST
  have HTK : Hid (tkn L (ce : Int) = true) := (tkn_iff _ _).2 ⟨i, hi, by rw [HRD.out]; exact hdn, by rw [HRD.out]; exact hce⟩
  have hwce : W64 (ce : Int) := w64_small (by omega) (by simp only at q3; omega)
  have HWCE := hide hwce
  rw [htg] at e1
  rw [hce] at e0
  have HDN := hide hdn
  have HCE := hide hce
  have HN16 := hide hn1
  clear hA hB hna hnb q0 q1 q2 q3 htg hdn hce hwce hn1 HNX
  go_enter Tryd.func80, Tryd.ntmps80
  go_wp2_with fail
  apply key_rest
  · intro HKEY
    go_region_with (go_at_call 52; refine (HNC.out _ (by exact HV.out.drew)).mono ?_; rintro e w5 ⟨rfl, hb5⟩; have hbv : Below V.heap.size V w5 := (Below.refl _ _).drew.trans hb5; have HBV := hide hbv; clear hb5 hbv)
    all_goals
      revert HBV
      revert w5
      exact HKEY.out
  intro w5 HBV
  have HF5 := hide (HF.out.below HBV.out)
  have HRO5 := hide (HRO.out.below HBV.out)
  have HCUR5 := hide (HCUR.out.below HBV.out)
  have HW5 : Hid (Wrs [R, M] V w5) := Wrs.of_below HBV.out
  have HMF5 := hide HF5.out.mf
  have HRM5 := hide HF5.out.rm
  obtain ⟨g0, g1, g2, g3, g4⟩ := HRO5.out
  have y6 := HF5.out.blk.cell 6
  simp only [List.getElem?_toArray, List.getElem?_cons_succ, List.getElem?_cons_zero] at y6
  rw [HCE.out] at g0
  clear e0 e1 e2 e3 e4 z0 z1 z2 z3 z4 z5 z6 HF HRO HCUR HNC HBV HV
  rcases hbc with rfl | rfl | rfl
  · have HE : Hid (actL ⟨X, Y, T, Ds, Hs⟩ L i = L.set i { r with done := true }) := by
      show _ = _
      rw [HAL.out, HACT.out, if_pos rfl]
    have hFd := HF5.out.below ((Below.refl _ _).drew)
    obtain ⟨w6, hd6, hm6, hg6, hz6, hp6⟩ := hFd.map.del HWCE.out HTK.out 0
    have HF6 := hide (hFd.turned hg6 hm6)
    have HW6 : Hid (Wrs [R, M] V w6) := (HW5.out.trans (Wrs.of_below (Below.refl _ _).drew)).trans (wrs_turned R hg6)
    have hro6 := HF6.out.row.each i hi
    rw [HRD.out] at hro6
    have HRO6 := hide hro6
    obtain ⟨cur6, hcur6, _⟩ := HF6.out.row.blk (by omega)
    have k4 := hro6.done
    rw [HDN.out] at k4
    have l4 := hcur6.frozen (i * 5 + 4)
    have HP6 := hide hp6
    clear hFd hm6 hg6 hz6 hp6 hro6 hcur6
    go_wp2_with fail
    go_region
    go_wp2
    go_end0
    refine ⟨rfl, ?_, HW6.out.set (by simp) _⟩
    rw [HE.out]
    refine (HF6.out.set hi (by omega) _ _ (HRO6.out.setDone true)).ext (fun c => ?_) ?_
    · rw [HTD.out HDN.out _ rfl, HCE.out]
    · have h1 := HNS.out { r with done := true }
      rw [if_pos HDN.out, if_neg (by simp)] at h1
      have h2 := HP6.out
      omega
  · have HE : Hid (actL ⟨X, Y, T, Ds, Hs⟩ L i = L.set i { r with waits := roMore r.waits }) := by
      show _ = _
      rw [HAL.out, HACT.out, if_neg (by decide), if_pos (.inl rfl)]
    have HMO := hide (fun V => oneMore_any r.waits V HRK.out.w0 HRK.out.w1)
    have l3 := HCUR5.out.frozen (i * 5 + 3)
    go_wp2_with fail
    refine (HMO.out _).mono ?_
    rintro e w7 ⟨rfl, hw7⟩
    subst hw7
    rename World => w5
    go_wp2
    go_end0
    refine ⟨rfl, ?_, HW5.out.set (by simp) _⟩
    rw [HE.out]
    refine (HF5.out.set hi (by omega) _ _ (HRO5.out.setWaits _)).ext (fun c => ?_) ?_
    · exact (HTS.out { r with waits := roMore r.waits } rfl rfl c).symm
    · have h1 := HNS.out { r with waits := roMore r.waits }
      rw [if_pos HDN.out] at h1
      omega
  · obtain ⟨s0, s1, s2⟩ := HST.out rfl
    obtain ⟨nx, rfl⟩ : ∃ n : Nat, na = n := ⟨na.toNat, by omega⟩
    have hwnx : W64 (nx : Int) := w64_small (by omega) (by have := HN16.out; omega)
    have HWNX := hide hwnx
    have HNE := hide s2
    have HIT := hide (isTaken_any HF5.out (nx : Int) hwnx)
    obtain ⟨tk, htk⟩ : ∃ b, tkn L (nx : Int) = b := ⟨_, rfl⟩
    rw [htk] at HIT HACT
    have HTKN := hide htk
    clear s0 s1 s2 hwnx htk
    cases tk with
    | true =>
      have HE : Hid (actL ⟨X, Y, T, Ds, Hs⟩ L i = L.set i { r with waits := roMore r.waits }) := by
        show _ = _
        rw [HAL.out, HACT.out, if_neg (by decide), if_pos (.inr rfl)]
      have HMO := hide (fun V => oneMore_any r.waits V HRK.out.w0 HRK.out.w1)
      have l3 := HCUR5.out.frozen (i * 5 + 3)
      go_wp2_with fail
      refine HIT.out.mono ?_
      rintro e w7 ⟨rfl, hw7⟩
      subst hw7
      rename World => w5
      go_wp2_with fail
      refine (HMO.out _).mono ?_
      rintro e w7 ⟨rfl, hw7⟩
      subst hw7
      rename World => w5
      go_wp2
      go_end0
      refine ⟨rfl, ?_, HW5.out.set (by simp) _⟩
      rw [HE.out]
      refine (HF5.out.set hi (by omega) _ _ (HRO5.out.setWaits _)).ext (fun c => ?_) ?_
      · exact (HTS.out { r with waits := roMore r.waits } rfl rfl c).symm
      · have h1 := HNS.out { r with waits := roMore r.waits }
        rw [if_pos HDN.out] at h1
        omega
    | false =>
      have HE : Hid (actL ⟨X, Y, T, Ds, Hs⟩ L i = L.set i { r with cell := (nx : Int), moves := roMore r.moves }) := by
        show _ = _
        rw [HAL.out, HACT.out, if_neg (by decide), if_neg (by simp)]
      have HMO := hide (fun V => oneMore_any r.moves V HRK.out.m0 HRK.out.m1)
      have hFd := HF5.out.below ((Below.refl _ _).drew)
      obtain ⟨w6, hd6, hm6, hg6, hz6, hp6⟩ := hFd.map.del HWCE.out HTK.out 0
      have hF6 := hFd.turned hg6 hm6
      have hW6 : Wrs [R, M] V w6 := (HW5.out.trans (Wrs.of_below (Below.refl _ _).drew)).trans (wrs_turned R hg6)
      have hnl : nds L - 1 < 1000 := by have := nds_le L; omega
      have hwi : W64 (i : Int) := w64_small (by omega) (by omega)
      obtain ⟨w7, hp7, hm7, hg7, hz7⟩ := hF6.map.put HWNX.out hwi hnl (by rw [HTKN.out]; rfl)
      have HF7 := hide (hF6.turned hg7 hm7)
      have HW7 : Hid (Wrs [R, M] V w7) := hW6.trans (wrs_turned R hg7)
      have y6b := hF6.blk.cell 6
      simp only [List.getElem?_toArray, List.getElem?_cons_succ, List.getElem?_cons_zero] at y6b
      have hro7 := HF7.out.row.each i hi
      rw [HRD.out] at hro7
      have HRO7 := hide hro7
      obtain ⟨cur7, hcur7, _⟩ := HF7.out.row.blk (by omega)
      have k0 := hro7.cell
      have k2 := hro7.moves
      have l0 := hcur7.frozen (i * 5)
      have l2 := hcur7.frozen (i * 5 + 2)
      have HP6 := hide hp6
      have HR8 := hide (HRO7.out.setCel (nx : Int))
      have HF8 := hide (HF7.out.set (k := 0) hi (by omega) _ _ HR8.out)
      clear hFd hm6 hg6 hz6 hp6 hF6 hW6 hnl hwi hm7 hg7 hz7 hro7 hcur7
      go_wp2_with fail
      refine HIT.out.mono ?_
      rintro e wx ⟨rfl, hwx⟩
      subst hwx
      rename World => w5
      go_wp2_with fail
      go_region
      go_wp2_with fail
      refine (HMO.out _).mono ?_
      rintro e wx ⟨rfl, hwx⟩
      subst hwx
      go_wp2
      go_end0
      refine ⟨rfl, ?_, (HW7.out.set (by simp) _).set (by simp) _⟩
      rw [HE.out]
      have h8 := HF8.out.set (i := i) (k := 2) (by rw [List.length_set]; exact hi) (by omega) _ _ (HR8.out.setMoves (roMore r.moves))
      rw [List.set_set] at h8
      refine h8.ext (fun c => ?_) ?_
      · rw [HTW.out HDN.out { r with cell := (nx : Int), moves := roMore r.moves } HDN.out, HCE.out]
      · have h1 := HNS.out { r with cell := (nx : Int), moves := roMore r.moves }
        rw [if_pos HDN.out] at h1
        have h2 := HP6.out
        omega
end Go.Proofs.YteicpjbeihabnaaDoor
