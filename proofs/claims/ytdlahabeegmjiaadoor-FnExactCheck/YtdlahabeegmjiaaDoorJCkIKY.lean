/-
  The walk of impl's fits, by what expressions do.
  The walk of impl's expression.
-/
import Derived.Test.YtdlahabeegmjiaaDoorJCkIKC
namespace Go.Proofs.YtdlahabeegmjiaaDoor
open Go.RowKit

/-- What an expression does. -/
def XC (w1 : World) (tv : Value) (L : List Nd) (B MM C f : Nat) : Prop := ∀ F i S M s bv n V, f ≤ F → Gd L f i → 16 ≤ (ndA L i).kind → (ndA L i).kind ≤ 22 → CiA w1 V tv L B MM C S M s bv n → n ≤ 100000 →
  Calls Tryd.prog 54 #[.pointer (some ⟨C, 0, none⟩), .int .i64 (i : Nat)] V (XQ w1 tv L B MM C S M bv n V (.int .i64 (xI L F s i).1) (xI L F s i).2)
/-- What changes while a checker goes on. -/
def CiX (C S M : Nat) (bv : Value) (k : Nat) : Prop := k = C ∨ ScX S M bv k
theorem CiA.xlt {w1 V : World} {tv : Value} {L : List Nd} {B MM C S M n : Nat} {s : Ci} {bv : Value} (h : CiA w1 V tv L B MM C S M s bv n) : ∀ k, CiX C S M bv k → w1.heap.size ≤ k ∧ k < V.heap.size := fun k hk => by
  have hms := h.sc.ms
  have hlm := h.lm
  rcases hk with rfl | rfl | rfl | hk
  · exact ⟨h.lc, h.blk.lt⟩
  · exact ⟨by omega, h.sc.blk.lt⟩
  · exact ⟨hlm, h.sc.map.lt⟩
  · have := h.sc.row.lt k hk
    exact ⟨by omega, this.2⟩
/-- .. where other blocks change. -/
theorem CiA.gw2 {P : Nat → Prop} {w1 V V' : World} {tv : Value} {L : List Nd} {B MM C S M n : Nat} {s : Ci} {bv : Value} (h : CiA w1 V tv L B MM C S M s bv n) (hg : Gw P V V') (hp : ∀ k, CiX C S M bv k ∨ k < w1.heap.size → ¬ P k) : CiA w1 V' tv L B MM C S M s bv n :=
  ⟨hg.blk h.blk (hp _ (.inl (.inl rfl))), h.sc.gw hg (fun _ hk => hp _ (.inl (.inr hk))), hg.below h.bl h.bl.size (fun _ hk => hp _ (.inr hk)), h.lm, h.lc, h.cx⟩
/-- fits under way. -/
structure FtI (w1 : World) (tv : Value) (L : List Nd) (B MM C S M : Nat) (bv : Value) (n F : Nat) (V : World) (X : List Nat) (R : List Int × Ci) (k : Nat) (gv : Value) (ts : List Int) (s : Ci) (wr : World) : Prop where
  run : xAll (xI L F) (X.drop k) s ts = R
  own : wr.ownsRow V.heap.size 3 1 gv ts.length (inv ts)
  chk : CiA w1 wr tv L B MM C S M s bv n
  gw : Gw (· = C) V wr
  len : ts.length = k
theorem xAll_step {x : Ci → Nat → Int × Ci} {X : List Nat} {k i : Nat} {s : Ci} {ts : List Int} (h : X[k]? = some i) : xAll x (X.drop k) s ts = xAll x (X.drop (k + 1)) (x s i).2 (ts ++ [(x s i).1]) := by
  have hlt : k < X.length := by
    rcases Nat.lt_or_ge k X.length with g | g
    · exact g
    · rw [List.getElem?_eq_none g] at h; cases h
  rw [List.drop_eq_getElem_cons hlt]
  have e : X[k] = i := by rw [List.getElem?_eq_getElem hlt] at h; injection h
  rw [e, xAll]

set_option maxHeartbeats 4000000 in
set_option maxRecDepth 1000000 in
theorem fit_any {w1 V : World} {tv u : Value} {L : List Nd} {B MM C S M n : Nat} {s : Ci} {bv : Value} {f F i : Nat} {X : List Nat} (hR : OlR w1 tv L B MM) (IH : XC w1 tv L B MM C f) (hF : f ≤ F) (hil : i < L.length) (hX : IS w1 u (X.map fun (k : Nat) => (k : Int))) (hXg : ∀ k ∈ X, Gd L f k ∧ 16 ≤ (ndA L k).kind ∧ (ndA L k).kind ≤ 22) (hXl : X.length ≤ 4000)
    (h4 : (ndA L i).kind = 4 → (ndA L i).names.length = 1 ∧ ∀ p ∈ (ndA L i).names, p.size ≤ 30) (h6 : (ndA L i).kind = 6 ∨ (ndA L i).kind = 21 → 0 < X.length) (h20 : (ndA L i).kind = 20 ∨ (ndA L i).kind = 14 ∨ (ndA L i).kind = 15 → 1 < X.length) (hA : CiA w1 V tv L B MM C S M s bv n) (hn : n ≤ 100000) :
    Calls Tryd.prog 55 #[.pointer (some ⟨C, 0, none⟩), .int .i64 (i : Nat), u] V (XQ w1 tv L B MM C S M bv n V (.bool (fitI L (xI L F) s i X).1) (fitI L (xI L F) s i X).2) := by
  obtain ⟨R, hRR⟩ : ∃ R, xAll (xI L F) X s [] = R := ⟨_, rfl⟩
  have HFI : Hid (fitI L (xI L F) s i X = fitR L i R) := by show _ = _; unfold fitI; rw [hRR]
  rw [HFI.out]
  obtain ⟨ua, ub, uo, uc, hu, hua, huc⟩ := hX
  rw [List.length_map] at hu hua huc
  subst hu
  obtain ⟨tb, tq, tc, vt, vn, vy, htv, hNC, hNV⟩ := hR.ns.nod hil
  subst htv
  have HST : Hid (FtI w1 (.slice (some ⟨tb, tq, none⟩) L.length tc) L B MM C S M bv n F V X R 0 (.slice none 0 0) [] s V) := ⟨by rw [List.drop_zero]; exact hRR, World.ownsRow_nil _ _ _ _, hA, Gw.refl _ _, rfl⟩
  have HCV : Hid (C < V.heap.size) := hA.blk.lt
  have HCX : Hid (∀ z, CiX C S M bv z → z < V.heap.size) := fun z hz => (hA.xlt z hz).2
  have HW1 : Hid (w1.heap.size ≤ V.heap.size) := hA.bl.size
  have HIH := hide IH
  have HXG := hide hXg
  have HUC := hide huc
  have HR := hide hR
  have HNC := hide hNC
  have HNV := hide hNV
  clear hA hRR HFI hXg IH huc hNC hNV
  go_enter Tryd.func55, Tryd.ntmps55
  go_wp2_with fail
  go_loopw [7, 9, 12] (fun gv _ ix wr => ∃ k : Nat, k ≤ X.length ∧ ix = .int .i64 k ∧ ∃ ts s', Hid (FtI w1 (.slice (some ⟨tb, tq, none⟩) L.length tc) L B MM C S M bv n F V X R k gv ts s' wr)) (fun _ _ ix _ => X.length - (intOf ix).toNat)
  case atStart => exact ⟨0, Nat.zero_le _, rfl, [], s, HST⟩
  case round =>
    obtain ⟨k, hk, rfl, ts, s', HI⟩ := hrel
    rename World => V2
    obtain ⟨ga, gc, hgv⟩ := own_sl HI.out.own
    subst hgv
    by_cases hlt : k < X.length
    · have hlti : (k : Int) < (X.length : Int) := by omega
      obtain ⟨j, hj⟩ : ∃ j, X[k]? = some j := ⟨X[k], List.getElem?_eq_getElem hlt⟩
      obtain rfl := hua (by omega)
      have x0 := cell_kept (HUC.out k hlt) HI.out.chk.bl
      have e1 : (X.map fun (k : Nat) => (k : Int)).getD k 0 = (j : Int) := by rw [List.getD_eq_getElem?_getD, List.getElem?_map, hj]; rfl
      rw [e1] at x0
      obtain ⟨hg, h16, h22⟩ := HXG.out j (List.mem_of_getElem? hj)
      have HCL := hide (HIH.out F j S M s' bv n V2 hF hg h16 h22 HI.out.chk hn)
      have HST2 := hide (xAll_step (x := xI L F) (s := s') (ts := ts) hj)
      obtain ⟨y, hy⟩ : ∃ y, xI L F s' j = y := ⟨_, rfl⟩
      rw [hy] at HCL HST2
      clear e1 hg h16 h22 hj hy
      go_wp2_with fail
      refine HCL.out.mono ?_
      rintro r V3 ⟨rfl, hA3, hG3⟩
      have hO3 := hG3.own HI.out.own (fun g hg q => by have := (World.ownsRow.lt HI.out.own g hg).1; have := HCV.out; omega)
      have HO3 := hide (hO3.alloc (.cells #[.int .i64 y.1] 3))
      have HBk := hide (Cs.of_blk (Blk.new V3 3 #[.int .i64 y.1]))
      have HSZ : Hid (V.heap.size ≤ (V3.alloc (.cells #[.int .i64 y.1] 3)).heap.size) := by
        show _ ≤ _
        rw [World.size_alloc]
        have := HI.out.gw.size
        have := hG3.size
        omega
      have htl : ts.length + 1 ≤ 10000000 := by have := HI.out.len; omega
      have HA3 := hide hA3
      have HG3 := hide hG3
      clear hA3 hG3 hO3
      go_wp2_with (at_builtin; refine wp_appGIn rfl (.tmp 16) (.tmp 20) rfl V.heap.size _ _ _ rfl HO3.out V3.heap.size 0 1 1 [.int .i64 y.1] rfl rfl (fun j u hj => by rw [Nat.zero_add]; exact HBk.out j u hj) (fun u hu => by rw [List.mem_singleton.1 hu]; rfl) htl HSZ.out ?_)
      intro v' V4 hown hgr hat
      have hG4 : Gw (fun z => Value.ownBlock (.slice ga ts.length gc) = some z) (V3.alloc (.cells #[.int .i64 y.1] 3)) V4 := Gw.of_grown hgr (fun _ hk _ => hk)
      have hba : Below V3.heap.size V3 (V3.alloc (.cells #[.int .i64 y.1] 3)) := (Below.refl _ _).alloc (Nat.le_refl _) _
      have hlo : ∀ z, Value.ownBlock (.slice ga ts.length gc) = some z → V.heap.size ≤ z := fun z hz => (World.ownsRow.lt HI.out.own z hz).1
      have HR4 : Hid (FtI w1 (.slice (some ⟨tb, tq, none⟩) L.length tc) L B MM C S M bv n F V X R (k + 1) v' (ts ++ [y.1]) y.2 V4) := by
        refine ⟨by rw [← HST2.out]; exact HI.out.run, ?_, (HA3.out.below hba).gw2 hG4 (fun z hz q => ?_), ?_, by rw [List.length_append, HI.out.len]; rfl⟩
        · have e : inv (ts ++ [y.1]) = inv ts ++ [Value.int .i64 y.1] := by unfold inv; rw [List.map_append]; rfl
          rw [e, List.length_append]
          exact hown
        · have h1 := hlo z q
          rcases hz with hz | hz
          · have h2 := HCX.out z hz
            omega
          · have := HI.out.chk.bl.size
            have := HW1.out
            omega
        · exact ((HI.out.gw.trans HG3.out (fun _ _ q => q)).trans (Gw.of_below (P := (· = C)) hba) (fun _ _ q => q)).trans hG4 (fun z hz q => absurd (hlo z q) (by omega))
      obtain ⟨va, vc, rfl⟩ := own_sl hown
      clear hown hgr hat hG4 hba hlo HO3 HBk HSZ HA3 HG3 HCL HST2
      go_wp2
      go_roundw
      case rel => exact ⟨k + 1, by omega, by go_num, _, _, HR4⟩
      case measure => simp [intOf]; omega
    · obtain rfl : k = X.length := by omega
      have hge : ¬ (X.length : Int) < (X.length : Int) := by omega
      have hrun := HI.out.run
      rw [List.drop_length, xAll] at hrun
      subst hrun
      have hIS : IS V2 (.slice ga ts.length gc) ts := RwG.is (RwG.of_own (G := fun _ => True) HI.out.own (fun _ _ => trivial))
      have htl : ts.length ≤ 100000 := by have := HI.out.len; omega
      have hcap : ts.length ≤ gc := by
        rcases HI.out.own.2 with ⟨h1, h0⟩ | ⟨_, _, _, hv', _, _, hn', _⟩
        · omega
        · injection hv' with _ _ hv'; omega
      have HCN := hide (contains_any (x := -1) hIS (by omega))
      have c0 := HI.out.chk.blk.cell 0
      simp only [List.getElem?_toArray, List.getElem?_cons_zero] at c0
      obtain ⟨n0, n1, n2, n3, n4, n5⟩ := HNC.out.below HI.out.chk.bl
      have hili : (i : Int) < (L.length : Int) := by omega
      have HTK := hide (takes_any (d := ndA L i) (vt := vt) (vn := vn) (vy := vy) HR.out HI.out.chk HNV.out.names h4 hIS htl (fun a l c h => by injection h with _ h1 h2; omega) (fun h => by rw [HI.out.len]; exact h6 h) (fun h => by rw [HI.out.len]; exact h20 h))
      have HFT := hide (fun W (hW : Below V2.heap.size V2 W) => fTf_any (HI.out.chk.below hW) i)
      have HA2 := hide HI.out.chk
      have HG2 := hide HI.out.gw
      unfold nagg at HTK
      obtain ⟨d, hd⟩ : ∃ d, ndA L i = d := ⟨_, rfl⟩
      have HE : Hid (fitR L i (ts, s') = if ts.contains (-1) then (false, s') else if tkI L d ts then (true, s') else (false, s'.fT i)) := by show _ = _; unfold fitR; rw [hd]
      rw [hd] at n0 n1 n5 HTK HNV
      obtain ⟨a1, c1, a2, c2, a3, c3, hvt, hvn, hvy⟩ := HNV.out.slc
      subst hvt hvn hvy
      clear hd hIS hcap h4 h6 h20 HI
      by_cases qc : ts.contains (-1) = true
      · rw [qc] at HCN
        rw [if_pos qc] at HE
        clear qc
        go_wp2_with fail
        refine HCN.out.mono ?_
        rintro r w' ⟨rfl, rfl⟩
        go_wp2
        go_ret
        rw [HE.out]
        exact ⟨rfl, HA2.out, HG2.out⟩
      · rw [if_neg qc] at HE
        have qf : ts.contains (-1) = false := by simpa using qc
        rw [qf] at HCN
        clear qc qf
        by_cases qt : tkI L d ts = true
        · rw [qt] at HTK
          rw [if_pos qt] at HE
          clear qt
          go_wp2_with fail
          refine HCN.out.mono ?_
          rintro r w' ⟨rfl, rfl⟩
          go_wp2_with fail
          refine HTK.out.mono ?_
          rintro r V3 ⟨rfl, hb3⟩
          have HB3 := hide hb3
          clear hb3
          go_wp2
          go_ret
          rw [HE.out]
          exact ⟨rfl, HA2.out.below HB3.out, HG2.out.trans (Gw.of_below (P := (· = C)) HB3.out) (fun _ _ q => q)⟩
        · rw [if_neg qt] at HE
          have qf : tkI L d ts = false := by simpa using qt
          rw [qf] at HTK
          clear qt qf
          go_wp2_with fail
          refine HCN.out.mono ?_
          rintro r w' ⟨rfl, rfl⟩
          go_wp2_with fail
          refine HTK.out.mono ?_
          rintro r V3 ⟨rfl, hb3⟩
          have HB3 := hide hb3
          clear hb3
          go_wp2_with fail
          refine (HFT.out _ HB3.out).mono ?_
          rintro r V4 ⟨rfl, hA4, hG4⟩
          have HA4 := hide hA4
          have HG4 := hide hG4
          clear hA4 hG4
          go_wp2
          go_ret
          rw [HE.out]
          exact ⟨rfl, HA4.out, (HG2.out.trans (Gw.of_below (P := (· = C)) HB3.out) (fun _ _ q => q)).trans HG4.out (fun _ _ q => q)⟩
end Go.Proofs.YtdlahabeegmjiaaDoor

namespace Go.Proofs.YtdlahabeegmjiaaDoor
open Go.RowKit

theorem OlR.row {w1 : World} {tv : Value} {L : List Nd} {B MM : Nat} (h : OlR w1 tv L B MM) {i : Nat} (hi : i < L.length) : ∃ a c, w1.cell? ⟨B, i, none⟩ = some (.slice a (kidsOf L i).length c) ∧ IS w1 (.slice a (kidsOf L i).length c) ((kidsOf L i).map fun (k : Nat) => (k : Int)) ∧ (kidsOf L i).length ≤ c := by
  obtain ⟨u, h1, h2⟩ := h.kid i hi
  obtain ⟨a, c, rfl⟩ := own_sl h2
  refine ⟨a, c, h1, RwG.is (RwG.of_own (G := fun _ => True) (by rw [List.length_map]; exact h2) (fun _ _ => trivial)), ?_⟩
  rcases h2.2 with ⟨_, h0⟩ | ⟨_, _, _, hv', _, _, hn', _⟩
  · omega
  · injection hv' with _ _ hv'; omega

set_option maxHeartbeats 4000000 in
set_option maxRecDepth 1000000 in
theorem x_succ {w1 : World} {tv : Value} {L : List Nd} {B MM C f : Nat} (hR : OlR w1 tv L B MM) (hf : f + 1 ≤ 60) (IH : XC w1 tv L B MM C f) : XC w1 tv L B MM C (f + 1) := by
  intro F0 i S M s bv n V hF hg h16 h22 hA hn
  obtain ⟨F, rfl⟩ : ∃ F, F0 = F + 1 := ⟨F0 - 1, by omega⟩
  have hil := (hg.step hf).1
  have hili : (i : Int) < (L.length : Int) := by omega
  have hL4 := (vT_good hR.vt).2.1
  obtain ⟨tb, tq, tc, vt, vn, vy, htv, hNC, hNV⟩ := hR.ns.nod hil
  have HR := hide hR
  subst htv
  obtain ⟨n0, n1, n2, n3, n4, n5⟩ := hNC.below hA.bl
  obtain ⟨a1, c1, a2, c2, a3, c3, rfl, rfl, rfl⟩ := hNV.slc
  have c0 := hA.blk.cell 0
  simp only [List.getElem?_toArray, List.getElem?_cons_zero] at c0
  have HG := hide hg
  have HA := hide hA
  obtain ⟨d, hd⟩ : ∃ d, ndA L i = d := ⟨_, rfl⟩
  have HD := hide hd
  rw [hd] at n0 n1 n2 n3 n4 n5
  obtain ⟨Va, hVa⟩ : ∃ W, World.alloc V (.cells #[.int .i64 0, .int .i64 0, .slice none 0 0, .slice none 0 0, .slice none 0 0, .int .i64 0] 42) = W := ⟨_, rfl⟩
  have hOb : Blk Va (World.heap V).size 42 #[.int .i64 0, .int .i64 0, .slice none 0 0, .slice none 0 0, .slice none 0 0, .int .i64 0] := by rw [← hVa]; exact Blk.new _ _ _
  have o0 := hOb.cell 0
  have of0 := hOb.frozen 0
  have o1 := hOb.cell 1
  have of1 := hOb.frozen 1
  have o2 := hOb.cell 2
  have of2 := hOb.frozen 2
  have o3 := hOb.cell 3
  have of3 := hOb.frozen 3
  have o4 := hOb.cell 4
  have of4 := hOb.frozen 4
  have o5 := hOb.cell 5
  have of5 := hOb.frozen 5
  simp only [List.getElem?_toArray, List.getElem?_cons_succ, List.getElem?_cons_zero] at o0 o1 o2 o3 o4 o5
  obtain ⟨V2, hV2⟩ : ∃ W, set6w Va (World.heap V).size (.int .i64 (d).kind) (.int .i64 (d).n) (.slice a1 (d).text.size c1) (.slice a2 (d).names.length c2) (.slice a3 (d).types.length c3) (.int .i64 (d).count) = W := ⟨_, rfl⟩
  have hCp : Blk V2 (World.heap V).size 42 #[.int .i64 (d).kind, .int .i64 (d).n, .slice a1 (d).text.size c1, .slice a2 (d).names.length c2, .slice a3 (d).types.length c3, .int .i64 (d).count] := by rw [← hV2]; exact hOb.set6w _ _ _ _ _ _
  have hBl : Below (World.heap V).size V V2 := by
    have hA : Below (World.heap V).size V Va := by rw [← hVa]; exact (Below.refl _ _).alloc (Nat.le_refl _) _
    rw [← hV2]
    exact (((((hA.setCell (Nat.le_refl _) _).setCell (Nat.le_refl _) _).setCell (Nat.le_refl _) _).setCell (Nat.le_refl _) _).setCell (Nat.le_refl _) _).setCell (Nat.le_refl _) _
  unfold set6w at hV2
  have HBl := hide hBl
  have m0 := hCp.cell 0
  have HCp := hide hCp
  simp only [List.getElem?_toArray, List.getElem?_cons_zero] at m0
  have hA2 := hA.below hBl
  have HA2 := hide hA2
  have p1 := hA2.blk.cell 1
  simp only [List.getElem?_toArray, List.getElem?_cons_succ, List.getElem?_cons_zero] at p1
  by_cases q19 : d.kind = 19
  · have HVR := hide (variable_any hR (by omega) hg (by rw [hd]; exact q19) hA2 hn)
    have HE : Hid (xI L (F + 1) s i = (((vrT s.vars ((ndA L i).names.getD 0 .empty)).getD (-1)), (if (vrT s.vars ((ndA L i).names.getD 0 .empty)).isSome then s else s.fN i))) := by
      show _ = _
      rw [xI, if_pos (by rw [hd]; exact q19)]
      cases vrT s.vars ((ndA L i).names.getD 0 .empty) <;> rfl
    rw [q19] at n0 m0 hV2
    rw [HE.out]
    obtain ⟨x1, hx1⟩ : ∃ x, (vrT s.vars ((ndA L i).names.getD 0 .empty)).getD (-1) = x := ⟨_, rfl⟩
    obtain ⟨x2, hx2⟩ : ∃ x, (if (vrT s.vars ((ndA L i).names.getD 0 .empty)).isSome then s else s.fN i) = x := ⟨_, rfl⟩
    rw [hx1, hx2] at HVR
    rw [hx1, hx2]
    clear hR hg hA hNC hNV hd hA2 hBl hCp IH q19 hx1 hx2 HE p1
    go_enter Tryd.func54, Tryd.ntmps54
    go_wp2_with fail
    refine HVR.out.mono ?_
    rintro r V3 ⟨rfl, hA3, hG3⟩
    have HA3 := hide hA3
    have HG3 := hide hG3
    clear hA3 hG3
    go_wp2
    go_ret
    exact ⟨rfl, HA3.out, (Gw.of_below (P := (· = C)) HBl.out).trans HG3.out (fun _ _ q => q)⟩
  · have t19 : (d.kind == 19) = false := by rw [beq_eq_false_iff_ne]; exact q19
    obtain ⟨ka, kc, hk1, hk2, _⟩ := hR.row hil
    have k1 := cell_kept hk1 hA2.bl
    have hkd : (ndA L i).kind ≠ 19 := by rw [hd]; exact q19
    have hXg : ∀ k ∈ kidsOf L i, Gd L f k ∧ 16 ≤ (ndA L k).kind ∧ (ndA L k).kind ≤ 22 := fun k hk => by
      obtain ⟨j, hj, hjk⟩ := List.getElem_of_mem hk
      obtain ⟨h1, h2⟩ := hg.mem hf j k (by rw [List.getElem?_eq_getElem hj, hjk])
      exact ⟨h1, mSt_ex (by omega) (by omega) (by omega) h2⟩
    have hcnt := (hg.fld hf).1
    have HFT := hide (fit_any (F := F) hR IH (by omega) hil hk2 hXg (Nat.le_trans (kds_le hf hg) hL4) (fun h => by omega) (fun h => by
      rw [kids_len]
      unfold vCnt at hcnt
      rcases h with h | h
      · omega
      · rw [h] at hcnt; simp at hcnt; omega) (fun h => by
      rw [kids_len]
      unfold vCnt at hcnt
      rcases h with h | h | h
      · rw [h] at hcnt; simp at hcnt; omega
      · omega
      · omega) hA2 hn)
    have HE : Hid (xI L (F + 1) s i = ((if (fitI L (xI L F) s i (kidsOf L i)).1 then tgI d else -1), (fitI L (xI L F) s i (kidsOf L i)).2)) := by
      show _ = _
      rw [xI, if_neg hkd, hd]
    rw [HE.out]
    obtain ⟨y, hy⟩ : ∃ y, fitI L (xI L F) s i (kidsOf L i) = y := ⟨_, rfl⟩
    rw [hy] at HFT ⊢
    obtain ⟨X, hX⟩ : ∃ X, kidsOf L i = X := ⟨_, rfl⟩
    rw [hX] at k1 HFT
    have HTG := hide (fun w => tgI_any d (.slice a1 d.text.size c1) (.slice a2 d.names.length c2) (.slice a3 d.types.length c3) w)
    unfold nagg at HTG
    have HVC : Hid (C < V.heap.size) := HA.out.blk.lt
    obtain ⟨y1, y2⟩ := y
    simp only at HFT ⊢
    clear hR hg hA hNC hNV hd hA2 hBl hCp IH q19 hk1 hk2 hXg hcnt hy hX hkd HE
    cases y1 with
    | true =>
      simp only [if_true]
      go_enter Tryd.func54, Tryd.ntmps54
      go_wp2_with fail
      refine HFT.out.mono ?_
      rintro r V3 ⟨rfl, hA3, hG3⟩
      have hC3 := hG3.blk HCp.out (fun q => by have q : V.heap.size = C := q; have := HVC.out; omega)
      have z0 := hC3.cell 0
      have z1 := hC3.cell 1
      have z2 := hC3.cell 2
      have z3 := hC3.cell 3
      have z4 := hC3.cell 4
      have z5 := hC3.cell 5
      simp only [List.getElem?_toArray, List.getElem?_cons_succ, List.getElem?_cons_zero] at z0 z1 z2 z3 z4 z5
      have HA3 := hide hA3
      have HG3 := hide hG3
      clear hA3 hG3 hC3
      go_wp2_with fail
      refine (HTG.out _).mono ?_
      rintro r V4 ⟨rfl, hb4⟩
      have HB4 := hide hb4
      clear hb4
      go_wp2
      go_ret
      exact ⟨rfl, HA3.out.below HB4.out, ((Gw.of_below (P := (· = C)) HBl.out).trans HG3.out (fun _ _ q => q)).trans (Gw.of_below (P := (· = C)) HB4.out) (fun _ _ q => q)⟩
    | false =>
      simp only [Bool.false_eq_true, if_false]
      go_enter Tryd.func54, Tryd.ntmps54
      go_wp2_with fail
      refine HFT.out.mono ?_
      rintro r V3 ⟨rfl, hA3, hG3⟩
      have hC3 := hG3.blk HCp.out (fun q => by have q : V.heap.size = C := q; have := HVC.out; omega)
      have z0 := hC3.cell 0
      have z1 := hC3.cell 1
      have z2 := hC3.cell 2
      have z3 := hC3.cell 3
      have z4 := hC3.cell 4
      have z5 := hC3.cell 5
      simp only [List.getElem?_toArray, List.getElem?_cons_succ, List.getElem?_cons_zero] at z0 z1 z2 z3 z4 z5
      have HA3 := hide hA3
      have HG3 := hide hG3
      clear hA3 hG3 hC3
      go_wp2
      go_ret
      exact ⟨rfl, HA3.out, (Gw.of_below (P := (· = C)) HBl.out).trans HG3.out (fun _ _ q => q)⟩
theorem x_all {w1 : World} {tv : Value} {L : List Nd} {B MM C : Nat} (hR : OlR w1 tv L B MM) : ∀ f, f ≤ 60 → XC w1 tv L B MM C f
  | 0, _ => fun F i S M s bv n V _ hg => by obtain ⟨g, h⟩ := hg.pos; omega
  | f + 1, hf => x_succ hR hf (x_all hR f (by omega))
end Go.Proofs.YtdlahabeegmjiaaDoor
