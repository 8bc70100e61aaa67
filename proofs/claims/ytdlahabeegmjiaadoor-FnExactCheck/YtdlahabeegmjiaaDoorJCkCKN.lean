/-
  The walks of spec.l3macro and l3typeFault.
  spec's checker in memory; l3typeFault.
  The walk of spec.l3typeOf.
-/
import Derived.Test.YtdlahabeegmjiaaDoorJCkTYP
import Derived.Test.YtdlahabeegmjiaaDoorJCkSGC
namespace Go.Proofs.YtdlahabeegmjiaaDoor
open Go.RowKit

theorem macL_step {L : List Nd} {nm : ByteArray} {X : List Nat} {k i : Nat} (h : X[k]? = some i) : macL L nm (X.drop k) = if (ndA L i).kind = 1 ∧ (ndA L i).names.getD 0 .empty = nm then (i : Int) else macL L nm (X.drop (k + 1)) := by
  have hlt : k < X.length := by
    rcases Nat.lt_or_ge k X.length with g | g
    · exact g
    · rw [List.getElem?_eq_none g] at h; cases h
  rw [List.drop_eq_getElem_cons hlt]
  have e : X[k] = i := by rw [List.getElem?_eq_getElem hlt] at h; injection h
  rw [e, macL]

set_option maxHeartbeats 4000000 in
set_option maxRecDepth 1000000 in
theorem l3macro_any {w0 w : World} {tv u : Value} {L : List Nd} {nm : ByteArray} (hT : vT L = true) (hN : NS w0 tv L) (hb : Below w0.heap.size w0 w) (hu : BS w0 u nm) :
    Calls Tryd.prog 26 #[tv, u] w fun r w' => r = .returned (.int .i64 (macA L nm)) ∧ Below w.heap.size w w' := by
  obtain ⟨hL0, hL4, hk0, hG⟩ := vT_good hT
  have hkg := (hG.step (by omega)).2.2.2.2
  have HK := hide (kids_gd (by omega) (by omega) hG (hN.below hb))
  have HGD : Hid (∀ (j k : Nat), (kidsOf L 0)[j]? = some k → Gd L 59 k) := fun j k h => (hkg j k h).1
  have hM : macA L nm = macL L nm (kidsOf L 0) := rfl
  obtain ⟨F, hF⟩ : ∃ F, macA L nm = F := ⟨_, rfl⟩
  rw [hF] at hM ⊢
  have hKL : (kidsOf L 0).length ≤ 1048576 := by
    rw [kids_len]
    obtain ⟨⟨e, h1⟩, _⟩ := hG
    rw [sE] at h1
    by_cases c : L.length ≤ 0 ∨ cn L 0 < 0 ∨ (L.length : Int) < cn L 0
    · rw [if_pos c] at h1; cases h1
    · have : (ndA L 0).count = cn L 0 := rfl
      omega
  obtain ⟨X, hX⟩ : ∃ X, kidsOf L 0 = X := ⟨_, rfl⟩
  rw [hX] at HK HGD hM hKL
  have HM := hide hM
  have HN := hide hN
  have HB := hide hb
  have HU := hide hu
  obtain ⟨tb, to, tc, _, _, _, htv, _, _⟩ := hN.nod hL0
  subst htv
  obtain ⟨ua, ub, uo, uc, rfl, _, _⟩ := hu
  clear hT hG hkg hF hX hM hN hb hk0
  go_enter Tryd.func26, Tryd.ntmps26
  go_wp2_with fail
  refine HK.out.mono ?_
  rintro r V ⟨kv, rfl, hks, hb1⟩
  obtain ⟨ka, kb, ko, kc, rfl, hka, hkc⟩ := hks
  rw [List.length_map] at *
  have HKA := hide hka
  have HKC := hide hkc
  have HB1 := hide (HB.out.trans (hb1.mono HB.out.size))
  have HBV := hide hb1
  clear hka hkc hb1 HK
  go_wp2_with fail
  go_loopw [6] (fun ix wr => ∃ k : Nat, k ≤ X.length ∧ ix = .int .i64 k ∧ macL L nm (X.drop k) = F ∧ Below V.heap.size V wr) (fun ix _ => X.length - (intOf ix).toNat)
  case atStart => exact ⟨0, Nat.zero_le _, rfl, by rw [List.drop_zero]; exact HM.out.symm, Below.refl _ _⟩
  case round =>
    obtain ⟨k, hk, rfl, hR, hbr⟩ := hrel
    rename World => V1
    have hbr0 := HB1.out.trans (hbr.mono HB1.out.size)
    by_cases hlt : k < X.length
    · have hlti : (k : Int) < (X.length : Int) := by omega
      obtain ⟨i, hi⟩ : ∃ i, X[k]? = some i := ⟨X[k], List.getElem?_eq_getElem hlt⟩
      rw [macL_step hi] at hR
      have hgd := HGD.out k i hi
      obtain ⟨g59, hg59⟩ := hgd.pos
      have hil : i < L.length := by
        have h59 : g59 = 58 := by omega
        subst h59
        exact (hgd.step (by omega)).1
      have hkcell := cell_kept (HKC.out k hlt) hbr
      have e1 : (X.map fun (k : Nat) => (k : Int)).getD k 0 = (i : Int) := by rw [List.getD_eq_getElem?_getD, List.getElem?_map, hi]; rfl
      rw [e1] at hkcell
      obtain rfl := HKA.out (by omega)
      obtain ⟨b', o', c', vt, vn, vy, e2, hNC, hNV⟩ := HN.out.nod hil
      injection e2 with e2 _ e3
      injection e2 with e2
      injection e2 with e2 e4
      subst e2 e3 e4
      have hNCr := hNC.below hbr0
      have hnm := hgd.fld (by omega)
      have hn1 : (ndA L i).kind = 1 → 0 < (ndA L i).names.length := fun h => by
        have := hnm.2.2.2.1
        unfold nOf at this
        rw [if_pos h] at this
        omega
      have HNV := hide hNV
      obtain ⟨a1, c1, a2, c2, a3, c3, rfl, rfl, rfl⟩ := hNV.slc
      obtain ⟨d, hd⟩ : ∃ d, ndA L i = d := ⟨_, rfl⟩
      rw [hd] at hR hNCr HNV hn1
      obtain ⟨n0, n1, n2, n3, n4, n5⟩ := hNCr
      have hili : (i : Int) < (L.length : Int) := by omega
      clear hNC hNV hgd hnm hd hg59
      obtain ⟨Va, hVa⟩ : ∃ W, World.alloc V1 (.cells #[.int .i64 0, .int .i64 0, .slice none 0 0, .slice none 0 0, .slice none 0 0, .int .i64 0] 42) = W := ⟨_, rfl⟩
      have hOb : Blk Va (World.heap V1).size 42 #[.int .i64 0, .int .i64 0, .slice none 0 0, .slice none 0 0, .slice none 0 0, .int .i64 0] := by rw [← hVa]; exact Blk.new _ _ _
      have o0 := hOb.cell 0
      have of0 := hOb.frozen 0
      have o1 := hOb.cell 1
      have of1 := hOb.frozen 1
      have o2 := hOb.cell 2
      have of2 := hOb.frozen 2
      have o3 := hOb.cell 3
      have of3 := hOb.frozen 3
      have o4 := hOb.cell 4
      have of4 := hOb.frozen 4
      have o5 := hOb.cell 5
      have of5 := hOb.frozen 5
      simp only [List.getElem?_toArray, List.getElem?_cons_succ, List.getElem?_cons_zero] at o0 o1 o2 o3 o4 o5
      obtain ⟨V2, hV2⟩ : ∃ W, set6w Va (World.heap V1).size (.int .i64 (d).kind) (.int .i64 (d).n) (.slice a1 (d).text.size c1) (.slice a2 (d).names.length c2) (.slice a3 (d).types.length c3) (.int .i64 (d).count) = W := ⟨_, rfl⟩
      have hCp : Blk V2 (World.heap V1).size 42 #[.int .i64 (d).kind, .int .i64 (d).n, .slice a1 (d).text.size c1, .slice a2 (d).names.length c2, .slice a3 (d).types.length c3, .int .i64 (d).count] := by rw [← hV2]; exact hOb.set6w _ _ _ _ _ _
      have hBl : Below (World.heap V1).size V1 V2 := by
        have hA : Below (World.heap V1).size V1 Va := by rw [← hVa]; exact (Below.refl _ _).alloc (Nat.le_refl _) _
        rw [← hV2]
        exact (((((hA.setCell (Nat.le_refl _) _).setCell (Nat.le_refl _) _).setCell (Nat.le_refl _) _).setCell (Nat.le_refl _) _).setCell (Nat.le_refl _) _).setCell (Nat.le_refl _) _
      unfold set6w at hV2
      have hbc := hbr.trans (hBl.mono hbr.size)
      have hbc0 := HB1.out.trans (hbc.mono HB1.out.size)
      have HBC := hide hbc
      have m0 := hCp.cell 0
      have m3 := hCp.cell 3
      simp only [List.getElem?_toArray, List.getElem?_cons_succ, List.getElem?_cons_zero] at m0 m3
      by_cases q1 : d.kind = 1
      · have t1 : (d.kind == 1) = true := by rw [beq_iff_eq]; exact q1
        obtain ⟨nb, no, nc, nu, e5, hnu, hbs⟩ := HNV.out.nm0 (hn1 q1)
        injection e5 with e5 _ e6
        subst e5 e6
        have hnur := cell_kept hnu hbc0
        have hbsr := hbs.below hbc0
        have hcv2 : ∀ j, (convert 31 9 (.slice ua nm.size uc)).run Tryd.prog (V2.drewN j) = .ok (.string nm) (V2.drewN j) := fun j => toStr_bs (HU.out.below (below_drewN hbc0 j))
        have hcv1 : ∀ j, (convert 31 9 nu).run Tryd.prog (V2.drewN j) = .ok (.string (d.names.getD 0 .empty)) (V2.drewN j) := fun j => toStr_bs (hbsr.below (below_drewN (Below.refl _ _) j))
        have hsd := str_dec (d.names.getD 0 .empty) nm
        have hnl := hn1 q1
        obtain ⟨na', nb', no', nc', rfl, _, _⟩ := hbs
        obtain ⟨y, hy⟩ : ∃ y, d.names.getD 0 .empty = y := ⟨_, rfl⟩
        rw [hy] at hR hcv1 hsd
        rw [q1] at hR n0 m0 hV2
        have hkc2 := cell_kept hkcell hBl
        have HY := hide hy
        rw [hy] at hnur
        clear hy hbsr hnu hbc hbc0 hbr0
        by_cases q2 : y = nm
        · rw [if_pos ⟨rfl, q2⟩] at hR
          rw [decide_eq_true q2] at hsd
          subst hR
          have HFB := hide (HBV.out.trans (HBC.out.mono HBV.out.size))
          clear q2
          go_wp2_with fail
          go_quiet (fail)
          go_wp2
          go_ret
          exact ⟨rfl, below_drewN HFB.out _⟩
        · rw [if_neg (fun q => q2 q.2)] at hR
          rw [decide_eq_false q2] at hsd
          have HR := hide hR
          clear q2 hR
          go_wp2_with fail
          go_quiet (fail)
          go_wp2
          go_roundw
          case rel => exact ⟨k + 1, by omega, by go_num, HR.out, below_drewN HBC.out _⟩
          case measure => simp [intOf]; omega
      · have t1 : (d.kind == 1) = false := by rw [beq_eq_false_iff_ne]; exact q1
        rw [if_neg (fun q => q1 q.1)] at hR
        have HR := hide hR
        obtain ⟨K, hK⟩ : ∃ K, d.kind = K := ⟨_, rfl⟩
        rw [hK] at t1 n0 m0 hV2
        clear q1 hR hbc hbc0 hbr0 hK hCp
        go_wp2_with fail
        go_quiet (fail)
        go_wp2
        go_roundw
        case rel => exact ⟨k + 1, by omega, by go_num, HR.out, below_drewN HBC.out _⟩
        case measure => simp [intOf]; omega
    · obtain rfl : k = X.length := by omega
      have hge : ¬ (X.length : Int) < (X.length : Int) := by omega
      rw [List.drop_length, macL] at hR
      subst hR
      have HFB := hide (HBV.out.trans (hbr.mono HBV.out.size))
      clear hbr hbr0
      go_wp2
      go_ret
      exact ⟨rfl, HFB.out⟩
end Go.Proofs.YtdlahabeegmjiaaDoor

namespace Go.Proofs.YtdlahabeegmjiaaDoor
open Go.RowKit

def vrOf (v : ByteArray × Int) : Vr := ⟨v.1, v.2, 0, 0, .empty⟩
/-- A checker in the block C; its variables in vv. -/
structure CkA (w0 V : World) (C : Nat) (tv : Value) (c : Ck) (vv : Value) (U : List Value) : Prop where
  blk : Blk V C 40 #[tv, vv, .int .i64 c.names, .int .i64 c.types]
  vo : VO w0 V (C + 1) vv (c.vars.map vrOf) U
  bl : Below w0.heap.size w0 V
  lo : w0.heap.size ≤ C
theorem CkA.gw {w0 V V' : World} {C : Nat} {tv : Value} {c : Ck} {vv : Value} {U : List Value} {P : Nat → Prop} (h : CkA w0 V C tv c vv U) (hg : Gw P V V') (hp : ∀ k, P k → V.heap.size ≤ k) : CkA w0 V' C tv c vv U :=
  ⟨hg.blk h.blk (fun q => by have := hp _ q; have := h.blk.lt; omega), h.vo.gw hg (fun k hk q => by have := hp _ q; have := (h.vo.own.lt k hk).2; omega), hg.below h.bl h.bl.size (fun k hk q => by have := hp _ q; have := h.bl.size; omega), h.lo⟩
theorem CkA.below {w0 V V' : World} {C : Nat} {tv : Value} {c : Ck} {vv : Value} {U : List Value} (h : CkA w0 V C tv c vv U) (hb : Below V.heap.size V V') : CkA w0 V' C tv c vv U := h.gw (P := fun _ => False) (Gw.of_below hb) (fun _ q => q.elim)
/-- Faults are put down. -/
theorem CkA.setN {w0 V : World} {C : Nat} {tv : Value} {c : Ck} {vv : Value} {U : List Value} (h : CkA w0 V C tv c vv U) (i : Int) : CkA w0 (V.setCell ⟨C, 2, none⟩ (.int .i64 i)) C tv { c with names := i } vv U :=
  ⟨h.blk.set 2 _, h.vo.gw (Gw.set V C 2 _) (fun k hk q => by have := (h.vo.own.lt k hk).1; omega), h.bl.setCell h.lo _, h.lo⟩
theorem CkA.setT {w0 V : World} {C : Nat} {tv : Value} {c : Ck} {vv : Value} {U : List Value} (h : CkA w0 V C tv c vv U) (i : Int) : CkA w0 (V.setCell ⟨C, 3, none⟩ (.int .i64 i)) C tv { c with types := i } vv U :=
  ⟨h.blk.set 3 _, h.vo.gw (Gw.set V C 3 _) (fun k hk q => by have := (h.vo.own.lt k hk).1; omega), h.bl.setCell h.lo _, h.lo⟩
/-- What a checking function leaves that binds nothing. -/
def TyQ (w0 : World) (C : Nat) (tv : Value) (vv : Value) (U : List Value) (V : World) (x : Int × Ck) (r : Ending) (V' : World) : Prop :=
  r = .returned (.int .i64 x.1) ∧ CkA w0 V' C tv x.2 vv U ∧ Gw (· = C) V V'

set_option maxHeartbeats 1000000 in
set_option maxRecDepth 1000000 in
theorem l3typeFault_any {w0 V : World} {C : Nat} {tv : Value} {c : Ck} {vv : Value} {U : List Value} (h : CkA w0 V C tv c vv U) (i : Nat) :
    Calls Tryd.prog 33 #[.pointer (some ⟨C, 0, none⟩), .int .i64 (i : Nat)] V (TyQ w0 C tv vv U V (3, c.badT i)) := by
  have g3 := h.blk.cell 3
  have f3 := h.blk.frozen 3
  simp only [List.getElem?_toArray, List.getElem?_cons_succ, List.getElem?_cons_zero] at g3
  have HS := hide (h.setT (fstI c.types i))
  have HF := hide (l3first_any c.types i V)
  obtain ⟨F, hF⟩ : ∃ F, fstI c.types i = F := ⟨_, rfl⟩
  have HE : Hid (c.badT i = { c with types := F }) := by show _ = _; rw [← hF]; rfl
  rw [hF] at HS HF
  clear h hF
  go_enter Tryd.func33, Tryd.ntmps33
  go_wp2_with fail
  refine HF.out.mono ?_
  rintro r w' ⟨rfl, rfl⟩
  go_wp2
  go_ret
  rw [HE.out]
  exact ⟨rfl, HS.out, Gw.set _ _ _ _⟩
theorem tyO_vars (L : List Nd) : ∀ f c i, (tyO L f c i).2.vars = c.vars
  | 0, c, i => rfl
  | f + 1, c, i => by
    have ih := tyO_vars L f
    rw [tyO]
    repeat' split
    · rfl
    · rfl
    · rfl
    · rfl
    · rfl
    all_goals (simp only)
    all_goals (repeat' split)
    all_goals first | exact ih _ _ | (rw [ih]; exact ih _ _) | (show (tyO L f _ _).2.vars = _; rw [ih]; exact ih _ _) | (show (tyO L f _ _).2.vars = _; exact ih _ _)
theorem vrT_find (vs : List (ByteArray × Int)) (nm : ByteArray) : ∀ k, k ≤ vs.length → (vrT (vs.take k) nm = none ↔ fdI (vs.map vrOf) nm k = -1) ∧ ∀ t, vrT (vs.take k) nm = some t → ∃ j, fdI (vs.map vrOf) nm k = (j : Nat) ∧ j < k ∧ (vs.getD j (.empty, 0)).2 = t := by
  have last : ∀ (l : List (ByteArray × Int)) (v : ByteArray × Int), vrT (l ++ [v]) nm = if v.1 = nm then some v.2 else vrT l nm := by
    intro l v
    induction l with
    | nil => simp [vrT]
    | cons a l ih =>
      rw [List.cons_append, vrT, ih]
      by_cases c : v.1 = nm
      · rw [if_pos c, if_pos c]
      · rw [if_neg c, if_neg c, vrT]
  intro k
  induction k with
  | zero => intro _; exact ⟨by simp [vrT, fdI], fun t h => by simp [vrT] at h⟩
  | succ k ih =>
    intro hk
    have hlt : k < vs.length := by omega
    have ih := ih (by omega)
    have e1 : vs.take (k + 1) = vs.take k ++ [vs[k]] := by rw [List.take_add_one, List.getElem?_eq_getElem hlt]; rfl
    have e2 : ((vs.map vrOf).getD k ⟨.empty, 0, 0, 0, .empty⟩).name = vs[k].1 := by rw [List.getD_eq_getElem?_getD, List.getElem?_map, List.getElem?_eq_getElem hlt]; rfl
    have e3 : (vs.getD k (.empty, 0)) = vs[k] := by rw [List.getD_eq_getElem?_getD, List.getElem?_eq_getElem hlt]; rfl
    rw [e1, last, fdI, e2]
    by_cases c : vs[k].1 = nm
    · rw [if_pos c, if_pos c]
      exact ⟨⟨fun h => (nomatch h), fun h => (by omega)⟩, fun t h => ⟨k, rfl, Nat.lt_succ_self _, by rw [e3]; injection h⟩⟩
    · rw [if_neg c, if_neg c]
      refine ⟨ih.1, fun t h => ?_⟩
      obtain ⟨j, h1, h2, h3⟩ := ih.2 t h
      exact ⟨j, h1, by omega, h3⟩
end Go.Proofs.YtdlahabeegmjiaaDoor

namespace Go.Proofs.YtdlahabeegmjiaaDoor
open Go.RowKit

def TyC (w0 : World) (C : Nat) (tv : Value) (L : List Nd) (f : Nat) : Prop := ∀ F i c vv U V, f ≤ F → Gd L f i → 16 ≤ (ndA L i).kind → (ndA L i).kind ≤ 22 → CkA w0 V C tv c vv U → c.vars.length ≤ 1048576 → Calls Tryd.prog 31 #[.pointer (some ⟨C, 0, none⟩), .int .i64 (i : Nat)] V (TyQ w0 C tv vv U V (tyO L F c i))

set_option maxHeartbeats 8000000 in
set_option maxRecDepth 1000000 in
theorem ty_16 {w0 V : World} {C : Nat} {tv : Value} {L : List Nd} {f F i : Nat} {c : Ck} {vv : Value} {U : List Value} (hN : NS w0 tv L) (hf : f + 1 ≤ 60) (hg : Gd L (f + 1) i) (hA : CkA w0 V C tv c vv U) (hk : (ndA L i).kind = 16) :
    Calls Tryd.prog 31 #[.pointer (some ⟨C, 0, none⟩), .int .i64 (i : Nat)] V (TyQ w0 C tv vv U V (tyO L (F + 1) c i)) := by
  have hil := (hg.step hf).1
  obtain ⟨tb, to, tc, vt, vn, vy, htv, hNC, hNV⟩ := hN.nod hil
  have HN := hide hN
  subst htv
  have hNCr := hNC.below hA.bl
  have HNV := hide hNV
  obtain ⟨a1, c1, a2, c2, a3, c3, rfl, rfl, rfl⟩ := hNV.slc
  have HA := hide hA
  have g0 := hA.blk.cell 0
  simp only [List.getElem?_toArray, List.getElem?_cons_zero] at g0
  have hili : (i : Int) < (L.length : Int) := by omega
  have HE : Hid (tyO L (F + 1) c i = (0, c)) := by show _ = _; rw [tyO, if_pos hk]
  have HKK := hide hk
  obtain ⟨d, hd⟩ : ∃ d, ndA L i = d := ⟨_, rfl⟩
  rw [hd] at hNCr HNV HKK
  obtain ⟨n0, n1, n2, n3, n4, n5⟩ := hNCr
  obtain ⟨Va, hVa⟩ : ∃ W, World.alloc V (.cells #[.int .i64 0, .int .i64 0, .slice none 0 0, .slice none 0 0, .slice none 0 0, .int .i64 0] 42) = W := ⟨_, rfl⟩
  have hOb : Blk Va (World.heap V).size 42 #[.int .i64 0, .int .i64 0, .slice none 0 0, .slice none 0 0, .slice none 0 0, .int .i64 0] := by rw [← hVa]; exact Blk.new _ _ _
  have o0 := hOb.cell 0
  have of0 := hOb.frozen 0
  have o1 := hOb.cell 1
  have of1 := hOb.frozen 1
  have o2 := hOb.cell 2
  have of2 := hOb.frozen 2
  have o3 := hOb.cell 3
  have of3 := hOb.frozen 3
  have o4 := hOb.cell 4
  have of4 := hOb.frozen 4
  have o5 := hOb.cell 5
  have of5 := hOb.frozen 5
  simp only [List.getElem?_toArray, List.getElem?_cons_succ, List.getElem?_cons_zero] at o0 o1 o2 o3 o4 o5
  obtain ⟨V2, hV2⟩ : ∃ W, set6w Va (World.heap V).size (.int .i64 (d).kind) (.int .i64 (d).n) (.slice a1 (d).text.size c1) (.slice a2 (d).names.length c2) (.slice a3 (d).types.length c3) (.int .i64 (d).count) = W := ⟨_, rfl⟩
  have hCp : Blk V2 (World.heap V).size 42 #[.int .i64 (d).kind, .int .i64 (d).n, .slice a1 (d).text.size c1, .slice a2 (d).names.length c2, .slice a3 (d).types.length c3, .int .i64 (d).count] := by rw [← hV2]; exact hOb.set6w _ _ _ _ _ _
  have hBl : Below (World.heap V).size V V2 := by
    have hA : Below (World.heap V).size V Va := by rw [← hVa]; exact (Below.refl _ _).alloc (Nat.le_refl _) _
    rw [← hV2]
    exact (((((hA.setCell (Nat.le_refl _) _).setCell (Nat.le_refl _) _).setCell (Nat.le_refl _) _).setCell (Nat.le_refl _) _).setCell (Nat.le_refl _) _).setCell (Nat.le_refl _) _
  unfold set6w at hV2
  have HBl := hide hBl
  have m0 := hCp.cell 0
  simp only [List.getElem?_toArray, List.getElem?_cons_zero] at m0
  rw [HKK.out] at n0 m0 hV2
  clear hA hN hNC hNV hg hk hBl hCp hd
  go_enter Tryd.func31, Tryd.ntmps31
  go_wp2
  go_ret
  rw [HE.out]
  exact ⟨rfl, HA.out.below HBl.out, Gw.of_below HBl.out⟩

set_option maxHeartbeats 8000000 in
set_option maxRecDepth 1000000 in
theorem ty_17 {w0 V : World} {C : Nat} {tv : Value} {L : List Nd} {f F i : Nat} {c : Ck} {vv : Value} {U : List Value} (hN : NS w0 tv L) (hf : f + 1 ≤ 60) (hg : Gd L (f + 1) i) (hA : CkA w0 V C tv c vv U) (hk : (ndA L i).kind = 17) :
    Calls Tryd.prog 31 #[.pointer (some ⟨C, 0, none⟩), .int .i64 (i : Nat)] V (TyQ w0 C tv vv U V (tyO L (F + 1) c i)) := by
  have hil := (hg.step hf).1
  obtain ⟨tb, to, tc, vt, vn, vy, htv, hNC, hNV⟩ := hN.nod hil
  have HN := hide hN
  subst htv
  have hNCr := hNC.below hA.bl
  have HNV := hide hNV
  obtain ⟨a1, c1, a2, c2, a3, c3, rfl, rfl, rfl⟩ := hNV.slc
  have HA := hide hA
  have g0 := hA.blk.cell 0
  simp only [List.getElem?_toArray, List.getElem?_cons_zero] at g0
  have hili : (i : Int) < (L.length : Int) := by omega
  have HE : Hid (tyO L (F + 1) c i = (1, c)) := by show _ = _; rw [tyO, if_neg (by omega), if_pos hk]
  have HKK := hide hk
  obtain ⟨d, hd⟩ : ∃ d, ndA L i = d := ⟨_, rfl⟩
  rw [hd] at hNCr HNV HKK
  obtain ⟨n0, n1, n2, n3, n4, n5⟩ := hNCr
  obtain ⟨Va, hVa⟩ : ∃ W, World.alloc V (.cells #[.int .i64 0, .int .i64 0, .slice none 0 0, .slice none 0 0, .slice none 0 0, .int .i64 0] 42) = W := ⟨_, rfl⟩
  have hOb : Blk Va (World.heap V).size 42 #[.int .i64 0, .int .i64 0, .slice none 0 0, .slice none 0 0, .slice none 0 0, .int .i64 0] := by rw [← hVa]; exact Blk.new _ _ _
  have o0 := hOb.cell 0
  have of0 := hOb.frozen 0
  have o1 := hOb.cell 1
  have of1 := hOb.frozen 1
  have o2 := hOb.cell 2
  have of2 := hOb.frozen 2
  have o3 := hOb.cell 3
  have of3 := hOb.frozen 3
  have o4 := hOb.cell 4
  have of4 := hOb.frozen 4
  have o5 := hOb.cell 5
  have of5 := hOb.frozen 5
  simp only [List.getElem?_toArray, List.getElem?_cons_succ, List.getElem?_cons_zero] at o0 o1 o2 o3 o4 o5
  obtain ⟨V2, hV2⟩ : ∃ W, set6w Va (World.heap V).size (.int .i64 (d).kind) (.int .i64 (d).n) (.slice a1 (d).text.size c1) (.slice a2 (d).names.length c2) (.slice a3 (d).types.length c3) (.int .i64 (d).count) = W := ⟨_, rfl⟩
  have hCp : Blk V2 (World.heap V).size 42 #[.int .i64 (d).kind, .int .i64 (d).n, .slice a1 (d).text.size c1, .slice a2 (d).names.length c2, .slice a3 (d).types.length c3, .int .i64 (d).count] := by rw [← hV2]; exact hOb.set6w _ _ _ _ _ _
  have hBl : Below (World.heap V).size V V2 := by
    have hA : Below (World.heap V).size V Va := by rw [← hVa]; exact (Below.refl _ _).alloc (Nat.le_refl _) _
    rw [← hV2]
    exact (((((hA.setCell (Nat.le_refl _) _).setCell (Nat.le_refl _) _).setCell (Nat.le_refl _) _).setCell (Nat.le_refl _) _).setCell (Nat.le_refl _) _).setCell (Nat.le_refl _) _
  unfold set6w at hV2
  have HBl := hide hBl
  have m0 := hCp.cell 0
  simp only [List.getElem?_toArray, List.getElem?_cons_zero] at m0
  rw [HKK.out] at n0 m0 hV2
  clear hA hN hNC hNV hg hk hBl hCp hd
  go_enter Tryd.func31, Tryd.ntmps31
  go_wp2
  go_ret
  rw [HE.out]
  exact ⟨rfl, HA.out.below HBl.out, Gw.of_below HBl.out⟩

set_option maxHeartbeats 8000000 in
set_option maxRecDepth 1000000 in
theorem ty_18 {w0 V : World} {C : Nat} {tv : Value} {L : List Nd} {f F i : Nat} {c : Ck} {vv : Value} {U : List Value} (hN : NS w0 tv L) (hf : f + 1 ≤ 60) (hg : Gd L (f + 1) i) (hA : CkA w0 V C tv c vv U) (hk : (ndA L i).kind = 18) :
    Calls Tryd.prog 31 #[.pointer (some ⟨C, 0, none⟩), .int .i64 (i : Nat)] V (TyQ w0 C tv vv U V (tyO L (F + 1) c i)) := by
  have hil := (hg.step hf).1
  obtain ⟨tb, to, tc, vt, vn, vy, htv, hNC, hNV⟩ := hN.nod hil
  have HN := hide hN
  subst htv
  have hNCr := hNC.below hA.bl
  have HNV := hide hNV
  obtain ⟨a1, c1, a2, c2, a3, c3, rfl, rfl, rfl⟩ := hNV.slc
  have HA := hide hA
  have g0 := hA.blk.cell 0
  simp only [List.getElem?_toArray, List.getElem?_cons_zero] at g0
  have hili : (i : Int) < (L.length : Int) := by omega
  have HE : Hid (tyO L (F + 1) c i = (2, c)) := by show _ = _; rw [tyO, if_neg (by omega), if_neg (by omega), if_pos hk]
  have HKK := hide hk
  obtain ⟨d, hd⟩ : ∃ d, ndA L i = d := ⟨_, rfl⟩
  rw [hd] at hNCr HNV HKK
  obtain ⟨n0, n1, n2, n3, n4, n5⟩ := hNCr
  obtain ⟨Va, hVa⟩ : ∃ W, World.alloc V (.cells #[.int .i64 0, .int .i64 0, .slice none 0 0, .slice none 0 0, .slice none 0 0, .int .i64 0] 42) = W := ⟨_, rfl⟩
  have hOb : Blk Va (World.heap V).size 42 #[.int .i64 0, .int .i64 0, .slice none 0 0, .slice none 0 0, .slice none 0 0, .int .i64 0] := by rw [← hVa]; exact Blk.new _ _ _
  have o0 := hOb.cell 0
  have of0 := hOb.frozen 0
  have o1 := hOb.cell 1
  have of1 := hOb.frozen 1
  have o2 := hOb.cell 2
  have of2 := hOb.frozen 2
  have o3 := hOb.cell 3
  have of3 := hOb.frozen 3
  have o4 := hOb.cell 4
  have of4 := hOb.frozen 4
  have o5 := hOb.cell 5
  have of5 := hOb.frozen 5
  simp only [List.getElem?_toArray, List.getElem?_cons_succ, List.getElem?_cons_zero] at o0 o1 o2 o3 o4 o5
  obtain ⟨V2, hV2⟩ : ∃ W, set6w Va (World.heap V).size (.int .i64 (d).kind) (.int .i64 (d).n) (.slice a1 (d).text.size c1) (.slice a2 (d).names.length c2) (.slice a3 (d).types.length c3) (.int .i64 (d).count) = W := ⟨_, rfl⟩
  have hCp : Blk V2 (World.heap V).size 42 #[.int .i64 (d).kind, .int .i64 (d).n, .slice a1 (d).text.size c1, .slice a2 (d).names.length c2, .slice a3 (d).types.length c3, .int .i64 (d).count] := by rw [← hV2]; exact hOb.set6w _ _ _ _ _ _
  have hBl : Below (World.heap V).size V V2 := by
    have hA : Below (World.heap V).size V Va := by rw [← hVa]; exact (Below.refl _ _).alloc (Nat.le_refl _) _
    rw [← hV2]
    exact (((((hA.setCell (Nat.le_refl _) _).setCell (Nat.le_refl _) _).setCell (Nat.le_refl _) _).setCell (Nat.le_refl _) _).setCell (Nat.le_refl _) _).setCell (Nat.le_refl _) _
  unfold set6w at hV2
  have HBl := hide hBl
  have m0 := hCp.cell 0
  simp only [List.getElem?_toArray, List.getElem?_cons_zero] at m0
  rw [HKK.out] at n0 m0 hV2
  clear hA hN hNC hNV hg hk hBl hCp hd
  go_enter Tryd.func31, Tryd.ntmps31
  go_wp2
  go_ret
  rw [HE.out]
  exact ⟨rfl, HA.out.below HBl.out, Gw.of_below HBl.out⟩

set_option maxHeartbeats 8000000 in
set_option maxRecDepth 1000000 in
theorem ty_19 {w0 V : World} {C : Nat} {tv : Value} {L : List Nd} {f F i : Nat} {c : Ck} {vv : Value} {U : List Value} (hN : NS w0 tv L) (hf : f + 1 ≤ 60) (hg : Gd L (f + 1) i) (hA : CkA w0 V C tv c vv U) (hk : (ndA L i).kind = 19) (hvl : c.vars.length ≤ 1048576) :
    Calls Tryd.prog 31 #[.pointer (some ⟨C, 0, none⟩), .int .i64 (i : Nat)] V (TyQ w0 C tv vv U V (tyO L (F + 1) c i)) := by
  have hil := (hg.step hf).1
  obtain ⟨tb, to, tc, vt, vn, vy, htv, hNC, hNV⟩ := hN.nod hil
  have HN := hide hN
  subst htv
  have hNCr := hNC.below hA.bl
  have HNV := hide hNV
  obtain ⟨a1, c1, a2, c2, a3, c3, rfl, rfl, rfl⟩ := hNV.slc
  have HA := hide hA
  have g0 := hA.blk.cell 0
  simp only [List.getElem?_toArray, List.getElem?_cons_zero] at g0
  have hili : (i : Int) < (L.length : Int) := by omega
  have HNL := hide (hg.name hf (.inr (.inr (.inr hk))))
  have HE : Hid (tyO L (F + 1) c i = (match vrT c.vars ((ndA L i).names.getD 0 .empty) with | none => (3, c.badN i) | some t => (t, c))) := by show _ = _; rw [tyO, if_neg (by omega), if_neg (by omega), if_neg (by omega), if_pos hk]; cases vrT c.vars ((ndA L i).names.getD 0 .empty) <;> rfl
  have HVF := hide (vrT_find c.vars ((ndA L i).names.getD 0 .empty) c.vars.length (Nat.le_refl _))
  rw [List.take_length] at HVF
  have HKK := hide hk
  obtain ⟨d, hd⟩ : ∃ d, ndA L i = d := ⟨_, rfl⟩
  rw [hd] at hNCr HNV HKK HE HVF HNL
  obtain ⟨n0, n1, n2, n3, n4, n5⟩ := hNCr
  obtain ⟨Va, hVa⟩ : ∃ W, World.alloc V (.cells #[.int .i64 0, .int .i64 0, .slice none 0 0, .slice none 0 0, .slice none 0 0, .int .i64 0] 42) = W := ⟨_, rfl⟩
  have hOb : Blk Va (World.heap V).size 42 #[.int .i64 0, .int .i64 0, .slice none 0 0, .slice none 0 0, .slice none 0 0, .int .i64 0] := by rw [← hVa]; exact Blk.new _ _ _
  have o0 := hOb.cell 0
  have of0 := hOb.frozen 0
  have o1 := hOb.cell 1
  have of1 := hOb.frozen 1
  have o2 := hOb.cell 2
  have of2 := hOb.frozen 2
  have o3 := hOb.cell 3
  have of3 := hOb.frozen 3
  have o4 := hOb.cell 4
  have of4 := hOb.frozen 4
  have o5 := hOb.cell 5
  have of5 := hOb.frozen 5
  simp only [List.getElem?_toArray, List.getElem?_cons_succ, List.getElem?_cons_zero] at o0 o1 o2 o3 o4 o5
  obtain ⟨V2, hV2⟩ : ∃ W, set6w Va (World.heap V).size (.int .i64 (d).kind) (.int .i64 (d).n) (.slice a1 (d).text.size c1) (.slice a2 (d).names.length c2) (.slice a3 (d).types.length c3) (.int .i64 (d).count) = W := ⟨_, rfl⟩
  have hCp : Blk V2 (World.heap V).size 42 #[.int .i64 (d).kind, .int .i64 (d).n, .slice a1 (d).text.size c1, .slice a2 (d).names.length c2, .slice a3 (d).types.length c3, .int .i64 (d).count] := by rw [← hV2]; exact hOb.set6w _ _ _ _ _ _
  have hBl : Below (World.heap V).size V V2 := by
    have hA : Below (World.heap V).size V Va := by rw [← hVa]; exact (Below.refl _ _).alloc (Nat.le_refl _) _
    rw [← hV2]
    exact (((((hA.setCell (Nat.le_refl _) _).setCell (Nat.le_refl _) _).setCell (Nat.le_refl _) _).setCell (Nat.le_refl _) _).setCell (Nat.le_refl _) _).setCell (Nat.le_refl _) _
  unfold set6w at hV2
  have HBl := hide hBl
  obtain ⟨nb, no, nc, nu, e5, hnu, hbs⟩ := HNV.out.nm0 (by rw [HNL.out]; omega)
  injection e5 with e5 _ e6
  subst e5 e6
  have m0 := hCp.cell 0
  have m3 := hCp.cell 3
  simp only [List.getElem?_toArray, List.getElem?_cons_succ, List.getElem?_cons_zero] at m0 m3
  rw [HKK.out] at n0 m0 hV2
  have hA2 := hA.below hBl
  have HA2 := hide hA2
  have hnur := cell_kept hnu hA2.bl
  have p1 := hA2.blk.cell 1
  have p2 := hA2.blk.cell 2
  have pf2 := hA2.blk.frozen 2
  simp only [List.getElem?_toArray, List.getElem?_cons_succ, List.getElem?_cons_zero] at p1 p2
  have HFD := hide (fun j => l3find_any (w := V2.drewN j) (below_drewN hA2.bl j) (hA2.vo.gw (P := fun _ => False) (Gw.of_below (below_drewN (Below.refl _ _) j)) (fun _ _ q => q)) hbs (by rw [List.length_map]; exact hvl))
  rw [List.length_map] at HFD
  have hfr := fdI_rng (c.vars.map vrOf) (d.names.getD 0 .empty) c.vars.length
  obtain ⟨va, vc, hvv⟩ := own_sl hA2.vo.own
  rw [List.length_map] at hvv
  obtain ⟨na', nb', no', nc', hnuE, _, _⟩ := hbs
  obtain ⟨nm, hnm⟩ : ∃ y, d.names.getD 0 .empty = y := ⟨_, rfl⟩
  rw [hnm] at HE HVF HFD hfr hnuE
  subst hvv hnuE
  have hnl1 : 0 < d.names.length := by rw [HNL.out]; omega
  obtain ⟨J, hJ⟩ : ∃ J, fdI (c.vars.map vrOf) nm c.vars.length = J := ⟨_, rfl⟩
  rw [hJ] at HVF HFD hfr
  have HRS := hide (fun j => (hA2.below (below_drewN (Below.refl _ V2) j)).setN (fstI c.names i))
  have HFI := hide (fun W => l3first_any c.names i W)
  clear hN hNC hNV hg hk hCp hd hnu hA g0 hBl hA2 hJ hnm
  by_cases hJ0 : J < 0
  · have d0 : decide (J < 0) = true := decide_eq_true hJ0
    have hvn : vrT c.vars nm = none := HVF.out.1.2 (by omega)
    rw [hvn] at HE
    simp only at HE
    obtain ⟨FI, hFI⟩ : ∃ x, fstI c.names i = x := ⟨_, rfl⟩
    have HBN : Hid (c.badN i = { c with names := FI }) := by show _ = _; rw [← hFI]; rfl
    simp only [hFI] at HRS HFI
    have g0 := HA.out.blk.cell 0
    simp only [List.getElem?_toArray, List.getElem?_cons_zero] at g0
    clear hFI hvn
    go_enter Tryd.func31, Tryd.ntmps31
    go_wp2_with fail
    go_quiet ((go_at_call 28; exact Calls.quiet_of (HFD.out _)))
    go_wp2_with fail
    refine (HFI.out _).mono ?_
    rintro r w' ⟨rfl, rfl⟩
    go_wp2
    go_ret
    rw [HE.out, HBN.out]
    exact ⟨rfl, HRS.out _, (Gw.of_below (below_drewN HBl.out nq)).trans (Gw.set _ _ _ _) (fun _ _ q => q)⟩
  · have d0 : decide (J < 0) = false := decide_eq_false hJ0
    cases hvt : vrT c.vars nm with
    | none => have := HVF.out.1.1 hvt; omega
    | some ty =>
      rw [hvt] at HE
      simp only at HE
      obtain ⟨j, rfl, hj, hjt⟩ := HVF.out.2 ty hvt
      obtain ⟨x, hx⟩ : ∃ x, c.vars[j]? = some x := ⟨c.vars[j], List.getElem?_eq_getElem hj⟩
      have hxt : x.2 = ty := by rw [List.getD_eq_getElem?_getD, hx] at hjt; exact hjt
      have hmx : (c.vars.map vrOf)[j]? = some (vrOf x) := by rw [List.getElem?_map, hx]; rfl
      obtain ⟨n, hn, _, _⟩ := HA2.out.vo.nam j _ hmx
      obtain ⟨vg, hva⟩ : ∃ g, va = some ⟨g, 0, none⟩ := by
        rcases HA2.out.vo.own.2 with ⟨hv, _⟩ | ⟨g, cap, cur, hv, _⟩
        · injection hv with _ e2 _; omega
        · injection hv with e1 _ _; exact ⟨g, e1⟩
      subst hva
      have hcell : V2.cell? ⟨vg, j * 5 + 1, none⟩ = some (.int .i64 ty) := by
        have h1 := RwG.of_own (G := fun _ => True) HA2.out.vo.own (fun _ _ => trivial)
        obtain ⟨a', g', c', e1, e2, e3⟩ := h1
        rw [List.length_map] at e1 e2 e3
        injection e1 with e1 _ _
        have e4 := (e2 (by omega)).1
        rw [← e1] at e4
        injection e4 with e4
        injection e4 with e4
        subst e4
        refine e3 (by omega) _ _ ?_
        rw [vrcs_at U _ HA2.out.vo.len j _ n hmx hn 1 (by omega), ← hxt]; rfl
      have g0 := HA.out.blk.cell 0
      simp only [List.getElem?_toArray, List.getElem?_cons_zero] at g0
      have hjl : (j : Int) < (c.vars.length : Int) := by omega
      clear hx hxt hmx hn hjt hvt
      go_enter Tryd.func31, Tryd.ntmps31
      go_wp2_with fail
      go_quiet ((go_at_call 28; exact Calls.quiet_of (HFD.out _)))
      go_wp2
      go_ret
      rw [HE.out]
      exact ⟨rfl, HA2.out.below (below_drewN (Below.refl _ _) nq), Gw.of_below (below_drewN HBl.out nq)⟩
end Go.Proofs.YtdlahabeegmjiaaDoor
