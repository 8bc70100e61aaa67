/-
  The walk of impl.DecodeImage.
  Appends onto rows of the call's own, as steps of regions that draw.
  Plainly: a row of an image, as impl reads it.
-/
import Derived.Test.YtbalmimcginddaaDoorJIRB
import Derived.Test.YtbalmimcginddaaDoorIEI
import Derived.Test.YtbalmimcginddaaDoorJIPH
import Derived.Test.YtbalmimcginddaaDoorJTBO
import Derived.BigQuiet
import Derived.Deep.QuietTactic
import Derived.Deep.RegionWith
import Derived.Test.YtbalmimcginddaaDoorJIIOW
import Derived.Maps.AppendAt
import Derived.Deep.RegionLaw
namespace Go.Proofs.YtbalmimcginddaaDoor
open Go.RowKit

theorem zero_own (w w' : World) : ∃ bl, TbF w' ⟨0, 0, [], [], []⟩ (.slice none 0 0) (.slice none 0 0) (.slice none 0 0) bl ∧ Fr w w' bl :=
  tb_own (TS.nil w' w.heap.size) (Nat.le_refl _) (Els.nil _ _) (Els.nil _ _) 0 0

set_option maxHeartbeats 4000000 in
set_option maxRecDepth 1000000 in
theorem implDecode_of (HRT : ∀ (w : World) (g b o c : Nat) (a : Addr) (s : ByteArray), Rz w g b o c a s (0, false) → Calls Tryd.prog 21 #[.pointer (some ⟨g, 0, none⟩)] w fun e w' => ∃ d vT vD vH st, e = .returned (tbagg d vT vD vH) ∧ RtO w g b o c a s w' d vT vD vH st)
    (s : ByteArray) (u : Value) (w : World) (hs : s.size ≤ 1048576) (hmv : MvOk w) (hT : Lib.Utf8Tabs 3 4 w) (hE : ∃ a, ErC w a) (h : BS w u s) (hc : Cp u) :
    Calls Tryd.prog 7 #[u] w fun e w' => ∃ v2 v3 v4 bl, e = .returned (.tuple #[tbagg (diF s) v2 v3 v4, .int .i64 (diC s)]) ∧ TbF w' (diF s) v2 v3 v4 bl ∧ Fr w w' bl ∧ Below w.heap.size w w' := by
  have HBS := hide h
  have HMV := hide hmv
  have HUT := hide hT
  obtain ⟨ea, he⟩ := hE
  obtain ⟨a, b, o, c, rfl, ha, hcc⟩ := h
  have hcp : s.size ≤ c := hc
  have hel : 0 < w.heap.size := World.block_lt_of_cell? _ _ he
  obtain ⟨G, hG⟩ : ∃ G, w.heap.size = G := ⟨_, rfl⟩
  obtain ⟨W0, hW0⟩ : ∃ W, ((w.alloc (.cells #[.int .i64 0, .int .i64 0, .slice none 0 0, .slice none 0 0, .slice none 0 0] 26)).alloc (.cells #[.slice a s.size c, .nilIface] 55)) = W := ⟨_, rfl⟩
  have hb0 : Below w.heap.size w W0 := by rw [← hW0]; exact ((Below.refl _ _).alloc (Nat.le_refl _) _).alloc (by rw [World.size_alloc]; omega) _
  have HG0 : Hid (Blk W0 G 26 #[.int .i64 0, .int .i64 0, .slice none 0 0, .slice none 0 0, .slice none 0 0]) := by
    rw [← hW0, ← hG]
    exact (Blk.new _ _ _).alloc _
  have HA0 : Blk W0 (G + 1) 55 #[.slice a s.size c, .nilIface] := by
    have := Blk.new (w.alloc (.cells #[.int .i64 0, .int .i64 0, .slice none 0 0, .slice none 0 0, .slice none 0 0] 26)) 55 #[.slice a s.size c, .nilIface]
    rw [hW0, World.size_alloc, hG] at this
    exact this
  have HZ : Hid (Rz W0 (G + 1) b o c ea s (0, false)) :=
    ⟨⟨Nat.zero_le _, a, HA0, fun h => ha h⟩, ⟨hs, hcp, fun j hj => cell_kept (hcc j hj) hb0⟩, he.below hb0, fun h0 hgb => by
      have : b < w.heap.size := World.block_lt_of_cell? _ _ (hcc 0 h0)
      omega, by omega⟩
  have HTB := hide (HRT W0 (G + 1) b o c ea s HZ.out)
  have HB0 := hide hb0
  have HGG := hide hG
  have HWW := hide hW0
  clear ha hcc hc he hb0 hW0 HA0 hmv hT HRT hG
  go_enter Tryd.func7, Tryd.ntmps7
  go_wp2_with fail
  rw [HGG.out, HWW.out]
  clear HWW
  refine HTB.out.mono ?_
  rintro e w1 ⟨d, vT, vD, vH, st, rfl, hr⟩
  have HR := hide hr
  clear hr HTB
  have hER : ErC w1 ea := HR.out.rz.er
  obtain ⟨_, a', hRB, _⟩ := HR.out.rz.ri
  have hc0 := hRB.cell 0
  have hc1 := hRB.cell 1
  simp only [List.getElem?_toArray, List.getElem?_cons_succ, List.getElem?_cons_zero] at hc0 hc1
  unfold ErC at hER
  obtain ⟨sp, sb⟩ := st
  have hzz := wrs_blk HR.out.wr HG0.out (by omega)
  have HZZ := hide hzz
  have hlt := hRB.lt
  obtain ⟨B, LT, LH, LD, hB, hTS, hEn, hEi, e1, e2, e3, -⟩ := HR.out.own
  obtain ⟨dw, dh, dT, dD, dP⟩ := d
  simp only at e1 e2 e3
  have hv := hTS.tbv dw dh
  rw [← e1, ← e2, ← e3] at hv
  obtain ⟨aT, cT, rfl⟩ := hv.targets.slice
  obtain ⟨aD, cD, rfl⟩ := hv.dist.slice
  obtain ⟨aH, cH, rfl⟩ := hv.hop.slice
  have HOW : Hid (∃ bl, TbF w1 ⟨dw, dh, dT, dD, dP⟩ (.slice aT dT.length cT) (.slice aD dD.length cD) (.slice aH dP.length cH) bl ∧ Fr W0 w1 bl) := by
    have := tb_own hTS hB hEn hEi dw dh
    rw [← e1, ← e2, ← e3] at this
    exact this
  clear hTS hEn hEi e1 e2 e3 hB hzz hv
  simp only [tbagg]
  obtain ⟨W2, hW2⟩ : ∃ W, w1.alloc (.cells #[.int .i64 dw, .int .i64 dh, .slice aT dT.length cT, .slice aD dD.length cD, .slice aH dP.length cH] 26) = W := ⟨_, rfl⟩
  have hb2 : Below w1.heap.size w1 W2 := by rw [← hW2]; exact (Below.refl _ _).alloc (Nat.le_refl _) _
  have HM2 : Hid (Blk W2 w1.heap.size 26 #[.int .i64 dw, .int .i64 dh, .slice aT dT.length cT, .slice aD dD.length cD, .slice aH dP.length cH]) := by rw [← hW2]; exact Blk.new _ _ _
  have HB2 : Hid (Below w.heap.size w W2) := by
    have h1 := HR.out.wr.below (B := w.heap.size) (fun g hg => by rw [List.mem_singleton.1 hg, HGG.out]; omega) HB0.out.size
    exact (HB0.out.trans h1).trans (hb2.mono (Nat.le_trans HB0.out.size h1.size))
  have HZ2 := hide (HZZ.out.below hb2)
  have HE2 := cell_kept hER hb2
  have z0 := HM2.out.cell 0
  have z1 := HM2.out.cell 1
  have z2 := HM2.out.cell 2
  have z3 := HM2.out.cell 3
  have z4 := HM2.out.cell 4
  simp only [List.getElem?_toArray, List.getElem?_cons_succ, List.getElem?_cons_zero] at z0 z1 z2 z3 z4
  have y0 := HZ2.out.cell 0
  have y1 := HZ2.out.cell 1
  have y2 := HZ2.out.cell 2
  have y3 := HZ2.out.cell 3
  have y4 := HZ2.out.cell 4
  simp only [List.getElem?_toArray, List.getElem?_cons_succ, List.getElem?_cons_zero] at y0 y1 y2 y3 y4
  have k0 := HZ2.out.frozen 0
  have k1 := HZ2.out.frozen 1
  have k2 := HZ2.out.frozen 2
  have k3 := HZ2.out.frozen 3
  have k4 := HZ2.out.frozen 4
  have HBB := hide hb2
  cases sb with
  | true =>
    have hc2 := cell_kept (show w1.cell? ⟨G + 1, 1, none⟩ = some (.iface 134 (.pointer (some ea))) from hc1) hb2
    have HNO := hide (HR.out.no rfl)
    clear hc1 hc0 hRB hER hb2
    go_wp2_with fail
    refine (is_same ea _).mono ?_
    rintro e w3 ⟨rfl, rfl⟩
    go_wp2
    (try simp only [Exit.inBlock, Exit.then])
    refine bodyPost_ret (results_row_tmp rfl _ _ _ G 26 #[.int .i64 0, .int .i64 0, .slice none 0 0, .slice none 0 0, .slice none 0 0] (0, 0) rfl (HZ2.out.five _ _ _ _ _) Tryd.underlying26 (by kernel_rfl)) rfl ?_
    rw [HNO.out.1, HNO.out.2]
    obtain ⟨bl, hf, hr⟩ := zero_own w (((((w3.setCell ⟨G, 0, none⟩ (.int .i64 0)).setCell ⟨G, 1, none⟩ (.int .i64 0)).setCell ⟨G, 2, none⟩ (.slice none 0 0)).setCell ⟨G, 3, none⟩ (.slice none 0 0)).setCell ⟨G, 4, none⟩ (.slice none 0 0))
    exact ⟨_, _, _, bl, rfl, hf, hr, below_five HB2.out (by rw [HGG.out]; exact Nat.le_refl _) _ _ _ _ _⟩
  | false =>
    have hc2 := cell_kept (show w1.cell? ⟨G + 1, 1, none⟩ = some .nilIface from hc1) hb2
    have HYES := hide (HR.out.yes rfl)
    clear hc1 hc0 hRB hER hb2
    go_wp2_with fail
    refine (is_nilErr ea _).mono ?_
    rintro e w3 ⟨rfl, rfl⟩
    have HTV : Hid (TbV w3 ⟨dw, dh, dT, dD, dP⟩ (.slice aT dT.length cT) (.slice aD dD.length cD) (.slice aH dP.length cH)) := by
      obtain ⟨bl, hf, _⟩ := HOW.out
      exact hf.rd.below HBB.out
    obtain ⟨q1, q2, q3⟩ := rI_rng HYES.out
    have HEN := hide (implEncode_any ⟨dw, dh, dT, dD, dP⟩ _ _ _ w3 q2 q1 (HMV.out.below HB2.out) (Utf8Tabs_below HUT.out HB2.out) HTV.out)
    have HSM := hide (di_some HYES.out q3)
    clear q1 q2 q3
    go_wp2_with fail
    refine HEN.out.mono ?_
    rintro e w4 ⟨v, bv, rfl, hv, -, hb4⟩
    have HB4 : Hid (Below w.heap.size w w4) := HB2.out.trans (hb4.mono HB2.out.size)
    have HQ := hide (bytesEqual_any _ _ _ _ w4 hv.rd (HBS.out.below HB4.out))
    have HZ4 := hide (HZ2.out.below hb4)
    have HM4 := hide (HM2.out.below hb4)
    have HW4 := hide (HBB.out.trans (hb4.mono HBB.out.size))
    obtain ⟨av, cv, rfl⟩ := hv.rd.slice
    clear hb4 hv z0 z1 z2 z3 z4 y0 y1 y2 y3 y4 k0 k1 k2 k3 k4 HEN HE2 hc2 hW2
    have z0 := HM4.out.cell 0
    have z1 := HM4.out.cell 1
    have z2 := HM4.out.cell 2
    have z3 := HM4.out.cell 3
    have z4 := HM4.out.cell 4
    simp only [List.getElem?_toArray, List.getElem?_cons_succ, List.getElem?_cons_zero] at z0 z1 z2 z3 z4
    have y0 := HZ4.out.cell 0
    have y1 := HZ4.out.cell 1
    have y2 := HZ4.out.cell 2
    have y3 := HZ4.out.cell 3
    have y4 := HZ4.out.cell 4
    simp only [List.getElem?_toArray, List.getElem?_cons_succ, List.getElem?_cons_zero] at y0 y1 y2 y3 y4
    have k0 := HZ4.out.frozen 0
    have k1 := HZ4.out.frozen 1
    have k2 := HZ4.out.frozen 2
    have k3 := HZ4.out.frozen 3
    have k4 := HZ4.out.frozen 4
    go_wp2_with fail
    refine HQ.out.mono ?_
    rintro e w5 ⟨⟨tb, rfl, hti⟩, rfl⟩
    have HTI := hide hti
    clear hti HQ
    cases tb with
    | false =>
      have HNO := hide (HSM.out.2 (fun h => by have := HTI.out.2 h; cases this))
      go_wp2
      (try simp only [Exit.inBlock, Exit.then])
      refine bodyPost_ret (results_row_tmp rfl _ _ _ G 26 #[.int .i64 0, .int .i64 0, .slice none 0 0, .slice none 0 0, .slice none 0 0] (0, 0) rfl (HZ4.out.five _ _ _ _ _) Tryd.underlying26 (by kernel_rfl)) rfl ?_
      rw [HNO.out.1, HNO.out.2]
      obtain ⟨bl, hf, hr⟩ := zero_own w (((((w5.setCell ⟨G, 0, none⟩ (.int .i64 0)).setCell ⟨G, 1, none⟩ (.int .i64 0)).setCell ⟨G, 2, none⟩ (.slice none 0 0)).setCell ⟨G, 3, none⟩ (.slice none 0 0)).setCell ⟨G, 4, none⟩ (.slice none 0 0))
      exact ⟨_, _, _, bl, rfl, hf, hr, below_five HB4.out (by rw [HGG.out]; exact Nat.le_refl _) _ _ _ _ _⟩
    | true =>
      have HYY := hide (HSM.out.1 (HTI.out.1 rfl))
      go_wp2
      (try simp only [Exit.inBlock, Exit.then])
      refine bodyPost_ret (results_row_tmp rfl _ _ _ G 26 #[.int .i64 dw, .int .i64 dh, .slice aT dT.length cT, .slice aD dD.length cD, .slice aH dP.length cH] (0, 0) rfl (HZ4.out.five _ _ _ _ _) Tryd.underlying26 (by kernel_rfl)) rfl ?_
      rw [HYY.out.1, HYY.out.2]
      obtain ⟨bl, hf, hr⟩ := HOW.out
      have hwr : Wrs [G] w1 (((((w5.setCell ⟨G, 0, none⟩ (.int .i64 dw)).setCell ⟨G, 1, none⟩ (.int .i64 dh)).setCell ⟨G, 2, none⟩ (.slice aT dT.length cT)).setCell ⟨G, 3, none⟩ (.slice aD dD.length cD)).setCell ⟨G, 4, none⟩ (.slice aH dP.length cH)) :=
        (((((Wrs.of_below HW4.out).set (List.mem_singleton.2 rfl) _).set (List.mem_singleton.2 rfl) _).set (List.mem_singleton.2 rfl) _).set (List.mem_singleton.2 rfl) _).set (List.mem_singleton.2 rfl) _
      have hGl := HG0.out.lt
      refine ⟨_, _, _, bl, rfl, hf.keep (fun g hg => hwr.blk g (hr.hi g hg) (fun hm => ?_)), hr.mono HB0.out.size hwr.size, below_five HB4.out (by rw [HGG.out]; exact Nat.le_refl _) _ _ _ _ _⟩
      have := hr.lo g hg
      have := List.mem_singleton.1 hm
      omega
end Go.Proofs.YtbalmimcginddaaDoor

namespace Go.Proofs.YtbalmimcginddaaDoor
open Go.RowKit

theorem step_appTg {ops : Array Oper} {o : Oper} {a : Act} {w : World} {K : Act → World → Prop} {Q : Exit → Act → World → Prop} {E : Prop} (hgd : o.guard = none) (s x : Operand)
    (ho : o.op = .call { callee := .builtin .append, args := #[s, x], argTypes := #[23, 23] }) (B : Nat) (v : Value) (xs : List (Tg × Value)) (hs : a.eval s = v) (hown : TgOw w B v xs)
    (g : Nat) (t : Tg) (u : Value) (hx : a.eval x = .slice (some ⟨g, 0, none⟩) 1 1) (hnews : ∀ i, i < 3 → w.cell? ⟨g, i, none⟩ = (tgc t u)[i]?) (hone : u.oneCell' = true) (hlen : xs.length + 1 ≤ 100000000) (hbase : B ≤ w.heap.size)
    (h : ∀ v' w' l, Hid (l = xs ++ [(t, u)]) → TgOw w' B v' l → w.grownBy w' v.ownBlock → K (a.put o.dst v') w') :
    if Region.wanted o (yielded ops a.tmps) = true then Oper.wp Tryd.prog o a w K Q else E := by
  have hw : Region.wanted o (yielded ops a.tmps) = true := by simp [Region.wanted, hgd]
  rw [if_pos hw]
  obtain ⟨i0, hi, hz0, hz1, hz2⟩ := info_partsTg Tryd.infoTg
  refine wp_append_own w s x 23 ho B 48 i0 _ 3 40 Tryd.underlying23 hi hz0 hz1 hz2 rfl (by decide) v xs.length (tgcs xs) hs hown ⟨g, 0, none⟩ 1 1 (tgcs [(t, u)]) hx (tgcs_length _) (fun j y hj => ?_) (tgcs_one (fun p hp => by rw [List.mem_singleton.1 hp]; exact hone)) (by unfold maxLen; omega) (by omega) hbase (fun v' w' h1 h2 _ => ?_)
  · have hjl : j < 3 := by
      rcases Nat.lt_or_ge j 3 with h | h
      · exact h
      · rw [List.getElem?_eq_none (by rw [tgcs_length]; exact h)] at hj; cases hj
    have e : (⟨g, 0, none⟩ : Addr).add j = ⟨g, j, none⟩ := by unfold Addr.add; split <;> simp_all
    have e2 : tgcs [(t, u)] = tgc t u := List.append_nil _
    rw [e, hnews j hjl, ← e2]
    exact hj
  · refine h v' w' (xs ++ [(t, u)]) rfl ?_ h2
    unfold TgOw
    rw [List.length_append, tgcs_append]
    exact h1
theorem step_appII {ops : Array Oper} {o : Oper} {a : Act} {w : World} {K : Act → World → Prop} {Q : Exit → Act → World → Prop} {E : Prop} (hgd : o.guard = none) (s x : Operand)
    (ho : o.op = .call { callee := .builtin .append, args := #[s, x], argTypes := #[24, 24] }) (B : Nat) (v : Value) (xs : List (List Int × Value)) (hs : a.eval s = v) (hown : IIOw w B v xs)
    (g : Nat) (t : List Int) (u : Value) (hx : a.eval x = .slice (some ⟨g, 0, none⟩) 1 1) (hnews : w.cell? ⟨g, 0, none⟩ = some u) (hone : u.oneCell' = true) (hlen : xs.length + 1 ≤ 100000000) (hbase : B ≤ w.heap.size)
    (h : ∀ v' w' l, Hid (l = xs ++ [(t, u)]) → IIOw w' B v' l → w.grownBy w' v.ownBlock → (v'.ownBlock = v.ownBlock ∨ v'.ownBlock = some w.heap.size) → K (a.put o.dst v') w') :
    if Region.wanted o (yielded ops a.tmps) = true then Oper.wp Tryd.prog o a w K Q else E := by
  have hw : Region.wanted o (yielded ops a.tmps) = true := by simp [Region.wanted, hgd]
  rw [if_pos hw]
  obtain ⟨i0, hi, hz0, hz1, hz2⟩ := info_partsII Tryd.infoII
  have hn : ∀ j y, (iics [(t, u)])[j]? = some y → w.cell? ((⟨g, 0, none⟩ : Addr).add j) = some y := fun j y hj => by
    match j, hj with
    | 0, hj =>
      have e : (⟨g, 0, none⟩ : Addr).add 0 = ⟨g, 0, none⟩ := by unfold Addr.add; split <;> simp_all
      rw [e, hnews, ← hj]
      rfl
  obtain ⟨v', w', hr, h1, h2, _, h4⟩ := run_append_own_at (P := Tryd.prog) w B 24 o.type 49 i0 _ 1 24 Tryd.underlying24 hi hz0 hz1 hz2 rfl (by decide) v xs.length (iics xs) hown ⟨g, 0, none⟩ 1 1 (iics [(t, u)]) (by rw [iics_length]; rfl) hn (fun y hy => by rw [List.mem_singleton.1 (show y ∈ [u] from hy)]; exact hone) (by unfold maxLen; omega) (by omega) hbase
  unfold Oper.wp execOp
  simp only [ho, resolve, invoke, builtin, Sem.run_bind, Sem.run_pure, Result.andThen_ok, List.map_toArray, List.map_cons, List.map_nil, hs, hx, hr]
  refine h v' w' (xs ++ [(t, u)]) rfl ?_ h2 h4
  unfold IIOw
  rw [List.length_append, iics_append]
  exact h1
end Go.Proofs.YtbalmimcginddaaDoor

namespace Go.Proofs.YtbalmimcginddaaDoor
open Go.RowKit

theorem rDs_all (f : Nat → Nat) (N p : Nat) : ∀ C, p + 2 * C ≤ N → rDs f N (p, false) C = ((List.range C).map (fun k => di (nv f (p + 2 * k) 2)), (p + 2 * C, false))
  | 0, _ => rfl
  | C + 1, h => by
    have ih := rDs_all f N p C (by omega)
    show ((rDs f N (p, false) C).1 ++ [di (rn f N (rDs f N (p, false) C).2 2).1], (rn f N (rDs f N (p, false) C).2 2).2) = _
    rw [ih]
    have e : rn f N (p + 2 * C, false) 2 = (nv f (p + 2 * C) 2, (p + 2 * C + 2, false)) := if_neg (by simp; omega)
    rw [e, List.range_succ, List.map_append]
    simp only [List.map_cons, List.map_nil]
    rw [show p + 2 * C + 2 = p + 2 * (C + 1) by omega]
theorem rDs_stuck (f : Nat → Nat) (N : Nat) {st : Nat × Bool} (h : st.2 = true) : ∀ C, (rDs f N st C).2.2 = true
  | 0 => h
  | C + 1 => by
    show (rn f N (rDs f N st C).2 2).2.2 = true
    unfold rn
    rw [if_pos (.inl (rDs_stuck f N h C))]
theorem rDs_short (f : Nat → Nat) (N p : Nat) (hp : p ≤ N) : ∀ C, N < p + 2 * C → (rDs f N (p, false) C).2.2 = true
  | 0, h => by omega
  | C + 1, h => by
    show (rn f N (rDs f N (p, false) C).2 2).2.2 = true
    by_cases q : p + 2 * C ≤ N
    · rw [rDs_all f N p C q]
      unfold rn
      rw [if_pos (.inr (by show N < p + 2 * C + 2; omega))]
    · unfold rn
      rw [if_pos (.inl (rDs_short f N p hp C (by omega)))]
theorem upC_empty {C : Nat} (h : 1 ≤ C) : upC ByteArray.empty (C : Nat) ≠ 0 := by
  have hn : ¬ upOk ByteArray.empty ((C : Nat) : Int).toNat = true := fun q => by
    have := upOk_size q
    rw [Int.toNat_natCast] at this
    have e : ByteArray.empty.size = 0 := rfl
    omega
  rw [upC_no (by omega) hn]
  decide
/-- What a row makes of the reader. -/
theorem row_ok {s : ByteArray} {st s4 : Nat × Bool} {C j m : Nat} {P D : List (List Int)} (hin : st.1 ≤ s.size) (hC : 1 ≤ C) (hst : st.2 = false) (hr : rRs (fb s) s.size C s4 j = some (P, D, st))
    {B : ByteArray} {sa sf sd : Nat × Bool} {t : ByteArray} (hB : (rb (fb s) s.size st ((3 * C + 7) / 8)).1 = B) (hsa : (rb (fb s) s.size st ((3 * C + 7) / 8)).2 = sa) (hsf : sf = (sa.1, sa.2 || !(upC B (C : Nat) == 0)))
    (ht : (rb (fb s) s.size sf (2 * C)).1 = t) (hsd : (rb (fb s) s.size sf (2 * C)).2 = sd) (hm : t.size = 2 * m) :
    (sd.2 = false → rRs (fb s) s.size C s4 (j + 1) = some (P ++ [upF B (C : Nat)], D ++ [(List.range m).map (dAtB t)], sd)) ∧ (sd.2 = true → rRs (fb s) s.size C s4 (j + 1) = none ∨ ∃ P' D' st', rRs (fb s) s.size C s4 (j + 1) = some (P', D', st') ∧ st'.2 = true) := by
  have hR : rRs (fb s) s.size C s4 (j + 1) = if upC B (C : Nat) = 0 then some (P ++ [upF B (C : Nat)], D ++ [(rDs (fb s) s.size sa C).1], (rDs (fb s) s.size sa C).2) else none := by
    show (match rRs (fb s) s.size C s4 j with | none => none | some (P, D, s0) => if s0.2 = true then some (P, D, s0) else if upC (rb (fb s) s.size s0 ((3 * C + 7) / 8)).1 (C : Nat) = 0 then some (P ++ [upF (rb (fb s) s.size s0 ((3 * C + 7) / 8)).1 (C : Nat)], D ++ [(rDs (fb s) s.size (rb (fb s) s.size s0 ((3 * C + 7) / 8)).2 C).1], (rDs (fb s) s.size (rb (fb s) s.size s0 ((3 * C + 7) / 8)).2 C).2) else none) = _
    rw [hr]
    simp only
    rw [if_neg (by rw [hst]; decide), hB, hsa]
  have hsain : sa.1 ≤ s.size := by rw [← hsa]; exact rb_in hin _
  have hcB : sa.2 = true → upC B (C : Nat) ≠ 0 := fun q => by
    have e : B = ByteArray.empty := by
      rw [← hB]
      unfold rb at hsa ⊢
      split at hsa
      · rename_i hx; rw [if_pos hx]
      · rename_i hx
        rw [← hsa] at q
        cases q
    rw [e]
    exact upC_empty hC
  rw [hR]
  by_cases qc : upC B (C : Nat) = 0
  · rw [if_pos qc]
    have hs2 : sa.2 = false := by
      cases h : sa.2 with
      | false => rfl
      | true => exact absurd qc (hcB h)
    have hsfe : sf = (sa.1, false) := by
      rw [hsf, hs2, qc]
      rfl
    obtain ⟨p, q⟩ := sa
    simp only at hs2 hsain hsfe
    subst hs2
    rw [hsfe] at ht hsd
    by_cases hx : p + 2 * C ≤ s.size
    · have hneg : ¬ ((p, false).2 = true ∨ s.size < (p, false).1 + 2 * C) := by simp; omega
      have et : t = byt ((List.range (2 * C)).map fun j => fb s (p + j)) := by rw [← ht]; unfold rb; rw [if_neg hneg]
      have ed : sd = (p + 2 * C, false) := by rw [← hsd]; unfold rb; rw [if_neg hneg]
      refine ⟨fun _ => ?_, fun h => by rw [ed] at h; cases h⟩
      have hmC : m = C := by
        rw [et, byt_size, List.length_map, List.length_range] at hm
        omega
      rw [rDs_all _ _ _ _ hx, ed, hmC]
      have hlo : Lo ((List.range (2 * C)).map fun j => fb s (p + j)) := fun x hx => by
        obtain ⟨j, _, rfl⟩ := List.mem_map.1 hx
        exact fb_lt s _
      have ht2 : ∀ i, i < 2 * C → fb t i = fb s (p + i) := fun i hi => by
        have h := lies_byt hlo i (by rw [List.length_map, List.length_range]; exact hi)
        rw [Nat.zero_add] at h
        rw [et]
        refine h.trans ?_
        rw [List.getD_eq_getElem?_getD, List.getElem?_map, List.getElem?_range hi]
        rfl
      have hl : (List.range C).map (fun k => di (nv (fb s) (p + 2 * k) 2)) = (List.range C).map (dAtB t) := by
        refine List.map_congr_left fun k hk => ?_
        have hk := List.mem_range.1 hk
        unfold dAtB
        rw [ht2 (2 * k) (by omega), ht2 (2 * k + 1) (by omega)]
        show di (fb s (p + 2 * k) + 256 * (fb s (p + 2 * k + 1) + 256 * 0)) = _
        congr 1
        rw [show p + (2 * k + 1) = p + 2 * k + 1 by omega]
        omega
      rw [hl]
    · have hpos : (p, false).2 = true ∨ s.size < (p, false).1 + 2 * C := .inr (by show s.size < p + 2 * C; omega)
      have ed : sd = (p, true) := by rw [← hsd]; unfold rb; rw [if_pos hpos]
      refine ⟨(fun h => by rw [ed] at h; cases h), fun _ => .inr ⟨_, _, _, rfl, rDs_short _ _ _ hsain _ (by omega)⟩⟩
  · rw [if_neg qc]
    refine ⟨fun h => ?_, fun _ => .inl rfl⟩
    exfalso
    have hsf2 : sf.2 = true := by
      rw [hsf]
      show (sa.2 || !(upC B (C : Nat) == 0)) = true
      rw [show (upC B (C : Nat) == 0) = false from beq_eq_false_iff_ne.2 qc]
      simp
    have : sd.2 = true := by rw [← hsd]; unfold rb; rw [if_pos (.inl hsf2)]
    rw [this] at h
    cases h
theorem row_bad {s : ByteArray} {st sa sf sd : Nat × Bool} {C q : Nat} {B : ByteArray} (hst : st.2 = true) (hsa : (rb (fb s) s.size st q).2 = sa) (hsf : sf = (sa.1, sa.2 || !(upC B (C : Nat) == 0))) (hsd : (rb (fb s) s.size sf (2 * C)).2 = sd) : sd.2 = true := by
  have h1 : sa.2 = true := by rw [← hsa]; unfold rb; rw [if_pos (.inl hst)]
  have h2 : sf.2 = true := by rw [hsf]; show (sa.2 || _) = true; rw [h1]; rfl
  rw [← hsd]
  unfold rb
  rw [if_pos (.inl h2)]
end Go.Proofs.YtbalmimcginddaaDoor
