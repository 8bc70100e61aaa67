/-
  The walk of impl.Components.
-/
import Derived.Test.YtohilccbfdienaaJCoTJV
import Derived.Test.YtohilccbfdienaaJCoRPT
import Derived.Test.YtohilccbfdienaaJCoRVP
namespace Go.Proofs.Ytohilccbfdienaa
open Go.RowKit
theorem run_store_fnC (P : Program) (w : World) (a : Addr) (fn : Fn) (first captured : Array Value) (m : Mode) : (store a (.func fn first captured) m).run P w = stored P w a (.func fn first captured) m := run_store P w a _ m rfl
attribute [local go_sem] run_store_fnC

open Classical in
/-- What Components answers. -/
noncomputable def coF (g : Gr) : List Int := if GrOk g then coL g.n.toNat (eds g) else []
open Classical in
noncomputable def coC (g : Gr) : Int := if GrOk g then 0 else 1
theorem co_yes {g : Gr} (h : GrOk g) : coF g = coL g.n.toNat (eds g) ∧ coC g = 0 := by unfold coF coC; rw [if_pos h, if_pos h]; exact ⟨rfl, rfl⟩
theorem co_no {g : Gr} (h : ¬ GrOk g) : coF g = [] ∧ coC g = 1 := by unfold coF coC; rw [if_neg h, if_neg h]; exact ⟨rfl, rfl⟩
theorem coF_len (g : Gr) : (coF g).length ≤ 1048576 := by
  by_cases h : GrOk g
  · rw [(co_yes h).1, coL_length]; have := h.n1; omega
  · rw [(co_no h).1]; simp
theorem eds_bd {g : Gr} (h : GrOk g) {n : Nat} (hn : g.n = (n : Nat)) : ∀ e ∈ eds g, 0 ≤ e.f ∧ e.f < (n : Int) ∧ 0 ≤ e.t ∧ e.t < (n : Int) := fun e he => by
  obtain ⟨k, hk, rfl⟩ := List.mem_map.1 he
  have h1 := h.edges k (List.mem_range.1 hk)
  have h2 := srcUp_le g k (g.n.toNat - 1)
  have h3 := h.n0
  show 0 ≤ ((srcUp g k (g.n.toNat - 1) : Nat) : Int) ∧ ((srcUp g k (g.n.toNat - 1) : Nat) : Int) < _ ∧ 0 ≤ g.to.getD k 0 ∧ g.to.getD k 0 < _
  have := h1.to0
  have := h1.to1
  omega

set_option maxHeartbeats 4000000 in
set_option maxRecDepth 1000000 in
theorem implComp_any (g : Gr) (v1 v2 v3 v4 : Value) (w : World) (hb : GrB g) (h : GrV w g v1 v2 v3 v4) (hcp : Cp v2) :
    Calls Try.prog 7 #[gragg g v1 v2 v3 v4] w fun e w' => ∃ v bl, e = .returned (.tuple #[v, .int .i64 (coC g)]) ∧ IF w' v (coF g) bl ∧ Fr w w' bl ∧ Below w.heap.size w w' := by
  have HVG := hide (fun w2 (h2 : Below w.heap.size w w2) => implGraph_any g v1 v2 v3 v4 w2 hb (h.below h2))
  have HVI := hide (fun (n : Nat) (LB BL : Nat) (hok : GrOk g) (hgn : g.n = (n : Nat)) => visit_any g v1 v2 v3 v4 n w w.heap.size LB BL hok hgn h hcp (eds_bd hok hgn))
  obtain ⟨a1, c1, rfl⟩ := h.start.slice
  obtain ⟨a2, c2, rfl⟩ := h.to.slice
  obtain ⟨a3, c3, rfl⟩ := h.dir.slice
  obtain ⟨a4, c4, rfl⟩ := h.cost.slice
  obtain ⟨W0, hW0⟩ : ∃ W, w.alloc (.cells #[.int .i64 g.n, .slice a1 g.start.length c1, .slice a2 g.to.length c2, .slice a3 g.dir.length c3, .slice a4 g.cost.length c4] 28) = W := ⟨_, rfl⟩
  have HB0 : Hid (Below w.heap.size w W0) := by rw [← hW0]; exact (Below.refl _ _).alloc (Nat.le_refl _) _
  have HA0 : Hid (Blk W0 w.heap.size 28 #[.int .i64 g.n, .slice a1 g.start.length c1, .slice a2 g.to.length c2, .slice a3 g.dir.length c3, .slice a4 g.cost.length c4]) := by rw [← hW0]; exact Blk.new _ _ _
  have HW := hide hW0
  clear hW0
  unfold gragg at HVG ⊢
  clear hb h hcp
  go_enter Try.func7, Try.ntmps7
  go_wp2_with fail
  rw [HW.out]
  refine (HVG.out _ HB0.out).mono ?_
  rintro e w1 ⟨⟨r1, rfl, hr1⟩, hb1⟩
  have HA1 := hide (HA0.out.below hb1)
  have HB1 : Hid (Below w.heap.size w w1) := HB0.out.trans (hb1.mono HB0.out.size)
  have HR1 := hide hr1
  clear hb1 hr1 HA0 HB0 HW HVG
  cases r1 with
  | false =>
    have HNO : Hid (¬ GrOk g) := fun h => by have := HR1.out.2 h; cases this
    go_wp2
    go_ret2
    rw [(co_no HNO.out).1, (co_no HNO.out).2]
    have hif : IF w1 (.slice none 0 0) [] [] := ⟨none, 0, 0, 0, rfl, fun h => absurd h (by decide), rfl, fun j hj => absurd hj (Nat.not_lt_zero _)⟩
    first | exact ⟨_, [], rfl, hif, Fr.nil _ _, HB1.out⟩ | exact ⟨_, rfl, [], hif, Fr.nil _ _, HB1.out⟩ | exact ⟨_, rfl, ⟨[], hif, Fr.nil _ _⟩, HB1.out⟩
  | true =>
    have HOK := hide (HR1.out.1 rfl)
    clear HR1
    obtain ⟨n, hn⟩ : ∃ n : Nat, g.n = n := ⟨g.n.toNat, by have := HOK.out.n0; omega⟩
    have HGN := hide hn
    have hnb : 1 ≤ n ∧ n ≤ 1600 := by have h1 := HOK.out.n0; have h2 := HOK.out.n1; omega
    obtain ⟨hn1, hn2⟩ := hnb
    have hbX : Below w1.heap.size w1 (w1.alloc (.cells #[.int .i64 (-1)] 3)) := (Below.refl _ _).alloc (Nat.le_refl _) _
    have z0 := (HA1.out.below hbX).cell 0
    simp only [List.getElem?_toArray, List.getElem?_cons_zero] at z0
    rw [hn] at z0
    have HRP := hide (repeat_any n w1.heap.size (-1) (w1.alloc (.cells #[.int .i64 (-1)] 3)) (by omega) hn1 ((Blk.new _ _ _).cell 0))
    have HBX := hide hbX
    clear hn hbX
    go_wp2_with fail
    refine HRP.out.mono ?_
    rintro e w3 ⟨LB, rfl, hrow, hLB, hb3⟩
    have HB3 : Hid (Below w.heap.size w w3) := (HB1.out.trans (HBX.out.mono HB1.out.size)).trans (hb3.mono (HB1.out.trans (HBX.out.mono HB1.out.size)).size)
    have HA3 := hide ((HA1.out.below HBX.out).below hb3)
    have HRW := hide hrow
    have HNU : Hid (w.heap.size < LB ∧ LB < w3.heap.size) := by
      have h1 := HA1.out.lt
      have h2 := hrow.lt
      rw [World.size_alloc] at hLB
      exact ⟨by omega, h2⟩
    have y0 := ((HA3.out.alloc (.cells #[.slice (some ⟨LB, 0, none⟩) n n] 22))).cell 0
    simp only [List.getElem?_toArray, List.getElem?_cons_zero] at y0
    rw [HGN.out] at y0
    have hmk := run_make_row' (P := Try.prog) 22 3 (.int .i64 0) 8 Try.underlying22 Try.infoR rfl .i64 .i64 n (by omega) (by omega) (w3.alloc (.cells #[.slice (some ⟨LB, 0, none⟩) n n] 22))
    rw [World.size_alloc] at hmk
    clear hrow hLB hb3 z0 HRP HBX HA1
    obtain ⟨BL, hBL⟩ : ∃ B, w3.heap.size = B := ⟨_, rfl⟩
    rw [hBL] at hmk HNU
    obtain ⟨A2, hA2⟩ : ∃ W, (w3.alloc (.cells #[.slice (some ⟨LB, 0, none⟩) n n] 22)).alloc (.cells (madeCells #[.int .i64 0] n) 3) = W := ⟨_, rfl⟩
    rw [hA2] at hmk
    have hz2 : A2.heap.size = BL + 2 := by rw [← hA2, World.size_alloc, World.size_alloc, hBL]
    have HZ2 := hide hz2
    have HBL := hide hBL
    have HA2 := hide hA2
    have hb2 : Below w3.heap.size w3 A2 := by rw [← hA2]; exact ((Below.refl _ _).alloc (Nat.le_refl _) _).alloc (by rw [World.size_alloc]; omega) _
    have hL2 : Boxed A2 BL 22 (.slice (some ⟨LB, 0, none⟩) n n) := by rw [← hA2, ← hBL]; exact (Boxed.new _ _ _).alloc _
    have hR2 : A2.rowIs (BL + 1) 3 n (fun _ => .int .i64 0) := by
      have := World.rowIs_made (w3.alloc (.cells #[.slice (some ⟨LB, 0, none⟩) n n] 22)) (.int .i64 0) n 3
      rw [World.size_alloc, hBL, hA2] at this
      exact this
    have s3 : (A2.alloc (.cells #[.slice (some ⟨BL + 1, 0, none⟩) n n] 22)).heap.size = BL + 3 := by rw [World.size_alloc, hz2]
    have s4 : ((A2.alloc (.cells #[.slice (some ⟨BL + 1, 0, none⟩) n n] 22)).alloc (.cells #[.int .i64 0] 3)).heap.size = BL + 4 := by rw [World.size_alloc, s3]
    have s5 : (((A2.alloc (.cells #[.slice (some ⟨BL + 1, 0, none⟩) n n] 22)).alloc (.cells #[.int .i64 0] 3)).alloc (.cells #[.slice none 0 0] 45)).heap.size = BL + 5 := by rw [World.size_alloc, s4]
    have hb6 : Below A2.heap.size A2 ((((A2.alloc (.cells #[.slice (some ⟨BL + 1, 0, none⟩) n n] 22)).alloc (.cells #[.int .i64 0] 3)).alloc (.cells #[.slice none 0 0] 45)).alloc (.cells #[.func (.func 21) #[] #[.pointer (some ⟨BL + 2 + 1, 0, none⟩), .pointer (some ⟨BL + 2, 0, none⟩), .pointer (some ⟨BL + 2 + 1 + 1, 0, none⟩), .pointer (some ⟨w.heap.size, 0, none⟩), .pointer (some ⟨BL + 2 + 1 + 1 + 1, 0, none⟩), .pointer (some ⟨BL, 0, none⟩)]] 46)) := ((((Below.refl _ _).alloc (Nat.le_refl _) _).alloc (by rw [s3, hz2]; omega) _).alloc (by rw [s4, hz2]; omega) _).alloc (by rw [s5, hz2]; omega) _
    have hbw6 : Below w.heap.size w ((((A2.alloc (.cells #[.slice (some ⟨BL + 1, 0, none⟩) n n] 22)).alloc (.cells #[.int .i64 0] 3)).alloc (.cells #[.slice none 0 0] 45)).alloc (.cells #[.func (.func 21) #[] #[.pointer (some ⟨BL + 2 + 1, 0, none⟩), .pointer (some ⟨BL + 2, 0, none⟩), .pointer (some ⟨BL + 2 + 1 + 1, 0, none⟩), .pointer (some ⟨w.heap.size, 0, none⟩), .pointer (some ⟨BL + 2 + 1 + 1 + 1, 0, none⟩), .pointer (some ⟨BL, 0, none⟩)]] 46)) := (HB3.out.trans (hb2.mono HB3.out.size)).trans (hb6.mono (HB3.out.trans (hb2.mono HB3.out.size)).size)
    have HTM : Hid (TjM w n w.heap.size LB BL (#[.int .i64 g.n, .slice a1 g.start.length c1, .slice a2 g.to.length c2, .slice a3 g.dir.length c3, .slice a4 g.cost.length c4]) (fun _ => 0) (fun _ => -1) [] 0 ((((A2.alloc (.cells #[.slice (some ⟨BL + 1, 0, none⟩) n n] 22)).alloc (.cells #[.int .i64 0] 3)).alloc (.cells #[.slice none 0 0] 45)).alloc (.cells #[.func (.func 21) #[] #[.pointer (some ⟨BL + 2 + 1, 0, none⟩), .pointer (some ⟨BL + 2, 0, none⟩), .pointer (some ⟨BL + 2 + 1 + 1, 0, none⟩), .pointer (some ⟨w.heap.size, 0, none⟩), .pointer (some ⟨BL + 2 + 1 + 1 + 1, 0, none⟩), .pointer (some ⟨BL, 0, none⟩)]] 46))) := by
      refine ⟨?_, ?_, ⟨.slice none 0 0, ?_, IOw.nil _ _⟩, (HA3.out.below hb2).below hb6, ?_, Blk.below hL2 hb6, row_kept hR2 hb6, row_kept (row_kept HRW.out hb2) hb6, hbw6, ?_, ?_⟩
      · exact ((s3 ▸ Boxed.new (A2.alloc (.cells #[.slice (some ⟨BL + 1, 0, none⟩) n n] 22)) 3 (.int .i64 0)).alloc _).alloc _
      · exact (((hz2 ▸ Boxed.new A2 22 (.slice (some ⟨BL + 1, 0, none⟩) n n)).alloc _).alloc _).alloc _
      · exact (s4 ▸ Boxed.new ((A2.alloc (.cells #[.slice (some ⟨BL + 1, 0, none⟩) n n] 22)).alloc (.cells #[.int .i64 0] 3)) 45 (.slice none 0 0)).alloc _
      · have := Boxed.new (((A2.alloc (.cells #[.slice (some ⟨BL + 1, 0, none⟩) n n] 22)).alloc (.cells #[.int .i64 0] 3)).alloc (.cells #[.slice none 0 0] 45)) 46 (.func (.func 21) #[] #[.pointer (some ⟨BL + 2 + 1, 0, none⟩), .pointer (some ⟨BL + 2, 0, none⟩), .pointer (some ⟨BL + 2 + 1 + 1, 0, none⟩), .pointer (some ⟨w.heap.size, 0, none⟩), .pointer (some ⟨BL + 2 + 1 + 1 + 1, 0, none⟩), .pointer (some ⟨BL, 0, none⟩)])
        rw [s5] at this
        exact this
      · rw [World.size_alloc, s5]; omega
      · exact ⟨Nat.le_refl _, HNU.out.1, HNU.out.2⟩
    have y6 := HTM.out.gb.cell 0
    simp only [List.getElem?_toArray, List.getElem?_cons_zero] at y6
    rw [HGN.out] at y6
    have hbl := HBL.out
    clear hA2 hBL hb2 hL2 hR2 s3 s4 s5 hb6 hbw6
    go_wp2
    clear y0 y6 hmk
    rw [show BL + 2 + 1 = BL + 3 from rfl, show BL + 3 + 1 = BL + 4 from rfl, show BL + 4 + 1 = BL + 5 from rfl] at HTM ⊢
    clear hbl hz2
    go_loopw [23] (fun ix wr => ∃ (i : Nat) (rk : Nat → Nat) (ls : Nat → Int) (st : List Nat) (m : Nat), i ≤ n ∧ ix = .int .i64 i ∧ TjM w n w.heap.size LB BL (#[.int .i64 g.n, .slice a1 g.start.length c1, .slice a2 g.to.length c2, .slice a3 g.dir.length c3, .slice a4 g.cost.length c4]) rk ls st m wr ∧ Tj n (eds g) rk ls st m (fun _ => False) ∧ ∀ x, x < i → rk x ≠ 0) (fun ix _ => n - (intOf ix).toNat)
    case atStart => exact ⟨0, fun _ => 0, fun _ => -1, [], 0, Nat.zero_le _, rfl, HTM.out, Tj.first, fun x hx => absurd hx (Nat.not_lt_zero _)⟩
    case round =>
      clear HTM
      obtain ⟨i, rk, ls, st, m, hi, rfl, hM, hj, hmet⟩ := hrel
      rename World => Z
      have HM := hide hM
      have HJ := hide hj
      have HME := hide hmet
      clear hmet
      by_cases hlt : i < n
      · have hlti : (i : Int) < (n : Int) := by omega
        have r0 := hM.rkb.cell
        have r1 := hM.rrow.cell hlt
        have vv := hM.vis.cell
        unfold visV at vv
        obtain ⟨ri, hri⟩ : ∃ q, rk i = q := ⟨_, rfl⟩
        rw [hri] at r1
        have HRI := hide hri
        clear hM hj hri
        by_cases q0 : ri = 0
        · subst q0
          have HV := hide (HVI.out n LB BL HOK.out HGN.out (cntZ rk n) rk ls st m (fun _ => False) i Z (Nat.le_refl _) HJ.out hlt HRI.out (fun x hx => hx.elim) HM.out)
          go_wp2_with fail
          refine HV.out.mono ?_
          rintro e w5 ⟨low, rk', ls', st', m', rfl, hM5, hj5, hv5, _, _⟩
          have HM5 := hide hM5
          have HJ5 := hide hj5
          have HME5 : Hid (∀ x, x < i + 1 → rk' x ≠ 0) := fun x hx => by
            by_cases e : x = i
            · rw [e]; exact hv5.cme
            · have h1 := HME.out x (by omega)
              rw [hv5.rks x h1]
              exact h1
          clear hM5 hj5 hv5
          go_wp2
          go_roundw
          case rel => exact ⟨i + 1, rk', ls', st', m', by omega, by go_num, HM5.out, HJ5.out, HME5.out⟩
          case measure => simp [intOf]; omega
        · have t0 : (((ri : Nat) : Int) == 0) = false := by simp; omega
          have HME5 : Hid (∀ x, x < i + 1 → rk x ≠ 0) := fun x hx => by
            by_cases e : x = i
            · rw [e, HRI.out]; exact q0
            · exact HME.out x (by omega)
          go_wp2
          go_roundw
          case rel => exact ⟨i + 1, rk, ls, st, m, by omega, by go_num, HM.out, HJ.out, HME5.out⟩
          case measure => simp [intOf]; omega
      · have hge : ¬ (i : Int) < (n : Int) := by omega
        obtain rfl : i = n := by omega
        have l0 := hM.lsb.cell
        clear hM hj
        go_wp2
        go_ret2
        obtain ⟨e1, e2⟩ := co_yes HOK.out
        rw [e1, e2, show g.n.toNat = i by have := HGN.out; omega]
        have hrow := HM.out.lrow.congr (g := fun j => .int .i64 ((coL i (eds g)).getD j 0)) (fun x hx => by rw [HJ.out.done HME.out x hx])
        have hif : IF Z (.slice (some ⟨LB, 0, none⟩) i i) (coL i (eds g)) [LB] := ⟨_, LB, 0, i, by rw [coL_length], fun _ => rfl, by rw [coL_length, if_pos (by omega)], fun j hj => by
          rw [coL_length] at hj
          rw [Nat.zero_add]
          exact ⟨hrow.cell hj, hrow.frozen j⟩⟩
        have hfr : Fr w Z [LB] := ⟨by simp, fun q hq => by rw [List.mem_singleton.1 hq]; have := HM.out.num; omega, fun q hq => by rw [List.mem_singleton.1 hq]; exact hrow.lt⟩
        first | exact ⟨_, [LB], rfl, hif, hfr, HM.out.bel⟩ | exact ⟨_, rfl, [LB], hif, hfr, HM.out.bel⟩ | exact ⟨_, rfl, ⟨[LB], hif, hfr⟩, HM.out.bel⟩
end Go.Proofs.Ytohilccbfdienaa
