/-
  The walk of impl.hops.
-/
import Derived.Test.YtochfhoaiekioaaJRtDJD
import Derived.Test.YtochfhoaiekioaaJRtIED
import Derived.BigQuiet
import Derived.Deep.QuietTactic
namespace Go.Proofs.Ytochfhoaiekioaa
open Go.RowKit

/-- What hops answers. -/
def HopP (w w' : World) (n : Nat) (D : Nat → Int) (E : List Ed) (e : Ending) : Prop := ∃ B, e = .returned (.slice (some ⟨B, 0, none⟩) n n) ∧ w'.rowIs B 3 n (fun c => .int .i64 (hpF D E c)) ∧ w.heap.size ≤ B ∧ Below w.heap.size w w'

set_option maxHeartbeats 8000000 in
set_option maxRecDepth 1000000 in
theorem hops_any (g : Gr) (n : Nat) (D : Nat → Int) (v1 v2 v3 v4 : Value) (DB : Nat) (w : World) (hok : GrOk g) (hgn : g.n = n) (hD : ∀ c, c < n → -1 ≤ D c ∧ D c ≤ 14400) (hrow : w.rowIs DB 3 n (fun c => .int .i64 (D c))) (h : GrV w g v1 v2 v3 v4) :
    Calls Try.prog 22 #[gragg g v1 v2 v3 v4, .slice (some ⟨DB, 0, none⟩) n n] w fun e w' => HopP w w' n D (eds g) e := by
  have HED := hide (fun V (hV : Below w.heap.size w V) => edgesOf_any g v1 v2 v3 v4 V hok (h.below hV))
  have hE := eds_ec hok
  rw [hgn, Int.toNat_natCast] at hE
  have hm : (eds g).length ≤ 6400 := by rw [eds_length]; exact hok.m
  have hn1 : 1 ≤ n := by have := hok.n0; omega
  have hn : n ≤ 1600 := by have := hok.n1; omega
  obtain ⟨a1, c1, rfl⟩ := h.start.slice
  obtain ⟨a2, c2, rfl⟩ := h.to.slice
  obtain ⟨a3, c3, rfl⟩ := h.dir.slice
  obtain ⟨a4, c4, rfl⟩ := h.cost.slice
  unfold gragg at HED ⊢
  rw [hgn] at HED ⊢
  obtain ⟨L1, hL1⟩ : ∃ L, g.start.length = L := ⟨_, rfl⟩
  obtain ⟨L2, hL2⟩ : ∃ L, g.to.length = L := ⟨_, rfl⟩
  obtain ⟨L3, hL3⟩ : ∃ L, g.dir.length = L := ⟨_, rfl⟩
  obtain ⟨L4, hL4⟩ : ∃ L, g.cost.length = L := ⟨_, rfl⟩
  rw [hL1, hL2, hL3, hL4] at HED ⊢
  obtain ⟨E, hEE⟩ : ∃ E, eds g = E := ⟨_, rfl⟩
  rw [hEE] at HED hE hm ⊢
  have HE := hide hE
  have HD := hide hD
  have HROW := hide hrow
  have hDl := hrow.lt
  have HDL := hide hDl
  clear h hok hE hD hrow hEE hL1 hL2 hL3 hL4 hgn
  have hbA : Below w.heap.size w ((w.alloc (.cells (#[.int .i64 (n : Nat), .slice a1 L1 c1, .slice a2 L2 c2, .slice a3 L3 c3, .slice a4 L4 c4]) 28)).alloc (.cells #[.int .i64 (-1)] 3)) := ((Below.refl _ w).alloc (Nat.le_refl _) _).alloc (by rw [World.size_alloc]; omega) _
  have hgb : Blk ((w.alloc (.cells (#[.int .i64 (n : Nat), .slice a1 L1 c1, .slice a2 L2 c2, .slice a3 L3 c3, .slice a4 L4 c4]) 28)).alloc (.cells #[.int .i64 (-1)] 3)) w.heap.size 28 (#[.int .i64 (n : Nat), .slice a1 L1 c1, .slice a2 L2 c2, .slice a3 L3 c3, .slice a4 L4 c4]) := (Blk.new w _ _).alloc _
  have g0 := hgb.cell 0
  simp only [List.getElem?_toArray, List.getElem?_cons_zero] at g0
  have hmo : ((w.alloc (.cells (#[.int .i64 (n : Nat), .slice a1 L1 c1, .slice a2 L2 c2, .slice a3 L3 c3, .slice a4 L4 c4]) 28)).alloc (.cells #[.int .i64 (-1)] 3)).cell? ⟨w.heap.size + 1, 0, none⟩ = some (.int .i64 (-1)) := by
    have := (Blk.new (w.alloc (.cells (#[.int .i64 (n : Nat), .slice a1 L1 c1, .slice a2 L2 c2, .slice a3 L3 c3, .slice a4 L4 c4]) 28)) 3 #[.int .i64 (-1)]).cell 0
    rw [World.size_alloc] at this
    exact this
  have HRP := hide (repeat_any n (w.heap.size + 1) (-1) ((w.alloc (.cells (#[.int .i64 (n : Nat), .slice a1 L1 c1, .slice a2 L2 c2, .slice a3 L3 c3, .slice a4 L4 c4]) 28)).alloc (.cells #[.int .i64 (-1)] 3)) (by omega) hn1 hmo)
  have HGB := hide hgb
  have HBA := hide hbA
  clear hmo hgb hbA hDl
  go_enter Try.func22, Try.ntmps22
  go_wp2_with fail
  refine HRP.out.mono ?_
  rintro e w2 ⟨HB, rfl, hrow2, hHB, hb2⟩
  have HSZ : Hid (w.heap.size + 2 ≤ w2.heap.size ∧ w.heap.size + 2 ≤ HB) := by
    have h1 := hb2.size
    simp only [World.size_alloc] at h1 hHB
    exact ⟨h1, hHB⟩
  have HLT := hide hrow2.lt
  have HB2 : Hid (Below w.heap.size w w2) := HBA.out.trans (hb2.mono (by rw [World.size_alloc, World.size_alloc]; omega))
  have hgb2 := HGB.out.below hb2
  have z0 := hgb2.cell 0
  have z1 := hgb2.cell 1
  have z2 := hgb2.cell 2
  have z3 := hgb2.cell 3
  have z4 := hgb2.cell 4
  simp only [List.getElem?_toArray, List.getElem?_cons_zero, List.getElem?_cons_succ] at z0 z1 z2 z3 z4
  have HR2 := hide hrow2
  clear hrow2 hHB hb2 hgb2 g0 HRP HBA HGB
  go_wp2_with fail
  refine (HED.out w2 HB2.out).mono ?_
  rintro e w3 ⟨v5, rfl, ho3, hb3⟩
  obtain ⟨D5, hD5, hed⟩ := ed_of_own ho3
  obtain ⟨a5, c5, hv5, ha5⟩ := hed.slc
  subst hv5
  have HR3 := hide (row_kept HR2.out hb3)
  have HB3 : Hid (Below w.heap.size w w3) := HB2.out.trans (hb3.mono HB2.out.size)
  have HZ3 : Hid (w2.heap.size ≤ w3.heap.size) := hb3.size
  have HD5 := hide hD5
  have HEDR := hide hed
  obtain ⟨N, hN⟩ : ∃ N, E.length = N := ⟨_, rfl⟩
  rw [hN] at ha5 hm ⊢
  have HN := hide hN
  clear ho3 hb3 hed hN z0 z1 z2 z3 z4 hD5 HED
  go_wp2
  rename World => V3
  go_loopw [15] (fun ix wr => ∃ k : Nat, k ≤ N ∧ ix = .int .i64 k ∧ wr.rowIs HB 3 n (fun c => .int .i64 (hpF D (E.take k) c)) ∧ Ks [HB] V3.heap.size V3 wr) (fun ix _ => N - (intOf ix).toNat)
  case atStart => exact ⟨0, Nat.zero_le _, rfl, HR3.out, Ks.refl _ _ _⟩
  case round =>
    clear HR3
    obtain ⟨k, hk, rfl, hr, hks⟩ := hrel
    rename World => Z
    have HR := hide hr
    have HK := hide hks
    clear hr hks
    by_cases hlt : k < N
    · have hki : (k : Int) < (N : Int) := by omega
      have hkS : k < E.length := by rw [HN.out]; exact hlt
      obtain rfl := ha5 (by omega)
      obtain ⟨x, hx⟩ : ∃ x, E[k]? = some x := ⟨_, List.getElem?_eq_getElem hkS⟩
      have hxm : x ∈ E := List.mem_of_getElem? hx
      have hxd : E.getD k .nul = x := by rw [List.getD_eq_getElem?_getD, hx]; rfl
      have HX := hide hx
      have hff := HE.out.ff x hxm
      have htt := HE.out.tt x hxm
      have hcc := HE.out.cc x hxm
      have hedz : EdR Z D5 (.slice (some ⟨D5, 0, none⟩) E.length c5) E := HEDR.out.keep fun h0 => by
        obtain ⟨cur, h1, _⟩ := HEDR.out.blk h0
        exact HK.out.bl D5 h1.lt (by simp; have h2 := HLT.out; have h3 := HD5.out; omega)
      obtain ⟨p0, p1, p2, p3⟩ := hedz.each k hkS
      rw [hxd] at p0 p1 p2 p3
      obtain ⟨f, hf⟩ : ∃ f : Nat, x.f = f := ⟨x.f.toNat, by omega⟩
      obtain ⟨t, ht⟩ : ∃ t : Nat, x.t = t := ⟨x.t.toNat, by omega⟩
      obtain ⟨xd, hxd2⟩ : ∃ q, x.d = q := ⟨_, rfl⟩
      obtain ⟨xc, hxc2⟩ : ∃ q, x.c = q := ⟨_, rfl⟩
      rw [hf] at p0 hff
      rw [ht] at p1 htt
      rw [hxd2] at p2
      rw [hxc2] at p3 hcc
      have HXF := hide hf
      have HXT := hide ht
      have HXD := hide hxd2
      have HXC := hide hxc2
      have hfn : f < n := by omega
      have htn : t < n := by omega
      have hfi : (f : Int) < (n : Int) := by omega
      have hti : (t : Int) < (n : Int) := by omega
      have hbZ : Below Z.heap.size Z (Z.alloc (.cells #[.int .i64 (f : Nat), .int .i64 (t : Nat), .int .i64 xd, .int .i64 xc] 50)) := (Below.refl _ _).alloc (Nat.le_refl _) _
      have hdz : Z.rowIs DB 3 n (fun c => .int .i64 (D c)) := (row_kept HROW.out HB3.out).of_block (HK.out.bl DB (by have h1 := HDL.out; have h2 := HSZ.out; have h3 := HZ3.out; omega) (by simp; have h1 := HDL.out; have h2 := HSZ.out; omega))
      have dt := (row_kept hdz hbZ).cell htn
      have df := (row_kept hdz hbZ).cell hfn
      have hf0 := (row_kept HR.out hbZ).cell hfn
      have hf1 := (row_kept HR.out hbZ).frozen f
      have hdt := HD.out t htn
      have hdf := HD.out f hfn
      obtain ⟨mt, hmt⟩ : ∃ q, D t = q := ⟨_, rfl⟩
      obtain ⟨mf, hmf⟩ : ∃ q, D f = q := ⟨_, rfl⟩
      obtain ⟨hv, hhv⟩ : ∃ q, hpF D (E.take k) f = q := ⟨_, rfl⟩
      rw [hmt] at dt hdt
      rw [hmf] at df hdf
      rw [hhv] at hf0
      have HMT := hide hmt
      have HMF := hide hmf
      have HHV := hide hhv
      have hEB := Blk.new Z 50 #[.int .i64 (f : Nat), .int .i64 (t : Nat), .int .i64 xd, .int .i64 xc]
      have e0 := hEB.cell 0
      have e1 := hEB.cell 1
      have e2 := hEB.cell 2
      have e3 := hEB.cell 3
      simp only [List.getElem?_toArray, List.getElem?_cons_succ, List.getElem?_cons_zero] at e0 e1 e2 e3
      obtain ⟨sm, hsm⟩ : ∃ q, mt + xc = q := ⟨_, rfl⟩
      have hws : IntKind.i64.wrap (mt + xc) = sm := by rw [IntKind.wrap_i64]; omega
      have HSM := hide hsm
      have HBZ := hide hbZ
      have HSTEP : Hid (hpF D (E.take (k + 1)) = if 0 ≤ mt ∧ sm = mf ∧ (hv < 0 ∨ xd < hv) then updI (hpF D (E.take k)) f xd else hpF D (E.take k)) := by
        have h1 := hpF_take (D := D) HX.out
        show _ = _
        rw [h1]
        unfold hpS
        rw [HXF.out, HXT.out, HXD.out, HXC.out, Int.toNat_natCast, Int.toNat_natCast, HMT.out, HMF.out, HHV.out, HSM.out]
      have HZG : Hid (V3.heap.size ≤ Z.heap.size) := HK.out.size
      clear hx hxm hxd hff htt hcc hedz hf ht hxd2 hxc2 hdz hdt hdf hmt hmf hhv hEB hsm hbZ
      by_cases q1 : mt < 0
      · have t1 : decide (mt < 0) = true := decide_eq_true q1
        have HH1 : Hid (hpF D (E.take (k + 1)) = hpF D (E.take k)) := by show _ = _; rw [HSTEP.out, if_neg (fun h => by omega)]
        go_wp2_with fail
        go_quiet (fail)
        go_wp2
        go_roundw
        case rel =>
          refine ⟨k + 1, by omega, by go_num, ?_, ?_⟩
          · rw [HH1.out]
            exact row_kept HR.out (below_drewN HBZ.out _)
          · exact HK.out.trans (Ks.of_below (below_drewN HBZ.out _) HZG.out)
        case measure => simp [intOf]; omega
      have t1 : decide (mt < 0) = false := decide_eq_false q1
      by_cases q2 : sm = mf
      · have t2 : (sm != mf) = false := by simp [q2]
        by_cases q3 : hv < 0
        · have t3 : decide (hv < 0) = true := decide_eq_true q3
          have HH1 : Hid (hpF D (E.take (k + 1)) = updI (hpF D (E.take k)) f xd) := by show _ = _; rw [HSTEP.out, if_pos ⟨by omega, q2, .inl q3⟩]
          go_wp2_with fail
          go_quiet (fail)
          go_wp2_with fail
          go_quiet (fail)
          go_wp2
          go_roundw
          case rel =>
            refine ⟨k + 1, by omega, by go_num, ?_, ?_⟩
            · rw [HH1.out]
              exact row_setI (row_kept HR.out (below_drewN HBZ.out _))
            · exact HK.out.trans ((Ks.of_below (below_drewN HBZ.out _) HZG.out).trans (Ks.set (B := HB) (by simp)))
          case measure => simp [intOf]; omega
        have t3 : decide (hv < 0) = false := decide_eq_false q3
        by_cases q4 : xd < hv
        · have t4 : decide (xd < hv) = true := decide_eq_true q4
          have HH1 : Hid (hpF D (E.take (k + 1)) = updI (hpF D (E.take k)) f xd) := by show _ = _; rw [HSTEP.out, if_pos ⟨by omega, q2, .inr q4⟩]
          go_wp2_with fail
          go_quiet (fail)
          go_wp2_with fail
          go_quiet (fail)
          go_wp2
          go_roundw
          case rel =>
            refine ⟨k + 1, by omega, by go_num, ?_, ?_⟩
            · rw [HH1.out]
              exact row_setI (row_kept HR.out (below_drewN HBZ.out _))
            · exact HK.out.trans ((Ks.of_below (below_drewN HBZ.out _) HZG.out).trans (Ks.set (B := HB) (by simp)))
          case measure => simp [intOf]; omega
        have t4 : decide (xd < hv) = false := decide_eq_false q4
        have HH1 : Hid (hpF D (E.take (k + 1)) = hpF D (E.take k)) := by show _ = _; rw [HSTEP.out, if_neg (fun h => by omega)]
        go_wp2_with fail
        go_quiet (fail)
        go_wp2_with fail
        go_quiet (fail)
        go_wp2
        go_roundw
        case rel =>
          refine ⟨k + 1, by omega, by go_num, ?_, ?_⟩
          · rw [HH1.out]
            exact row_kept HR.out (below_drewN HBZ.out _)
          · exact HK.out.trans (Ks.of_below (below_drewN HBZ.out _) HZG.out)
        case measure => simp [intOf]; omega
      · have t2 : (sm != mf) = true := by simp [q2]
        have HH1 : Hid (hpF D (E.take (k + 1)) = hpF D (E.take k)) := by show _ = _; rw [HSTEP.out, if_neg (fun h => q2 h.2.1)]
        go_wp2_with fail
        go_quiet (fail)
        go_wp2
        go_roundw
        case rel =>
          refine ⟨k + 1, by omega, by go_num, ?_, ?_⟩
          · rw [HH1.out]
            exact row_kept HR.out (below_drewN HBZ.out _)
          · exact HK.out.trans (Ks.of_below (below_drewN HBZ.out _) HZG.out)
        case measure => simp [intOf]; omega
    · have hge : ¬ (k : Int) < (N : Int) := by omega
      obtain rfl : k = N := by omega
      have HF : Hid (HopP w Z n D E (.returned (.slice (some ⟨HB, 0, none⟩) n n))) := by
        refine ⟨HB, rfl, HR.out.congr fun c hc => ?_, by have := HSZ.out; omega, HK.out.fall HB3.out (by have h1 := HSZ.out; have h2 := HZ3.out; omega) (fun q hq => ?_)⟩
        · rw [← HN.out, List.take_length]
        · rw [List.mem_singleton.1 hq]; have := HSZ.out; omega
      go_wp2
      go_ret
      exact HF.out
end Go.Proofs.Ytochfhoaiekioaa
