/-
  The walk of impl.Route.
-/
import Derived.Test.YtochfhoaiekioaaJRtDJX
import Derived.Test.YtochfhoaiekioaaJRtHPW
import Derived.Test.YtochfhoaiekioaaJRtIRV
namespace Go.Proofs.Ytochfhoaiekioaa
open Go.RowKit

theorem row_if1 {w w0 : World} {B n c : Nat} {L : List Int} (hn : 0 < n) (hl : L.length = n) (h : w.rowIs B 3 n (fun j => .int .i64 (L.getD j 0))) (hB : w0.heap.size ≤ B) : IF w (.slice (some ⟨B, 0, none⟩) n c) L [B] ∧ Fr w0 w [B] :=
  ⟨⟨_, B, 0, c, by rw [hl], fun _ => rfl, by rw [if_pos (by omega)], fun j hj => by rw [Nat.zero_add]; exact ⟨h.cell (by omega), h.frozen j⟩⟩, ⟨by simp, fun g hg => by rw [List.mem_singleton.1 hg]; exact hB, fun g hg => by rw [List.mem_singleton.1 hg]; exact h.lt⟩⟩

set_option maxHeartbeats 4000000 in
set_option maxRecDepth 1000000 in
theorem implRoute_any (g : Gr) (v1 v2 v3 v4 : Value) (t : Int) (w : World) (hb : GrB g) (h : GrV w g v1 v2 v3 v4) :
    Calls Try.prog 8 #[gragg g v1 v2 v3 v4, .int .i64 t] w fun e w' => ∃ v u bl bl2, e = .returned (.tuple #[v, u, .int .i64 (rtC g t)]) ∧ IF w' v (rtD g t) bl ∧ IF w' u (rtH g t) bl2 ∧ Fr w w' bl ∧ Fr w w' bl2 ∧ (∀ g ∈ bl, g ∉ bl2) ∧ Below w.heap.size w w' := by
  have HRV := hide (fun w2 (h2 : Below w.heap.size w w2) => implReverse_any g v1 v2 v3 v4 w2 hb (h.below h2))
  have HHP := hide (fun n D DB w2 (h2 : Below w.heap.size w w2) (hok : GrOk g) (hgn : g.n = (n : Nat)) (hD : ∀ c, c < n → -1 ≤ D c ∧ D c ≤ 14400) (hrow : w2.rowIs DB 3 n (fun c => .int .i64 (D c))) => hops_any g n D v1 v2 v3 v4 DB w2 hok hgn hD hrow (h.below h2))
  obtain ⟨a1, c1, rfl⟩ := h.start.slice
  obtain ⟨a2, c2, rfl⟩ := h.to.slice
  obtain ⟨a3, c3, rfl⟩ := h.dir.slice
  obtain ⟨a4, c4, rfl⟩ := h.cost.slice
  obtain ⟨W0, hW0⟩ : ∃ W, w.alloc (.cells #[.int .i64 g.n, .slice a1 g.start.length c1, .slice a2 g.to.length c2, .slice a3 g.dir.length c3, .slice a4 g.cost.length c4] 28) = W := ⟨_, rfl⟩
  have HB0 : Hid (Below w.heap.size w W0) := by rw [← hW0]; exact (Below.refl _ _).alloc (Nat.le_refl _) _
  have HA0 : Hid (Blk W0 w.heap.size 28 #[.int .i64 g.n, .slice a1 g.start.length c1, .slice a2 g.to.length c2, .slice a3 g.dir.length c3, .slice a4 g.cost.length c4]) := by rw [← hW0]; exact Blk.new _ _ _
  have HW := hide hW0
  clear hW0
  unfold gragg at HRV HHP ⊢
  clear hb h
  go_enter Try.func8, Try.ntmps8
  go_wp2_with fail
  rw [HW.out]
  refine (HRV.out _ HB0.out).mono ?_
  rintro e w2 ⟨p1, p2, p3, p4, bl, rfl, hg2, _, hb2⟩
  have hv2 := hg2.rd
  obtain ⟨r1, k1, rfl⟩ := hv2.start.slice
  obtain ⟨r2, k2, rfl⟩ := hv2.to.slice
  obtain ⟨r3, k3, rfl⟩ := hv2.dir.slice
  obtain ⟨r4, k4, rfl⟩ := hv2.cost.slice
  have hbX : Below w2.heap.size w2 (w2.alloc (.cells #[.int .i64 (rvF g).n, .slice r1 (rvF g).start.length k1, .slice r2 (rvF g).to.length k2, .slice r3 (rvF g).dir.length k3, .slice r4 (rvF g).cost.length k4] 28)) := (Below.refl _ _).alloc (Nat.le_refl _) _
  have HB3 : Hid (Below w.heap.size w (w2.alloc (.cells #[.int .i64 (rvF g).n, .slice r1 (rvF g).start.length k1, .slice r2 (rvF g).to.length k2, .slice r3 (rvF g).dir.length k3, .slice r4 (rvF g).cost.length k4] 28))) := (HB0.out.trans (hb2.mono HB0.out.size)).trans (hbX.mono (HB0.out.trans (hb2.mono HB0.out.size)).size)
  have ha3 := (HA0.out.below hb2).below hbX
  have z0 := ha3.cell 0
  have z1 := ha3.cell 1
  have z2 := ha3.cell 2
  have z3 := ha3.cell 3
  have z4 := ha3.cell 4
  have hr3 := Blk.new w2 28 #[.int .i64 (rvF g).n, .slice r1 (rvF g).start.length k1, .slice r2 (rvF g).to.length k2, .slice r3 (rvF g).dir.length k3, .slice r4 (rvF g).cost.length k4]
  have y0 := hr3.cell 0
  have y1 := hr3.cell 1
  have y2 := hr3.cell 2
  have y3 := hr3.cell 3
  have y4 := hr3.cell 4
  simp only [List.getElem?_toArray, List.getElem?_cons_zero, List.getElem?_cons_succ] at z0 z1 z2 z3 z4 y0 y1 y2 y3 y4
  have HA3 := hide ha3
  have HV3 := hide (hv2.below hbX)
  clear hg2 hb2 hv2 hbX ha3 hr3 HA0 HB0 HW HRV
  by_cases hok : GrOk g
  · rw [rvC_yes hok]
    have hn0 := hok.n0
    have hn1 := hok.n1
    obtain ⟨n, hn⟩ : ∃ n : Nat, g.n = n := ⟨g.n.toNat, by omega⟩
    have hnt : g.n.toNat = n := by omega
    have HN := hide hn
    have HNT := hide hnt
    have HOK := hide hok
    have HF : Hid (rvF g = grOf n ((eds g).map Ed.turn)) := by show _ = _; rw [rvF_yes hok, hnt]; rfl
    have HQ : Hid (1 ≤ n ∧ n ≤ 1600) := by show _ ∧ _; omega
    have HEC : Hid (Ec n (eds g)) := by have := eds_ec hok; rw [hnt] at this; exact this
    have HML : Hid ((eds g).length ≤ 6400) := by show _ ≤ _; rw [eds_length]; exact hok.m
    rw [hn] at z0
    clear hn0 hn1 hn hnt hok
    by_cases q1 : t < 0
    · have t1 : decide (t < 0) = true := decide_eq_true q1
      have HNO : Hid (¬ RtOk g t) := fun h => by have := h.2.1; omega
      go_wp2
      go_ret3
      rw [(rt_no HNO.out).1, (rt_no HNO.out).2.1, (rt_no HNO.out).2.2]
      exact ⟨_, _, [], [], rfl, if_nil _ _, if_nil _ _, Fr.nil _ _, Fr.nil _ _, (fun _ h => by cases h), HB3.out⟩
    have t1 : decide (t < 0) = false := decide_eq_false q1
    by_cases q2 : (n : Int) ≤ t
    · have t2 : decide ((n : Int) ≤ t) = true := decide_eq_true q2
      have HNO : Hid (¬ RtOk g t) := fun h => by have h1 := h.2.2; rw [HN.out] at h1; omega
      go_wp2
      go_ret3
      rw [(rt_no HNO.out).1, (rt_no HNO.out).2.1, (rt_no HNO.out).2.2]
      exact ⟨_, _, [], [], rfl, if_nil _ _, if_nil _ _, Fr.nil _ _, Fr.nil _ _, (fun _ h => by cases h), HB3.out⟩
    have t2 : decide ((n : Int) ≤ t) = false := decide_eq_false q2
    obtain ⟨s, hs⟩ : ∃ s : Nat, t = s := ⟨t.toNat, by omega⟩
    subst hs
    have HYES : Hid (RtOk g (s : Int)) := ⟨HOK.out, by omega, by rw [HN.out]; omega⟩
    obtain ⟨W3, hW3⟩ : ∃ W, w2.alloc (.cells #[.int .i64 (rvF g).n, .slice r1 (rvF g).start.length k1, .slice r2 (rvF g).to.length k2, .slice r3 (rvF g).dir.length k3, .slice r4 (rvF g).cost.length k4] 28) = W := ⟨_, rfl⟩
    have HW3 := hide hW3
    rw [hW3] at HB3 HA3 HV3
    have HDS := hide (distances_any n (eds g) s (.slice r1 (rvF g).start.length k1) (.slice r2 (rvF g).to.length k2) (.slice r3 (rvF g).dir.length k3) (.slice r4 (rvF g).cost.length k4) W3 HQ.out.1 HQ.out.2 HEC.out HML.out (by omega) (by rw [← HF.out]; exact HV3.out))
    unfold gragg at HDS
    rw [← HF.out] at HDS
    have t3 : decide (n ≤ s) = false := decide_eq_false (by omega)
    clear hW3 q1 q2
    go_wp2_with fail
    rw [HW3.out]
    refine HDS.out.mono ?_
    rintro e w4 ⟨DB, rfl, hrow, hDB, hb4, hbd⟩
    have HB4 : Hid (Below w.heap.size w w4) := HB3.out.trans (hb4.mono HB3.out.size)
    have ha4 := HA3.out.below hb4
    have x0 := ha4.cell 0
    have x1 := ha4.cell 1
    have x2 := ha4.cell 2
    have x3 := ha4.cell 3
    have x4 := ha4.cell 4
    simp only [List.getElem?_toArray, List.getElem?_cons_zero, List.getElem?_cons_succ] at x0 x1 x2 x3 x4
    have HDB : Hid (w.heap.size ≤ DB) := Nat.le_trans HB3.out.size hDB
    have HRW := hide hrow
    have HHO := hide (HHP.out n (dsF (eds g) (s : Int)) DB w4 HB4.out HOK.out HN.out (fun c hc => ⟨dsF_rng HEC.out _ _, hbd c hc⟩) hrow)
    clear hrow hDB hb4 hbd ha4 z0 z1 z2 z3 z4 y0 y1 y2 y3 y4 HDS HW3 HV3 HHP
    go_wp2_with fail
    refine HHO.out.mono ?_
    rintro e w5 ⟨HB, rfl, hrow5, hHB, hb5⟩
    have HR5 := hide hrow5
    have HRD := hide (row_kept HRW.out hb5)
    have HB5 : Hid (Below w.heap.size w w5) := HB4.out.trans (hb5.mono HB4.out.size)
    have HHB := hide hHB
    have HLD := hide HRW.out.lt
    clear hrow5 hHB hb5
    go_wp2
    go_ret3
    obtain ⟨e1, e2, e3⟩ := rt_yes HYES.out
    have hnp : 0 < n := by have := HYES.out.1.n0; have h2 := HN.out; omega
    have hd := row_if1 (w0 := w) (c := n) hnp (dsL_length n (eds g) (s : Int)) (HRD.out.congr fun c hc => by rw [dsL_getD _ _ hc]) HDB.out
    have hh := row_if1 (w0 := w) (c := n) hnp (hpL_length n (dsF (eds g) (s : Int)) (eds g)) (HR5.out.congr fun c hc => by rw [hpL_getD _ _ hc]) (Nat.le_trans HB4.out.size HHB.out)
    rw [HNT.out] at e1 e2
    rw [e1, e2, e3]
    refine ⟨_, _, [DB], [HB], rfl, hd.1, hh.1, hd.2, hh.2, fun q hq => ?_, HB5.out⟩
    rw [List.mem_singleton.1 hq, List.mem_singleton]
    have h1 := HLD.out
    have h2 := HHB.out
    omega
  · rw [rvC_no hok]
    have HNO : Hid (¬ RtOk g t) := fun h => hok h.1
    go_wp2
    go_ret3
    rw [(rt_no HNO.out).1, (rt_no HNO.out).2.1, (rt_no HNO.out).2.2]
    exact ⟨_, _, [], [], rfl, if_nil _ _, if_nil _ _, Fr.nil _ _, Fr.nil _ _, (fun _ h => by cases h), HB3.out⟩
end Go.Proofs.Ytochfhoaiekioaa
