/-
  The walk of spec.Route.
-/
import Derived.Test.YtochfhoaiekioaaJRtBFD
import Derived.Test.YtochfhoaiekioaaJRtSED
import Derived.Test.YtochfhoaiekioaaJRtSG
import Derived.BigQuiet
import Derived.Deep.QuietTactic
import Derived.Deep.LoopGhost
namespace Go.Proofs.Ytochfhoaiekioaa
open Go.RowKit

theorem Try.infoRS : (Try.prog.info? 3).map (fun i => (i.zero, i.size, i.bytes)) = some (some (.int .i64 0), 1, 8) := by kernel_rfl
/-- So many are filled. -/
def filF (k : Nat) : Nat → Int := fun j => if j < k then -1 else 0
theorem filF_set (k : Nat) : updI (filF k) k (-1) = filF (k + 1) := by
  funext j
  unfold updI filF
  by_cases h : j = k
  · subst h; simp
  · rw [if_neg h]
    by_cases h2 : j < k
    · rw [if_pos h2, if_pos (by omega)]
    · rw [if_neg h2, if_neg (by omega)]

set_option maxHeartbeats 8000000 in
set_option maxRecDepth 1000000 in
theorem specRoute_any (g : Gr) (v1 v2 v3 v4 : Value) (t : Int) (w : World) (hb : GrB g) (h : GrV w g v1 v2 v3 v4) :
    Calls Try.prog 6 #[gragg g v1 v2 v3 v4, .int .i64 t] w fun e w' => ∃ v u, e = .returned (.tuple #[v, u, .int .i64 (rtC g t)]) ∧ IS w' v (rtD g t) ∧ IS w' u (rtH g t) ∧ Below w.heap.size w w' := by
  have HVG := hide (fun w2 (h2 : Below w.heap.size w w2) => specGraph_any g v1 v2 v3 v4 w2 hb (h.below h2))
  have HED := hide (fun w2 (h2 : Below w.heap.size w w2) (hok : GrOk g) => l5edges_any g v1 v2 v3 v4 w2 hok (h.below h2))
  obtain ⟨a1, c1, rfl⟩ := h.start.slice
  obtain ⟨a2, c2, rfl⟩ := h.to.slice
  obtain ⟨a3, c3, rfl⟩ := h.dir.slice
  obtain ⟨a4, c4, rfl⟩ := h.cost.slice
  obtain ⟨W0, hW0⟩ : ∃ W, w.alloc (.cells #[.int .i64 g.n, .slice a1 g.start.length c1, .slice a2 g.to.length c2, .slice a3 g.dir.length c3, .slice a4 g.cost.length c4] 28) = W := ⟨_, rfl⟩
  have HB0 : Hid (Below w.heap.size w W0) := by rw [← hW0]; exact (Below.refl _ _).alloc (Nat.le_refl _) _
  have HA0 : Hid (Blk W0 w.heap.size 28 #[.int .i64 g.n, .slice a1 g.start.length c1, .slice a2 g.to.length c2, .slice a3 g.dir.length c3, .slice a4 g.cost.length c4]) := by rw [← hW0]; exact Blk.new _ _ _
  have HW := hide hW0
  clear hW0
  unfold gragg at HVG HED ⊢
  clear hb h
  go_enter Try.func6, Try.ntmps6
  go_wp2_with fail
  rw [HW.out]
  refine (HVG.out _ HB0.out).mono ?_
  rintro e w2 ⟨⟨r1, rfl, hr1⟩, hb2⟩
  have HA2 := hide (HA0.out.below hb2)
  have HB2 : Hid (Below w.heap.size w w2) := HB0.out.trans (hb2.mono HB0.out.size)
  have HR2 := hide hr1
  clear hb2 hr1 HB0 HA0 HW HVG
  have z0 := HA2.out.cell 0
  have z1 := HA2.out.cell 1
  have z2 := HA2.out.cell 2
  have z3 := HA2.out.cell 3
  have z4 := HA2.out.cell 4
  simp only [List.getElem?_toArray, List.getElem?_cons_succ, List.getElem?_cons_zero] at z0 z1 z2 z3 z4
  cases r1 with
  | false =>
    have HNO : Hid (¬ RtOk g t) := fun h => by have := HR2.out.2 h.1; cases this
    go_wp2
    go_ret3
    rw [(rt_no HNO.out).1, (rt_no HNO.out).2.1, (rt_no HNO.out).2.2]
    exact ⟨_, _, rfl, is_nil _ _, is_nil _ _, HB2.out⟩
  | true =>
    have HOK := hide (HR2.out.1 rfl)
    clear HR2
    obtain ⟨n, hn⟩ : ∃ n : Nat, g.n = n := ⟨g.n.toNat, by have := HOK.out.n0; omega⟩
    have hnt : g.n.toNat = n := by omega
    have HN := hide hn
    have HNT := hide hnt
    have HEC : Hid (Ec n (eds g)) := by have := eds_ec HOK.out; rw [hnt] at this; exact this
    have HML : Hid ((eds g).length ≤ 6400) := by show _ ≤ _; rw [eds_length]; exact HOK.out.m
    have HQ : Hid (1 ≤ n ∧ n ≤ 1600) := by have h1 := HOK.out.n0; have h2 := HOK.out.n1; show _ ∧ _; omega
    by_cases q1 : t < 0
    · have t1 : decide (t < 0) = true := decide_eq_true q1
      clear hn hnt
      have HNO : Hid (¬ RtOk g t) := fun h => by have := h.2.1; omega
      go_wp2
      go_ret3
      rw [(rt_no HNO.out).1, (rt_no HNO.out).2.1, (rt_no HNO.out).2.2]
      exact ⟨_, _, rfl, is_nil _ _, is_nil _ _, HB2.out⟩
    have t1 : decide (t < 0) = false := decide_eq_false q1
    by_cases q2 : g.n ≤ t
    · have t2 : decide (g.n ≤ t) = true := decide_eq_true q2
      clear hn hnt
      have HNO : Hid (¬ RtOk g t) := fun h => by have h1 := h.2.2; omega
      go_wp2
      go_ret3
      rw [(rt_no HNO.out).1, (rt_no HNO.out).2.1, (rt_no HNO.out).2.2]
      exact ⟨_, _, rfl, is_nil _ _, is_nil _ _, HB2.out⟩
    have t2 : decide (g.n ≤ t) = false := decide_eq_false q2
    obtain ⟨s, hs⟩ : ∃ s : Nat, t = s := ⟨t.toNat, by omega⟩
    subst hs
    have hsn : s < n := by omega
    have hsi : (s : Int) < (n : Int) := by omega
    have HYES : Hid (RtOk g (s : Int)) := ⟨HOK.out, by omega, by omega⟩
    have hnn : n ≤ 1600 := HQ.out.2
    clear hn hnt q1 q2
    go_wp2_with fail
    refine (HED.out _ HB2.out HOK.out).mono ?_
    rintro e w3 ⟨v5, rfl, hes, hb3⟩
    obtain ⟨a5, b5, o5, c5, rfl, ha5, hc5⟩ := hes
    have HB3 : Hid (Below w.heap.size w w3) := HB2.out.trans (hb3.mono HB2.out.size)
    have HA3 := hide (HA2.out.below hb3)
    obtain ⟨E, hEE⟩ : ∃ E, eds g = E := ⟨_, rfl⟩
    rw [hEE] at ha5 hc5 HEC HML ⊢
    have HEE := hide hEE
    have HC5 : Hid (∀ V, Below w3.heap.size w3 V → ∀ j, j < E.length → ∀ p, E[j]? = some p → V.cell? ⟨b5, o5 + j * 4, none⟩ = some (.int .i64 p.f) ∧ V.cell? ⟨b5, o5 + j * 4 + 1, none⟩ = some (.int .i64 p.t) ∧ V.cell? ⟨b5, o5 + j * 4 + 2, none⟩ = some (.int .i64 p.d) ∧ V.cell? ⟨b5, o5 + j * 4 + 3, none⟩ = some (.int .i64 p.c)) := fun V hV j hj p hp => by
      obtain ⟨k0, k1, k2, k3⟩ := hc5 j hj p hp
      exact ⟨cell_kept k0 hV, cell_kept k1 hV, cell_kept k2 hV, cell_kept k3 hV⟩
    obtain ⟨N, hN⟩ : ∃ N, E.length = N := ⟨_, rfl⟩
    have HNN := hide hN
    rw [hN] at ha5 HML ⊢
    have hNm : N ≤ 6400 := HML.out
    clear z0 z1 z2 z3 z4 hb3 hc5 hEE hN HA2 HB2 HED
    have HZ0 : Hid (∀ V, Below w3.heap.size w3 V → V.cell? ⟨w.heap.size, 0, none⟩ = some (.int .i64 (n : Nat))) := fun V hV => by
      have := (HA3.out.below hV).cell 0
      simp only [List.getElem?_toArray, List.getElem?_cons_zero] at this
      rw [HN.out] at this
      exact this
    have hmk1 := run_make_row' (P := Try.prog) 22 3 (.int .i64 0) 8 Try.underlying22 Try.infoRS rfl .i64 .i64 n (by omega) (by omega) w3
    have hR1 := World.rowIs_made w3 (.int .i64 0) n 3
    obtain ⟨W4, hW4⟩ : ∃ W, w3.alloc (.cells (madeCells #[.int .i64 0] n) 3) = W := ⟨_, rfl⟩
    have hb4 : Below w3.heap.size w3 W4 := by rw [← hW4]; exact (Below.refl _ _).alloc (Nat.le_refl _) _
    have hs4 : W4.heap.size = w3.heap.size + 1 := by rw [← hW4, World.size_alloc]
    obtain ⟨DB, hDB⟩ : ∃ B, w3.heap.size = B := ⟨_, rfl⟩
    rw [hW4] at hmk1 hR1
    have hmk2 := run_make_row' (P := Try.prog) 22 3 (.int .i64 0) 8 Try.underlying22 Try.infoRS rfl .i64 .i64 n (by omega) (by omega) W4
    have hR2 := World.rowIs_made W4 (.int .i64 0) n 3
    obtain ⟨W5, hW5⟩ : ∃ W, W4.alloc (.cells (madeCells #[.int .i64 0] n) 3) = W := ⟨_, rfl⟩
    have hb5 : Below W4.heap.size W4 W5 := by rw [← hW5]; exact (Below.refl _ _).alloc (Nat.le_refl _) _
    obtain ⟨HB, hHB⟩ : ∃ B, W4.heap.size = B := ⟨_, rfl⟩
    have hB5 : Below w3.heap.size w3 W5 := hb4.trans (hb5.mono hb4.size)
    rw [hW5] at hmk2 hR2
    have HRD0 := hide (row_kept hR1 hb5)
    have HRH0 := hide hR2
    have HDD : Hid (w3.heap.size = DB ∧ HB = DB + 1) := by show _ ∧ _; omega
    have HBW5 := hide hB5
    have y3 := HZ0.out w3 (Below.refl _ _)
    have y4 := HZ0.out W4 hb4
    rw [hDB] at hmk1 HRD0
    rw [hHB] at hmk2 HRH0
    have hne : DB ≠ HB := by omega
    have hne2 : HB ≠ DB := by omega
    clear hb4 hs4 hb5 hB5 hW4 hW5 hR1 hR2 hDB hHB
    go_wp2
    clear hmk1 hmk2 y3 y4
    go_loopw [10] (fun ix wr => ∃ k : Nat, k ≤ n ∧ ix = .int .i64 k ∧ wr.rowIs DB 3 n (fun j => .int .i64 (filF k j)) ∧ wr.rowIs HB 3 n (fun j => .int .i64 (filF k j)) ∧ Below w3.heap.size w3 wr) (fun ix _ => n - (intOf ix).toNat)
    case atStart => exact ⟨0, Nat.zero_le _, rfl, HRD0.out, HRH0.out, HBW5.out⟩
    case round =>
      clear HRD0 HRH0 HBW5
      obtain ⟨k, hk, rfl, hrd, hrh, hbl⟩ := hrel
      rename World => Z
      have z0 := HZ0.out Z hbl
      by_cases hlt : k < n
      · have hlti : (k : Int) < (n : Int) := by omega
        have q1 := hrd.cell hlt
        have q2 := hrd.frozen k
        have HRD := hide (row_setI (t := k) (v := -1) hrd)
        rw [filF_set] at HRD
        have hrh1 := hrh.setOther (a := ⟨DB, k, none⟩) hne2 (.int .i64 (-1))
        have q3 := hrh1.cell hlt
        have q4 := hrh1.frozen k
        have HRH := hide (row_setI (t := k) (v := -1) hrh1)
        rw [filF_set] at HRH
        have HRD2 := hide (HRD.out.setOther (a := ⟨HB, k, none⟩) hne (.int .i64 (-1)))
        have HB6 : Hid (Below w3.heap.size w3 ((Z.setCell ⟨DB, k, none⟩ (.int .i64 (-1))).setCell ⟨HB, k, none⟩ (.int .i64 (-1)))) := (hbl.setCell (by have := HDD.out; show _ ≤ DB; omega) _).setCell (by have := HDD.out; show _ ≤ HB; omega) _
        clear hrd hrh hbl hrh1
        go_wp2
        go_roundw
        case rel => exact ⟨k + 1, by omega, by go_num, HRD2.out, HRH.out, HB6.out⟩
        case measure => simp [intOf]; omega
      · have hge : ¬ (k : Int) < (n : Int) := by omega
        obtain rfl : k = n := by omega
        have HRD : Hid (Z.rowIs DB 3 k (fun j => .int .i64 ((fun _ => (-1 : Int)) j))) := hrd.congr fun j hj => by unfold filF; rw [if_pos hj]
        have HRH : Hid (Z.rowIs HB 3 k (fun j => .int .i64 (-1))) := hrh.congr fun j hj => by unfold filF; rw [if_pos hj]
        have q1 := hrd.cell hsn
        have q2 := hrd.frozen s
        have HD1 := hide (row_setI (t := s) (v := 0) HRD.out)
        have HH1 := hide (HRH.out.setOther (a := ⟨DB, s, none⟩) hne2 (.int .i64 0))
        have HB6 : Hid (Below w3.heap.size w3 (Z.setCell ⟨DB, s, none⟩ (.int .i64 0))) := hbl.setCell (by have := HDD.out; show _ ≤ DB; omega) _
        have HBF : Hid (Bf k E s (updI (fun _ => -1) s 0)) := Bf.first hsn
        clear hrd hrh hbl HRD HRH
        go_wp2
        clear q1 q2 z0 hge
        obtain ⟨M0, hM0⟩ : ∃ M, updI (fun _ => -1) s 0 = M := ⟨_, rfl⟩
        rw [hM0] at HBF HD1
        clear hM0
        go_loopg [11] (msN (9 * k + 10) M0 k) (fun gg _ wr => ∃ M : Nat → Int, wr.rowIs DB 3 k (fun j => .int .i64 (M j)) ∧ wr.rowIs HB 3 k (fun j => .int .i64 (-1)) ∧ Bf k E s M ∧ msN (9 * k + 10) M k ≤ gg ∧ Below w3.heap.size w3 wr)
        case atStart => exact ⟨M0, HD1.out, HH1.out, HBF.out, Nat.le_refl _, HB6.out⟩
        case round =>
          clear HD1 HH1 HBF HB6
          obtain ⟨M1, hrd, hrh, hbf, hms, hbl⟩ := hrel
          have HRD := hide hrd
          have HRH := hide hrh
          have HBF := hide hbf
          have HMS := hide hms
          have HBL := hide hbl
          have hwN : IntKind.i64.wrap ((N : Int) - 1) = (N : Int) - 1 := by rw [IntKind.wrap_i64]; omega
          clear hrd hrh hbf hms hbl
          go_wp2
          rename World => wo
          go_loopw [11, 12] (fun sm ix wr => ∃ (j : Int) (M : Nat → Int) (b : Bool), -1 ≤ j ∧ j < (N : Int) ∧ ix = .int .i64 j ∧ sm = .bool b ∧ wr.rowIs DB 3 k (fun j => .int .i64 (M j)) ∧ wr.rowIs HB 3 k (fun j => .int .i64 (-1)) ∧ Bf k E s M ∧ (b = false → M = M1 ∧ ∀ x : Nat, j < (x : Int) → ∀ e, E[x]? = some e → 0 ≤ M1 e.t.toNat → 0 ≤ M1 e.f.toNat ∧ M1 e.f.toNat ≤ M1 e.t.toNat + e.c) ∧ msN (9 * k + 10) M k + (if b then 1 else 0) ≤ msN (9 * k + 10) M1 k ∧ Below w3.heap.size w3 wr) (fun _ ix _ => (intOf ix + 1).toNat)
          case atStart => exact ⟨(N : Int) - 1, M1, false, by omega, by omega, rfl, rfl, HRD.out, HRH.out, HBF.out, (fun _ => ⟨rfl, fun x hx e he => by
            rw [List.getElem?_eq_none (by rw [HNN.out]; omega)] at he; cases he⟩), Nat.le_refl _, HBL.out⟩
          case round =>
            clear HRD HRH HBF HBL
            obtain ⟨j, M, b, hj0, hj1, rfl, rfl, hrd, hrh, hbf, hno, hms, hbl⟩ := hrel
            rename World => Z
            have HRD := hide hrd
            have HRH := hide hrh
            have HBF := hide hbf
            have HNO := hide hno
            have HMS2 := hide hms
            have HBL := hide hbl
            clear hno hms
            by_cases hlt : 0 ≤ j
            · obtain ⟨i, rfl⟩ : ∃ i : Nat, j = i := ⟨j.toNat, by omega⟩
              have hiN : i < E.length := by rw [HNN.out]; omega
              have hii : (i : Int) < (N : Int) := by omega
              have hiN2 : i < N := by omega
              obtain rfl := ha5 (by omega)
              obtain ⟨x0, hx⟩ : ∃ x, E[i]? = some x := ⟨_, List.getElem?_eq_getElem hiN⟩
              have hxm : x0 ∈ E := List.mem_of_getElem? hx
              have HX := hide hx
              have HXM := hide hxm
              have hff := HEC.out.ff x0 hxm
              have htt := HEC.out.tt x0 hxm
              have hcc := HEC.out.cc x0 hxm
              obtain ⟨p0, p1, p2, p3⟩ := HC5.out Z hbl i hiN x0 hx
              obtain ⟨x, hxx⟩ : ∃ x : Nat, x0.f = x := ⟨x0.f.toNat, by omega⟩
              obtain ⟨y, hyy⟩ : ∃ y : Nat, x0.t = y := ⟨x0.t.toNat, by omega⟩
              obtain ⟨xd, hxd⟩ : ∃ q, x0.d = q := ⟨_, rfl⟩
              obtain ⟨xc, hxc⟩ : ∃ q, x0.c = q := ⟨_, rfl⟩
              rw [hxx] at p0 hff
              rw [hyy] at p1 htt
              rw [hxd] at p2
              rw [hxc] at p3 hcc
              have HXX := hide hxx
              have HYY := hide hyy
              have HXC := hide hxc
              have hxn : x < k := by omega
              have hyn : y < k := by omega
              have hxi : (x : Int) < (k : Int) := by omega
              have hyi : (y : Int) < (k : Int) := by omega
              have hbZ : Below Z.heap.size Z (Z.alloc (.cells #[.int .i64 (x : Nat), .int .i64 (y : Nat), .int .i64 xd, .int .i64 xc] 42)) := (Below.refl _ _).alloc (Nat.le_refl _) _
              have dx := (row_kept hrd hbZ).cell hxn
              have dy := (row_kept hrd hbZ).cell hyn
              have fx := (row_kept hrd hbZ).frozen x
              have hrx := hbf.rng hxn
              have hry := hbf.rng hyn
              obtain ⟨mx, hmx⟩ : ∃ q, M x = q := ⟨_, rfl⟩
              obtain ⟨my, hmy⟩ : ∃ q, M y = q := ⟨_, rfl⟩
              rw [hmx] at dx hrx
              rw [hmy] at dy hry
              have HMX := hide hmx
              have HMY := hide hmy
              have hEB := Blk.new Z 42 #[.int .i64 (x : Nat), .int .i64 (y : Nat), .int .i64 xd, .int .i64 xc]
              have e0 := hEB.cell 0
              have e1 := hEB.cell 1
              have e2 := hEB.cell 2
              have e3 := hEB.cell 3
              simp only [List.getElem?_toArray, List.getElem?_cons_succ, List.getElem?_cons_zero] at e0 e1 e2 e3
              obtain ⟨sm, hsm⟩ : ∃ q, my + xc = q := ⟨_, rfl⟩
              have hws : IntKind.i64.wrap (my + xc) = sm := by rw [IntKind.wrap_i64]; omega
              have hwi : IntKind.i64.wrap ((i : Int) - 1) = (i : Int) - 1 := by rw [IntKind.wrap_i64]; omega
              have HSM := hide hsm
              have HRDA := hide (row_kept hrd hbZ)
              have HRHA := hide (row_kept hrh hbZ)
              have HBLA : Hid (Below w3.heap.size w3 (Z.alloc (.cells #[.int .i64 (x : Nat), .int .i64 (y : Nat), .int .i64 xd, .int .i64 xc] 42))) := hbl.trans (hbZ.mono hbl.size)
              have HSTEP : Hid ((my < 0 ∨ (0 ≤ mx ∧ mx ≤ sm)) → b = false → M = M1 ∧ ∀ q : Nat, (i : Int) - 1 < (q : Int) → ∀ e, E[q]? = some e → 0 ≤ M1 e.t.toNat → 0 ≤ M1 e.f.toNat ∧ M1 e.f.toNat ≤ M1 e.t.toNat + e.c) := fun hor hb => by
                obtain ⟨h1, h2⟩ := HNO.out hb
                refine ⟨h1, fun q hq e he hf => ?_⟩
                by_cases eq : q = i
                · subst eq
                  rw [HX.out] at he
                  cases he
                  rw [HXX.out, HYY.out, HXC.out, Int.toNat_natCast, Int.toNat_natCast] at *
                  rw [← h1, HMY.out] at hf
                  rw [← h1, HMX.out, HMY.out, HSM.out]
                  rcases hor with h | h
                  · omega
                  · exact h
                · exact h2 q (by omega) e he hf
              have HUP : Hid ((0 ≤ my ∧ (mx < 0 ∨ sm < mx)) → Bf k E s (updI M x sm) ∧ msN (9 * k + 10) (updI M x sm) k + 1 ≤ msN (9 * k + 10) M k) := fun hor => by
                have h1 := HBF.out.step HEC.out HXM.out HXX.out HYY.out (by rw [HMY.out]; exact hor.1) (by rw [HMY.out, HXC.out, HSM.out, HMX.out]; exact hor.2)
                have h2 := HBF.out.less HEC.out HXM.out HXX.out HYY.out (by rw [HMY.out]; exact hor.1) (by rw [HMY.out, HXC.out, HSM.out, HMX.out]; exact hor.2)
                rw [HMY.out, HXC.out, HSM.out] at h1 h2
                exact ⟨h1, h2⟩
              clear hx hxm hff htt hcc hxx hyy hxd hxc hrd hrh hbf hbl hbZ hmx hmy hEB hsm hrx hry
              by_cases q1 : my < 0
              · have t1 : decide (my < 0) = true := decide_eq_true q1
                go_wp2
                go_roundw
                case rel => exact ⟨(i : Int) - 1, M, b, by omega, by omega, by go_num, rfl, HRDA.out, HRHA.out, HBF.out, HSTEP.out (.inl q1), HMS2.out, HBLA.out⟩
                case measure => first | (simp [intOf]; done) | (simp [intOf]; omega)
              have t1 : decide (my < 0) = false := decide_eq_false q1
              by_cases q2 : mx < 0
              · have t2 : decide (mx < 0) = true := decide_eq_true q2
                have HU := hide (HUP.out ⟨by omega, .inl q2⟩)
                go_wp2_with fail
                go_quiet (fail)
                go_wp2
                go_roundw
                case rel =>
                  refine ⟨(i : Int) - 1, updI M x sm, true, by omega, by omega, by go_num, rfl, row_setI (row_kept HRDA.out (below_drewN (Below.refl _ _) _)), (row_kept HRHA.out (below_drewN (Below.refl _ _) _)).setOther (a := ⟨DB, x, none⟩) hne2 _, HU.out.1, (fun h => by cases h), ?_, (HBLA.out.trans ((below_drewN (Below.refl _ _) _).mono HBLA.out.size)).setCell (by have := HDD.out; show _ ≤ DB; omega) _⟩
                  have h1 := HU.out.2
                  have h2 := HMS2.out
                  rw [if_pos rfl]
                  omega
                case measure => first | (simp [intOf]; done) | (simp [intOf]; omega)
              have t2 : decide (mx < 0) = false := decide_eq_false q2
              by_cases q3 : sm < mx
              · have t3 : decide (sm < mx) = true := decide_eq_true q3
                have HU := hide (HUP.out ⟨by omega, .inr q3⟩)
                go_wp2_with fail
                go_quiet (fail)
                go_wp2
                go_roundw
                case rel =>
                  refine ⟨(i : Int) - 1, updI M x sm, true, by omega, by omega, by go_num, rfl, row_setI (row_kept HRDA.out (below_drewN (Below.refl _ _) _)), (row_kept HRHA.out (below_drewN (Below.refl _ _) _)).setOther (a := ⟨DB, x, none⟩) hne2 _, HU.out.1, (fun h => by cases h), ?_, (HBLA.out.trans ((below_drewN (Below.refl _ _) _).mono HBLA.out.size)).setCell (by have := HDD.out; show _ ≤ DB; omega) _⟩
                  have h1 := HU.out.2
                  have h2 := HMS2.out
                  rw [if_pos rfl]
                  omega
                case measure => first | (simp [intOf]; done) | (simp [intOf]; omega)
              have t3 : decide (sm < mx) = false := decide_eq_false q3
              go_wp2_with fail
              go_quiet (fail)
              go_wp2
              go_roundw
              case rel => exact ⟨(i : Int) - 1, M, b, by omega, by omega, by go_num, rfl, row_kept HRDA.out (below_drewN (Below.refl _ _) _), row_kept HRHA.out (below_drewN (Below.refl _ _) _), HBF.out, HSTEP.out (.inr ⟨by omega, by omega⟩), HMS2.out, HBLA.out.trans ((below_drewN (Below.refl _ _) _).mono HBLA.out.size)⟩
              case measure => first | (simp [intOf]; done) | (simp [intOf]; omega)
            · have tj : decide ((0 : Int) ≤ j) = false := decide_eq_false hlt
              obtain rfl : j = -1 := by omega
              clear hrd hrh hbf hbl
              cases b with
              | true =>
                have h1 := HMS2.out
                have h2 := HMS.out
                have HGG : Hid (1 ≤ msN (9 * k + 10) M1 k ∧ msN (9 * k + 10) M k ≤ msN (9 * k + 10) M1 k - 1) := by
                  rw [if_pos rfl] at h1
                  exact ⟨by omega, by omega⟩
                clear h1 h2
                go_wp2
                go_roundg (msN (9 * k + 10) M1 k - 1)
                case measure => have h2 := HMS.out; have h3 := HGG.out; omega
                case rel => exact ⟨M, HRD.out, HRH.out, HBF.out, HGG.out.2, HBL.out⟩
              | false =>
                have HDF : Hid (∀ c, c < k → M c = dsF E (s : Int) c) := fun c hc => by
                  obtain ⟨hM, hcl⟩ := HNO.out rfl
                  refine HBF.out.done HEC.out (fun e he hf => ?_) c hc
                  obtain ⟨q, hq, rfl⟩ := List.getElem_of_mem he
                  rw [hM] at hf ⊢
                  exact hcl q (by omega) _ (List.getElem?_eq_getElem hq) hf
                have HRD2 : Hid (Z.rowIs DB 3 k (fun c => .int .i64 (dsF E (s : Int) c))) := HRD.out.congr fun c hc => by rw [HDF.out c hc]
                have HBN : Hid (∀ c, c < k → -1 ≤ dsF E (s : Int) c ∧ dsF E (s : Int) c ≤ 14400) := fun c hc => by
                  have := HBF.out.rng hc
                  rw [← HDF.out c hc]
                  omega
                clear HRD HDF HNO HMS2 HMS HBF
                go_wp2
                obtain ⟨D, hD⟩ : ∃ D, dsF E (s : Int) = D := ⟨_, rfl⟩
                rw [hD] at HRD2 HBN
                have HDD2 := hide hD
                have HRH2 : Hid (Z.rowIs HB 3 k (fun c => .int .i64 (hpF D (E.take 0) c))) := HRH.out
                have HBL2 := hide HBL.out
                clear hD HRH HBL tj hwN
                rename World => Z0
                go_loopw [15] (fun ix wr => ∃ i : Nat, i ≤ N ∧ ix = .int .i64 i ∧ wr.rowIs HB 3 k (fun c => .int .i64 (hpF D (E.take i) c)) ∧ wr.rowIs DB 3 k (fun c => .int .i64 (D c)) ∧ Below w3.heap.size w3 wr) (fun ix _ => N - (intOf ix).toNat)
                case atStart => exact ⟨0, Nat.zero_le _, rfl, HRH2.out, HRD2.out, HBL2.out⟩
                case round =>
                  clear HRH2 HRD2 HBL2
                  obtain ⟨i, hi, rfl, hrh, hrd, hbl⟩ := hrel
                  rename World => Z
                  have HRH := hide hrh
                  have HRD := hide hrd
                  have HBL := hide hbl
                  by_cases hlt : i < N
                  · have hii : (i : Int) < (N : Int) := by omega
                    have hiN : i < E.length := by rw [HNN.out]; exact hlt
                    obtain rfl := ha5 (by omega)
                    obtain ⟨x0, hx⟩ : ∃ x, E[i]? = some x := ⟨_, List.getElem?_eq_getElem hiN⟩
                    have hxm : x0 ∈ E := List.mem_of_getElem? hx
                    have HX := hide hx
                    have HXM := hide hxm
                    have hff := HEC.out.ff x0 hxm
                    have htt := HEC.out.tt x0 hxm
                    have hcc := HEC.out.cc x0 hxm
                    obtain ⟨p0, p1, p2, p3⟩ := HC5.out Z hbl i hiN x0 hx
                    obtain ⟨x, hxx⟩ : ∃ x : Nat, x0.f = x := ⟨x0.f.toNat, by omega⟩
                    obtain ⟨y, hyy⟩ : ∃ y : Nat, x0.t = y := ⟨x0.t.toNat, by omega⟩
                    obtain ⟨xd, hxd⟩ : ∃ q, x0.d = q := ⟨_, rfl⟩
                    obtain ⟨xc, hxc⟩ : ∃ q, x0.c = q := ⟨_, rfl⟩
                    rw [hxx] at p0 hff
                    rw [hyy] at p1 htt
                    rw [hxd] at p2
                    rw [hxc] at p3 hcc
                    have HXX := hide hxx
                    have HYY := hide hyy
                    have HXD := hide hxd
                    have HXC := hide hxc
                    have hxn : x < k := by omega
                    have hyn : y < k := by omega
                    have hxi : (x : Int) < (k : Int) := by omega
                    have hyi : (y : Int) < (k : Int) := by omega
                    have hbZ : Below Z.heap.size Z (Z.alloc (.cells #[.int .i64 (x : Nat), .int .i64 (y : Nat), .int .i64 xd, .int .i64 xc] 42)) := (Below.refl _ _).alloc (Nat.le_refl _) _
                    have dx := (row_kept hrd hbZ).cell hxn
                    have dy := (row_kept hrd hbZ).cell hyn
                    have hf0 := (row_kept hrh hbZ).cell hxn
                    have hf1 := (row_kept hrh hbZ).frozen x
                    have hdx := HBN.out x hxn
                    have hdy := HBN.out y hyn
                    have HTG : Hid (x = s → 0 ≤ D y → D y + xc ≠ D x) := fun he h0 => by
                      have h1 := hp_target HEC.out HXM.out (s := s) (by rw [HXX.out, Int.toNat_natCast]; exact he) (by rw [HYY.out, Int.toNat_natCast, HDD2.out]; exact h0)
                      rw [HXX.out, HYY.out, HXC.out, Int.toNat_natCast, Int.toNat_natCast, HDD2.out] at h1
                      exact h1
                    obtain ⟨mt, hmt⟩ : ∃ q, D y = q := ⟨_, rfl⟩
                    obtain ⟨mf, hmf⟩ : ∃ q, D x = q := ⟨_, rfl⟩
                    obtain ⟨hv, hhv⟩ : ∃ q, hpF D (E.take i) x = q := ⟨_, rfl⟩
                    rw [hmt] at dy hdy
                    rw [hmf] at dx hdx
                    rw [hmt, hmf] at HTG
                    rw [hhv] at hf0
                    have HMT := hide hmt
                    have HMF := hide hmf
                    have HHV := hide hhv
                    have hEB := Blk.new Z 42 #[.int .i64 (x : Nat), .int .i64 (y : Nat), .int .i64 xd, .int .i64 xc]
                    have e0 := hEB.cell 0
                    have e1 := hEB.cell 1
                    have e2 := hEB.cell 2
                    have e3 := hEB.cell 3
                    simp only [List.getElem?_toArray, List.getElem?_cons_succ, List.getElem?_cons_zero] at e0 e1 e2 e3
                    obtain ⟨sm, hsm⟩ : ∃ q, mt + xc = q := ⟨_, rfl⟩
                    have hws : IntKind.i64.wrap (mt + xc) = sm := by rw [IntKind.wrap_i64]; omega
                    rw [hsm] at HTG
                    have HSM := hide hsm
                    have HRDA := hide (row_kept hrd hbZ)
                    have HRHA := hide (row_kept hrh hbZ)
                    have HBLA : Hid (Below w3.heap.size w3 (Z.alloc (.cells #[.int .i64 (x : Nat), .int .i64 (y : Nat), .int .i64 xd, .int .i64 xc] 42))) := hbl.trans (hbZ.mono hbl.size)
                    have HSTEP : Hid (hpF D (E.take (i + 1)) = if 0 ≤ mt ∧ sm = mf ∧ (hv < 0 ∨ xd < hv) then updI (hpF D (E.take i)) x xd else hpF D (E.take i)) := by
                      have h1 := hpF_take (D := D) HX.out
                      show _ = _
                      rw [h1]
                      unfold hpS
                      rw [HXX.out, HYY.out, HXD.out, HXC.out, Int.toNat_natCast, Int.toNat_natCast, HMT.out, HMF.out, HHV.out, HSM.out]
                    clear hx hxm hff htt hcc hxx hyy hxd hxc hrd hrh hbl hbZ hmt hmf hhv hEB hsm hdx hdy
                    by_cases q0 : x = s
                    · have t0 : (((x : Nat) : Int) == ((s : Nat) : Int)) = true := by simp [q0]
                      have t0n : (x == s) = true := by simp [q0]
                      have HH1 : Hid (hpF D (E.take (i + 1)) = hpF D (E.take i)) := by show _ = _; rw [HSTEP.out, if_neg (fun h => HTG.out q0 h.1 h.2.1)]
                      clear q0
                      go_wp2_with fail
                      go_quiet (fail)
                      go_wp2
                      go_roundw
                      case rel =>
                        refine ⟨i + 1, by omega, by go_num, ?_, row_kept HRDA.out (below_drewN (Below.refl _ _) _), HBLA.out.trans ((below_drewN (Below.refl _ _) _).mono HBLA.out.size)⟩
                        rw [HH1.out]
                        exact row_kept HRHA.out (below_drewN (Below.refl _ _) _)
                      case measure => simp [intOf]; omega
                    have t0 : (((x : Nat) : Int) == ((s : Nat) : Int)) = false := by simp; omega
                    have t0n : (x == s) = false := by simp [q0]
                    by_cases q1 : mt < 0
                    · have t1 : decide (mt < 0) = true := decide_eq_true q1
                      have HH1 : Hid (hpF D (E.take (i + 1)) = hpF D (E.take i)) := by show _ = _; rw [HSTEP.out, if_neg (fun h => by omega)]
                      go_wp2_with fail
                      go_quiet (fail)
                      go_wp2
                      go_roundw
                      case rel =>
                        refine ⟨i + 1, by omega, by go_num, ?_, row_kept HRDA.out (below_drewN (Below.refl _ _) _), HBLA.out.trans ((below_drewN (Below.refl _ _) _).mono HBLA.out.size)⟩
                        rw [HH1.out]
                        exact row_kept HRHA.out (below_drewN (Below.refl _ _) _)
                      case measure => simp [intOf]; omega
                    have t1 : decide (mt < 0) = false := decide_eq_false q1
                    by_cases q2 : sm = mf
                    · have t2 : (sm != mf) = false := by simp [q2]
                      by_cases q3 : hv < 0
                      · have t3 : decide (hv < 0) = true := decide_eq_true q3
                        have HH1 : Hid (hpF D (E.take (i + 1)) = updI (hpF D (E.take i)) x xd) := by show _ = _; rw [HSTEP.out, if_pos ⟨by omega, q2, .inl q3⟩]
                        go_wp2_with fail
                        go_quiet (fail)
                        go_wp2_with fail
                        go_quiet (fail)
                        go_wp2
                        go_roundw
                        case rel =>
                          refine ⟨i + 1, by omega, by go_num, ?_, (row_kept HRDA.out (below_drewN (Below.refl _ _) _)).setOther (a := ⟨HB, x, none⟩) hne _, (HBLA.out.trans ((below_drewN (Below.refl _ _) _).mono HBLA.out.size)).setCell (by have := HDD.out; show _ ≤ HB; omega) _⟩
                          rw [HH1.out]
                          exact row_setI (row_kept HRHA.out (below_drewN (Below.refl _ _) _))
                        case measure => simp [intOf]; omega
                      have t3 : decide (hv < 0) = false := decide_eq_false q3
                      by_cases q4 : xd < hv
                      · have t4 : decide (xd < hv) = true := decide_eq_true q4
                        have HH1 : Hid (hpF D (E.take (i + 1)) = updI (hpF D (E.take i)) x xd) := by show _ = _; rw [HSTEP.out, if_pos ⟨by omega, q2, .inr q4⟩]
                        go_wp2_with fail
                        go_quiet (fail)
                        go_wp2_with fail
                        go_quiet (fail)
                        go_wp2
                        go_roundw
                        case rel =>
                          refine ⟨i + 1, by omega, by go_num, ?_, (row_kept HRDA.out (below_drewN (Below.refl _ _) _)).setOther (a := ⟨HB, x, none⟩) hne _, (HBLA.out.trans ((below_drewN (Below.refl _ _) _).mono HBLA.out.size)).setCell (by have := HDD.out; show _ ≤ HB; omega) _⟩
                          rw [HH1.out]
                          exact row_setI (row_kept HRHA.out (below_drewN (Below.refl _ _) _))
                        case measure => simp [intOf]; omega
                      have t4 : decide (xd < hv) = false := decide_eq_false q4
                      have HH1 : Hid (hpF D (E.take (i + 1)) = hpF D (E.take i)) := by show _ = _; rw [HSTEP.out, if_neg (fun h => by omega)]
                      go_wp2_with fail
                      go_quiet (fail)
                      go_wp2_with fail
                      go_quiet (fail)
                      go_wp2
                      go_roundw
                      case rel =>
                        refine ⟨i + 1, by omega, by go_num, ?_, row_kept HRDA.out (below_drewN (Below.refl _ _) _), HBLA.out.trans ((below_drewN (Below.refl _ _) _).mono HBLA.out.size)⟩
                        rw [HH1.out]
                        exact row_kept HRHA.out (below_drewN (Below.refl _ _) _)
                      case measure => simp [intOf]; omega
                    · have t2 : (sm != mf) = true := by simp [q2]
                      have HH1 : Hid (hpF D (E.take (i + 1)) = hpF D (E.take i)) := by show _ = _; rw [HSTEP.out, if_neg (fun h => q2 h.2.1)]
                      go_wp2_with fail
                      go_quiet (fail)
                      go_wp2
                      go_roundw
                      case rel =>
                        refine ⟨i + 1, by omega, by go_num, ?_, row_kept HRDA.out (below_drewN (Below.refl _ _) _), HBLA.out.trans ((below_drewN (Below.refl _ _) _).mono HBLA.out.size)⟩
                        rw [HH1.out]
                        exact row_kept HRHA.out (below_drewN (Below.refl _ _) _)
                      case measure => simp [intOf]; omega
                  · have hge : ¬ (i : Int) < (N : Int) := by omega
                    obtain rfl : i = N := by omega
                    clear hrh hrd hbl
                    go_wp2
                    go_ret3
                    obtain ⟨e1, e2, e3⟩ := rt_yes HYES.out
                    rw [HNT.out, HEE.out] at e1 e2
                    rw [e1, e2, e3, HDD2.out]
                    refine ⟨_, _, rfl, row_is (by rw [dsL_length]) (HRD.out.congr fun c hc => ?_), row_is (by rw [hpL_length]) (HRH.out.congr fun c hc => ?_), HB3.out.trans (HBL.out.mono HB3.out.size)⟩
                    · rw [dsL_getD _ _ hc, HDD2.out]
                    · rw [hpL_getD _ _ hc, ← HNN.out, List.take_length]
end Go.Proofs.Ytochfhoaiekioaa
