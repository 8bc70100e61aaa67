/-
  The walk of impl.distances.
-/
import Derived.Test.YtochfhoaiekioaaJRtDJD
import Derived.Deep.LoopGhost
namespace Go.Proofs.Ytochfhoaiekioaa
open Go.RowKit
theorem run_store_fnD (P : Program) (w : World) (a : Addr) (fn : Fn) (first captured : Array Value) (m : Mode) : (store a (.func fn first captured) m).run P w = stored P w a (.func fn first captured) m := run_store P w a _ m rfl
attribute [local go_sem] run_store_fnD

/-- What distances answers. -/
def DstP (w w' : World) (n : Nat) (E : List Ed) (s : Nat) (e : Ending) : Prop := ∃ B, e = .returned (.slice (some ⟨B, 0, none⟩) n n) ∧ w'.rowIs B 3 n (fun c => .int .i64 (dsF E (s : Int) c)) ∧ w.heap.size ≤ B ∧ Below w.heap.size w w' ∧ ∀ c, c < n → dsF E (s : Int) c ≤ 14400

set_option maxHeartbeats 8000000 in
set_option maxRecDepth 1000000 in
theorem distances_any (n : Nat) (E : List Ed) (s : Nat) (v1 v2 v3 v4 : Value) (w : World) (hn1 : 1 ≤ n) (hn : n ≤ 1600) (hE : Ec n E) (hm : E.length ≤ 6400) (hs : s < n) (h : GrV w (grOf n (E.map Ed.turn)) v1 v2 v3 v4) :
    Calls Try.prog 21 #[gragg (grOf n (E.map Ed.turn)) v1 v2 v3 v4, .int .i64 (s : Nat)] w fun e w' => DstP w w' n E s e := by
  have HE := hide hE
  have HM := hide hm
  have HBK := hide (fun (c i : Nat) (hc : c < n) (h0 : (rowsN (E.map Ed.turn) c).length ≤ i) (h1 : i < (rowsN (E.map Ed.turn) (c + 1)).length) => back_at (n := n) (E := E) hc h0 h1)
  have HSA := hide (fun (c : Nat) (hc : c ≤ n) => start_at (E.map Ed.turn) hc)
  have hl1 := start_len n (E.map Ed.turn)
  have hrl : (rowsN (E.map Ed.turn) n).length ≤ 6400 := Nat.le_trans (rows_le _ _) (by rw [List.length_map]; exact hm)
  have HRL := hide hrl
  have HRM := hide (fun (c : Nat) (hc : c < n) => (⟨rows_mono (E.map Ed.turn) (n := n) (c := c + 1) (by omega), rows_next (E.map Ed.turn) c⟩ : (rowsN (E.map Ed.turn) (c + 1)).length ≤ (rowsN (E.map Ed.turn) n).length ∧ (rowsN (E.map Ed.turn) (c + 1)).length = (rowsN (E.map Ed.turn) c).length + (flt c (E.map Ed.turn)).length))
  obtain ⟨a3, c3, rfl⟩ := h.dir.slice
  obtain ⟨a1, b1, o1, c1, rfl, ha1, hc1⟩ := h.start
  obtain ⟨a2, b2, o2, c2, rfl, ha2, hc2⟩ := h.to
  obtain ⟨a4, b4, o4, c4, rfl, ha4, hc4⟩ := h.cost
  have HC1 := hide hc1
  have HC2 := hide hc2
  have HC4 := hide hc4
  unfold gragg
  rw [show (grOf n (E.map Ed.turn)).n = (n : Int) from rfl]
  obtain ⟨L1, hL1⟩ : ∃ L, (grOf n (E.map Ed.turn)).start.length = L := ⟨_, rfl⟩
  obtain ⟨L2, hL2⟩ : ∃ L, (grOf n (E.map Ed.turn)).to.length = L := ⟨_, rfl⟩
  obtain ⟨L3, hL3⟩ : ∃ L, (grOf n (E.map Ed.turn)).dir.length = L := ⟨_, rfl⟩
  obtain ⟨L4, hL4⟩ : ∃ L, (grOf n (E.map Ed.turn)).cost.length = L := ⟨_, rfl⟩
  rw [hL1] at ha1 HC1 hl1 ⊢
  rw [hL2] at ha2 HC2 ⊢
  rw [hL3]
  rw [hL4] at ha4 HC4 ⊢
  simp only [hL2, hL4] at HBK
  subst hl1
  obtain rfl := ha1 (by omega)
  have HA2 := hide ha2
  have HA4 := hide ha4
  clear h hE hm hrl hc1 hc2 hc4 hL1 hL2 hL3 hL4 ha1 ha2 ha4
  have hbA : Below w.heap.size w ((w.alloc (.cells (#[.int .i64 (n : Nat), .slice (some ⟨b1, o1, none⟩) (n + 1) c1, .slice a2 L2 c2, .slice a3 L3 c3, .slice a4 L4 c4]) 28)).alloc (.cells #[.int .i64 (-1)] 3)) := ((Below.refl _ w).alloc (Nat.le_refl _) _).alloc (by rw [World.size_alloc]; omega) _
  have hgb : Blk ((w.alloc (.cells (#[.int .i64 (n : Nat), .slice (some ⟨b1, o1, none⟩) (n + 1) c1, .slice a2 L2 c2, .slice a3 L3 c3, .slice a4 L4 c4]) 28)).alloc (.cells #[.int .i64 (-1)] 3)) w.heap.size 28 (#[.int .i64 (n : Nat), .slice (some ⟨b1, o1, none⟩) (n + 1) c1, .slice a2 L2 c2, .slice a3 L3 c3, .slice a4 L4 c4]) := (Blk.new w _ _).alloc _
  have g0 := hgb.cell 0
  simp only [List.getElem?_toArray, List.getElem?_cons_zero] at g0
  have hmo : ((w.alloc (.cells (#[.int .i64 (n : Nat), .slice (some ⟨b1, o1, none⟩) (n + 1) c1, .slice a2 L2 c2, .slice a3 L3 c3, .slice a4 L4 c4]) 28)).alloc (.cells #[.int .i64 (-1)] 3)).cell? ⟨w.heap.size + 1, 0, none⟩ = some (.int .i64 (-1)) := by
    have := (Blk.new (w.alloc (.cells (#[.int .i64 (n : Nat), .slice (some ⟨b1, o1, none⟩) (n + 1) c1, .slice a2 L2 c2, .slice a3 L3 c3, .slice a4 L4 c4]) 28)) 3 #[.int .i64 (-1)]).cell 0
    rw [World.size_alloc] at this
    exact this
  have HRP := hide (repeat_any n (w.heap.size + 1) (-1) ((w.alloc (.cells (#[.int .i64 (n : Nat), .slice (some ⟨b1, o1, none⟩) (n + 1) c1, .slice a2 L2 c2, .slice a3 L3 c3, .slice a4 L4 c4]) 28)).alloc (.cells #[.int .i64 (-1)] 3)) (by omega) hn1 hmo)
  have HGB := hide hgb
  have HBA := hide hbA
  clear hmo hgb hbA
  go_enter Try.func21, Try.ntmps21
  go_wp2_with fail
  refine HRP.out.mono ?_
  rintro e w2 ⟨DB, rfl, hrow, hDB, hb2⟩
  have HSZ : Hid (w.heap.size + 2 ≤ w2.heap.size ∧ w.heap.size + 2 ≤ DB) := by
    have h1 := hb2.size
    simp only [World.size_alloc] at h1 hDB
    exact ⟨h1, hDB⟩
  have hlD := hrow.lt
  have hb3 : Below w2.heap.size w2 (w2.alloc (.cells #[.slice none 0 0, ahV] 56)) := (Below.refl _ _).alloc (Nat.le_refl _) _
  obtain ⟨H, hH⟩ : ∃ H, w2.heap.size = H := ⟨_, rfl⟩
  obtain ⟨W3, hW3⟩ : ∃ W, w2.alloc (.cells #[.slice none 0 0, ahV] 56) = W := ⟨_, rfl⟩
  have hz3 : W3.heap.size = H + 1 := by rw [← hW3, World.size_alloc, hH]
  have HB3 : Hid (Below w.heap.size w W3) := by
    have h1 : Below w.heap.size w w2 := HBA.out.trans (hb2.mono (by rw [World.size_alloc, World.size_alloc]; omega))
    rw [← hW3]
    exact h1.trans (hb3.mono h1.size)
  have HG3 : Hid (Blk W3 w.heap.size 28 (#[.int .i64 (n : Nat), .slice (some ⟨b1, o1, none⟩) (n + 1) c1, .slice a2 L2 c2, .slice a3 L3 c3, .slice a4 L4 c4])) := by
    rw [← hW3]
    exact (HGB.out.below hb2).below hb3
  have HR3 : Hid (W3.rowIs DB 3 n (fun c => .int .i64 ((fun _ => (-1 : Int)) c))) := by rw [← hW3]; exact hrow.alloc _
  have HA3 : Hid (HpA W3 H (H + 1) (.slice none 0 0) (fun _ => ⟨0, 0⟩) 0) := ⟨by rw [← hW3, ← hH]; exact Blk.new _ _ _, TrO.nil _ _ _, by omega⟩
  have HDH : Hid (DB ≠ H) := by show _ ≠ _; omega
  have HDG : Hid (DB < H + 1) := by show _ < _; omega
  have HPT := hide (hput_any H (H + 1) (.slice none 0 0) (fun _ => ⟨0, 0⟩) 0 ⟨(s : Int), 0⟩ W3 HA3.out (fun i h0 hi => by omega) (by omega) (by omega))
  unfold tv at HPT
  simp only at HPT
  have HW3 := hide hW3
  have HH := hide hH
  have HLD : Hid (DB < H) := by show _ < _; omega
  have HSH : Hid (w.heap.size + 2 ≤ H) := by have := HSZ.out; show _ ≤ _; omega
  have HZ3 := hide hz3
  unfold ahV at HW3
  clear hb2 hb3 hrow hDB hlD hW3 hH hz3 g0 HGB HBA HRP
  go_wp2_with fail
  rw [HW3.out, HH.out]
  refine HPT.out.mono ?_
  rintro e w4 ⟨rfl, v4', F4, hp4, hh4, hin4, hk4⟩
  have HR4 := hide (hk4.row HR3.out HDH.out HA3.out.own)
  have HK4 : Hid (Ks [H, DB] (H + 1) W3 w4) := Ks.of_kh hk4 HA3.out.own (Nat.le_of_eq HZ3.out.symm) (by simp)
  have HP4 := hide hp4
  have HH4 := hide hh4
  have HI4 : Hid (∀ z, InH F4 1 z ↔ z = ⟨(s : Int), 0⟩) := fun z => by
    rw [show (1 : Nat) = 0 + 1 from rfl, hin4 z]
    constructor
    · rintro (h1 | ⟨i, hi, _⟩)
      · exact h1
      · omega
    · exact fun h1 => .inl h1
  have HTK := hide (htake_one H (H + 1) v4' F4 0 w4 hp4 hh4 (by omega))
  unfold tv at HTK
  obtain ⟨x, hx⟩ : ∃ x, F4 0 = x := ⟨_, rfl⟩
  rw [hx] at HTK
  have HX := hide hx
  obtain ⟨xc, xl⟩ := x
  simp only at HTK
  have HZ4 : Hid (H + 1 ≤ w4.heap.size) := by have h1 := hk4.size; have h2 := HZ3.out; show _ ≤ _; omega
  clear hp4 hh4 hin4 hk4 hx HW3 HH HPT HR3
  go_wp2_with fail
  refine HTK.out.mono ?_
  rintro e w5 ⟨rfl, v5, F5, hp5, hh5, h35, h45, hk5⟩
  have hb6 : Below w5.heap.size w5 (w5.alloc (.cells #[.int .i64 xc, .int .i64 xl] 59)) := (Below.refl _ _).alloc (Nat.le_refl _) _
  have HDS : Hid (DjS n E s DB H (H + 1) w5.heap.size ⟨xc, xl⟩ true (6401 * n + 1) (w5.alloc (.cells #[.int .i64 xc, .int .i64 xl] 59)) (fun _ => -1) v5 F5 0 F4 1) := by
    have hrow5 := hk5.row HR4.out HDH.out HP4.out.own
    refine ⟨hrow5.alloc _, hp5.below hb6, hh5, Dj.first hs HI4.out, fun _ => ⟨⟨0, by omega, HX.out⟩, fun y hy => ?_, h35, fun y hy => by rw [← HX.out]; exact h45 y hy⟩, (fun e => by cases e), ?_, Blk.new _ _ _, ?_, fun e => ?_, ?_⟩
    · obtain ⟨i, hi, rfl⟩ := hy
      have := HH4.out.min i hi
      rw [HX.out] at this
      exact this
    · rw [cntN_all, if_pos rfl]; omega
    · have h1 := hk5.size; have h2 := HZ4.out; omega
    · have := (hp5.own.lt _ e).2; omega
    · rw [World.size_alloc]; have h1 := hk5.size; have h2 := HZ4.out; omega
  have HKS : Hid (Ks [H, DB] (H + 1) W3 (w5.alloc (.cells #[.int .i64 xc, .int .i64 xl] 59))) := HK4.out.trans ((Ks.of_kh hk5 HP4.out.own HZ4.out (by simp)).trans (Ks.of_below hb6 (by have h1 := hk5.size; have h2 := HZ4.out; omega)))
  clear hp5 hh5 h35 h45 hk5 hb6 HTK HP4 HH4 HI4 HR4 HK4 HA3 HX
  obtain ⟨G, hG⟩ : ∃ G, H + 1 = G := ⟨_, rfl⟩
  rw [hG] at HDS HKS HDG
  have HGG := hide hG
  clear hG
  go_wp2
  go_loopg [7, 8] (6401 * n + 1) (fun gg p7 p8 wr => ∃ NB x ok M v F k Fo ko, p7 = .pointer (some ⟨NB, 0, none⟩) ∧ p8 = .bool ok ∧ DjS n E s DB H G NB x ok gg wr M v F k Fo ko ∧ Ks [H, DB] G W3 wr ∧ gg ≤ 6401 * n + 1)
  case atStart => exact ⟨w5.heap.size, ⟨xc, xl⟩, true, fun _ => -1, v5, F5, 0, F4, 1, rfl, rfl, HDS.out, HKS.out, Nat.le_refl _⟩
  case round =>
    clear HDS HKS
    rename Nat => gg
    obtain ⟨NB, x, ok, M, v, F, k, Fo, ko, rfl, rfl, hds, hks, hgg⟩ := hrel
    rename World => Z
    obtain ⟨xc, xl⟩ := x
    have HDS := hide hds
    have HKS := hide hks
    have HGL := hide hgg
    clear hds hks hgg
    cases ok with
    | false =>
      have HF : Hid (DstP w Z n E s (.returned (.slice (some ⟨DB, 0, none⟩) n n))) := by
        have hko := HDS.out.no rfl
        have hdj := HDS.out.dj
        rw [hko] at hdj
        refine ⟨DB, rfl, HDS.out.row.congr fun c hc => ?_, by have := HSZ.out; omega, HKS.out.fall HB3.out (by have h1 := HGG.out; have h2 := HSH.out; omega) (fun q hq => ?_), fun c hc => ?_⟩
        · rw [hdj.done HE.out hs c hc]
        · simp only [List.mem_cons, List.not_mem_nil, or_false] at hq
          have h1 := HSZ.out
          have h2 := HSH.out
          rcases hq with rfl | rfl <;> omega
        · rw [← hdj.done HE.out hs c hc]; have := hdj.bnd c hc; omega
      go_wp2
      go_ret
      exact HF.out
    | true =>
      have hrg := HDS.out.rng HE.out
      simp only at hrg
      obtain ⟨c, hc⟩ : ∃ c : Nat, xc = c := ⟨xc.toNat, by omega⟩
      subst hc
      have hcn : c < n := by omega
      have hcni : (c : Int) < (n : Int) := by omega
      have m0 := HDS.out.box.cell 0
      have m1 := HDS.out.box.cell 1
      simp only [List.getElem?_toArray, List.getElem?_cons_zero, List.getElem?_cons_succ] at m0 m1
      have dc := HDS.out.row.cell hcn
      have df := HDS.out.row.frozen c
      obtain ⟨mc, hmc⟩ : ∃ z, M c = z := ⟨_, rfl⟩
      rw [hmc] at dc
      have HMC := hide hmc
      clear hmc
      have hgz : Blk Z w.heap.size 28 (#[.int .i64 (n : Nat), .slice (some ⟨b1, o1, none⟩) (n + 1) c1, .slice a2 L2 c2, .slice a3 L3 c3, .slice a4 L4 c4]) := HKS.out.blk HG3.out (by have h1 := HGG.out; have h2 := HSH.out; omega) (by simp; have h1 := HSH.out; have h2 := HSZ.out; omega)
      have HLX : Hid (0 ≤ xl ∧ xl ≤ 14400) := by show _ ∧ _; omega
      clear hrg
      by_cases hq : 0 ≤ mc
      · have tq : decide ((0 : Int) ≤ mc) = true := decide_eq_true hq
        have HD : Hid (DjW n E s DB H G NB ⟨(c : Int), xl⟩ Z M v F k (fun _ => True)) := HDS.out.skip (by show 0 ≤ M (c : Int).toNat; rw [Int.toNat_natCast, HMC.out]; exact hq)
        have HGH : Hid (k + 6401 * cntN M n + 1 ≤ gg) := by have := HDS.out.ms; rw [if_pos rfl] at this; exact this
        have hkb : k ≤ 20000000 := by have h1 := HGH.out; have h2 := HGL.out; omega
        have HPOS : Hid (1 ≤ gg) := by have := HGH.out; show _ ≤ _; omega
        clear hq hgz HDS
        have HD1 := hide HD.out.fresh
        have HK1 : Hid (Ks [H, DB] G W3 (Z.alloc (.cells #[.int .i64 (c : Nat), .int .i64 xl] 59))) := HKS.out.trans (Ks.of_below ((Below.refl _ _).alloc (Nat.le_refl _) _) HD.out.sz)
        have m0 := HD.out.box.cell 0
        have m1 := HD.out.box.cell 1
        simp only [List.getElem?_toArray, List.getElem?_cons_zero, List.getElem?_cons_succ] at m0 m1
        obtain ⟨Y, hY⟩ : ∃ Y, Z.alloc (.cells #[.int .i64 (c : Nat), .int .i64 xl] 59) = Y := ⟨_, rfl⟩
        obtain ⟨NN, hNN⟩ : ∃ N, Z.heap.size = N := ⟨_, rfl⟩
        have HY := hide hY
        have HNN := hide hNN
        rw [hY] at HD1 HK1
        rw [hNN] at HD1
        clear hY hNN
        obtain ⟨kk, hkk⟩ : ∃ q, k = q := ⟨_, rfl⟩
        rw [hkk] at HD1
        have HKK := hide hkk
        clear hkk
        cases kk with
        | zero =>
          have HTN := hide (htake_nil H G v F Y HD1.out.hp)
          unfold tv at HTN
          go_wp2_with fail
          rw [HY.out, HNN.out]
          refine HTN.out.mono ?_
          rintro e w7 ⟨rfl, hb7⟩
          obtain ⟨hbx, hds, hks⟩ := HD1.out.spent (gg := gg - 1) HDG.out (by have := HGH.out; have := HKK.out; omega) hb7
          have HDS := hide hds
          have HKF : Hid (Ks [H, DB] G W3 (set2 w7 NN 0 ⟨0, 0⟩)) := HK1.out.trans hks
          have q0 := hbx.cell 0
          have q1 := hbx.cell 1
          have q2 := hbx.frozen 0
          have q3 := hbx.frozen 1
          simp only [List.getElem?_toArray, List.getElem?_cons_zero, List.getElem?_cons_succ] at q0 q1
          clear hbx hds hks hb7 m0 m1
          go_wp2
          go_roundg (gg - 1)
          case measure => have := HPOS.out; omega
          case rel => exact ⟨NN, ⟨0, 0⟩, false, M, v, F, 0, F, 0, rfl, rfl, HDS.out, HKF.out, by have := HGL.out; omega⟩
        | succ kk =>
          have HTO := hide (htake_one H G v F kk Y HD1.out.hp HD1.out.hh (by have := HKK.out; omega))
          unfold tv at HTO
          obtain ⟨x2, hx2⟩ : ∃ x, F 0 = x := ⟨_, rfl⟩
          have HX2 := hide hx2
          rw [hx2] at HTO
          obtain ⟨yc, yl⟩ := x2
          simp only at HTO
          clear hx2
          go_wp2_with fail
          rw [HY.out, HNN.out]
          refine HTO.out.mono ?_
          rintro e w7 ⟨rfl, tp⟩
          obtain ⟨hbx, v2, F2, hds, hks⟩ := HD1.out.taken (gg := gg - 1) HDH.out HDG.out (by have := HGH.out; have := HKK.out; omega) tp
          rw [HX2.out] at hds hks
          have HDS := hide hds
          have HKF : Hid (Ks [H, DB] G W3 (set2 w7 NN 0 ⟨yc, yl⟩)) := HK1.out.trans hks
          have q0 := hbx.cell 0
          have q1 := hbx.cell 1
          have q2 := hbx.frozen 0
          have q3 := hbx.frozen 1
          simp only [List.getElem?_toArray, List.getElem?_cons_zero, List.getElem?_cons_succ] at q0 q1
          clear hbx hds hks tp m0 m1
          go_wp2
          go_roundg (gg - 1)
          case measure => have := HPOS.out; omega
          case rel => exact ⟨NN, ⟨yc, yl⟩, true, M, v2, F2, kk, F, kk + 1, rfl, rfl, HDS.out, HKF.out, by have := HGL.out; omega⟩
      · have tq : decide ((0 : Int) ≤ mc) = false := decide_eq_false hq
        obtain ⟨M', hM'⟩ : ∃ M', updI M c xl = M' := ⟨_, rfl⟩
        have HD0 : Hid (DjW n E s DB H G NB ⟨(c : Int), xl⟩ (Z.setCell ⟨DB, c, none⟩ (.int .i64 xl)) M' v F k (Kn E c 0)) := by rw [← hM']; exact HDS.out.met HE.out HDH.out HDG.out rfl (by rw [HMC.out]; omega)
        have HCN : Hid (cntN M' n + 1 = cntN M n) := by rw [← hM']; exact cntN_upd (by rw [HMC.out]; omega) HLX.out.1 hcn
        have HLE : Hid (xl + 9 ≤ 9 * ((n : Int) - cntN M' n)) := by
          have h1 := (HDS.out.dj.way _ (HDS.out.yes rfl).1).2.2.2
          simp only at h1
          have h2 := HCN.out
          show _ ≤ _
          omega
        have HMX : Hid (M' c = xl) := by rw [← hM']; exact updI_same _ _ _
        have HGK : Hid (k + 6401 * (cntN M' n + 1) + 1 ≤ gg) := by have h1 := HDS.out.ms; rw [if_pos rfl, ← HCN.out] at h1; exact h1
        have HPOS : Hid (1 ≤ gg) := by have := HGK.out; show _ ≤ _; omega
        have HKS0 : Hid (Ks [H, DB] G W3 (Z.setCell ⟨DB, c, none⟩ (.int .i64 xl))) := HKS.out.trans (Ks.set (by simp))
        have HFB := hide (fun V (hV : Ks [H, DB] G W3 V) => (hV.fall HB3.out (by have h1 := HGG.out; have h2 := HSH.out; omega) (fun q hq => by
          simp only [List.mem_cons, List.not_mem_nil, or_false] at hq
          have h1 := HSZ.out
          have h2 := HSH.out
          rcases hq with rfl | rfl <;> omega) : Below w.heap.size w V))
        have HGZ := hide (fun V (hV : Ks [H, DB] G W3 V) => (hV.blk HG3.out (by have h1 := HGG.out; have h2 := HSH.out; omega) (by simp; have h1 := HSH.out; have h2 := HSZ.out; omega) : Blk V w.heap.size 28 (#[.int .i64 (n : Nat), .slice (some ⟨b1, o1, none⟩) (n + 1) c1, .slice a2 L2 c2, .slice a3 L3 c3, .slice a4 L4 c4])))
        obtain ⟨bc, hbc⟩ : ∃ q, (rowsN (E.map Ed.turn) c).length = q := ⟨_, rfl⟩
        obtain ⟨be, hbe⟩ : ∃ q, (rowsN (E.map Ed.turn) (c + 1)).length = q := ⟨_, rfl⟩
        have HST : Hid (∀ V, Ks [H, DB] G W3 V → V.cell? ⟨b1, o1 + c, none⟩ = some (.int .i64 (bc : Nat)) ∧ V.cell? ⟨b1, o1 + (c + 1), none⟩ = some (.int .i64 (be : Nat))) := fun V hV => by
          have h1 := cell_kept (HC1.out c (by omega)) (HFB.out V hV)
          have h2 := cell_kept (HC1.out (c + 1) (by omega)) (HFB.out V hV)
          rw [HSA.out c (by omega), hbc] at h1
          rw [HSA.out (c + 1) (by omega), hbe] at h2
          exact ⟨h1, h2⟩
        have HBE := hide (HRM.out c hcn)
        rw [hbe, hbc] at HBE
        have hbb : bc ≤ be ∧ be ≤ 6400 := by have h1 := HBE.out.1; have h2 := HRL.out; have h3 := HBE.out.2; omega
        have HBC := hide (fun (i : Nat) => HBK.out c i hcn)
        simp only [hbc, hbe] at HBC
        obtain ⟨Z1, hZ1⟩ : ∃ V, Z.setCell ⟨DB, c, none⟩ (.int .i64 xl) = V := ⟨_, rfl⟩
        rw [hZ1] at HD0 HKS0
        have HZ1 := hide hZ1
        have hgz1 := HGZ.out _ HKS0.out
        have s1 := hgz1.cell 1
        simp only [List.getElem?_toArray, List.getElem?_cons_zero, List.getElem?_cons_succ] at s1
        obtain ⟨s2, s3⟩ := HST.out _ HKS0.out
        have n0 := HD0.out.box.cell 0
        simp only [List.getElem?_toArray, List.getElem?_cons_zero] at n0
        have hZ1r := HZ1.out
        clear hq hgz hgz1 hM' hbc hbe hZ1 HDS HCN
        go_wp2
        clear hZ1r s1 s2 s3 n0 m0 m1 dc df
        go_loopw [9] (fun ix wr => ∃ (i : Nat) (v : Value) (F : Nat → Tr), bc ≤ i ∧ i ≤ be ∧ ix = .int .i64 i ∧ DjW n E s DB H G NB ⟨(c : Int), xl⟩ wr M' v F (k + (i - bc)) (Kn E c (i - bc)) ∧ Ks [H, DB] G W3 wr) (fun ix _ => be - (intOf ix).toNat)
        case atStart => exact ⟨bc, v, F, Nat.le_refl _, hbb.1, rfl, by rw [Nat.sub_self, Nat.add_zero]; exact HD0.out, HKS0.out⟩
        case round =>
          clear HD0 HKS0 HKS
          obtain ⟨i, vi, Fi, hi0, hi1, rfl, hdi, hki⟩ := hrel
          rename World => Y0
          have HDI := hide hdi
          have HKI := hide hki
          obtain ⟨av, cv, hav⟩ := hdi.hp.own.slc
          have g1 := (HGZ.out _ hki).cell 1
          have g2 := (HGZ.out _ hki).cell 2
          have g4 := (HGZ.out _ hki).cell 4
          obtain ⟨s2, s3⟩ := HST.out _ hki
          have n0 := hdi.box.cell 0
          have n1 := hdi.box.cell 1
          simp only [List.getElem?_toArray, List.getElem?_cons_zero, List.getElem?_cons_succ] at g1 g2 g4 n0 n1
          have hwc : IntKind.i64.wrap ((c : Int) + 1) = (c : Int) + 1 := by rw [IntKind.wrap_i64]; omega
          have hci : (c : Int) + 1 < (n : Int) + 1 := by omega
          have hct : ((c : Int) + 1).toNat = c + 1 := by omega
          have hcp : (0 : Int) ≤ (c : Int) + 1 := by omega
          clear hdi hki
          by_cases hlt : i < be
          · have tlt : decide ((i : Int) < (be : Int)) = true := decide_eq_true (by omega)
            obtain ⟨e, hem, het, hef, hto, hco, hi2, hi4⟩ := HBC.out i hi0 hlt
            obtain rfl := HA2.out (by omega)
            obtain rfl := HA4.out (by omega)
            have t2 := cell_kept (HC2.out i hi2) (HFB.out _ HKI.out)
            have t4 := cell_kept (HC4.out i hi4) (HFB.out _ HKI.out)
            rw [hto] at t2
            rw [hco] at t4
            have hi2i : (i : Int) < (L2 : Int) := by omega
            have hi4i : (i : Int) < (L4 : Int) := by omega
            have hcc := HE.out.cc e hem
            have hff := HE.out.ff e hem
            have HY : Hid (0 ≤ e.f ∧ e.f < (n : Int) ∧ Way E (s : Int) e.f (xl + e.c) ∧ xl + e.c ≤ 9 * ((n : Int) - cntN M' n)) := by
              refine ⟨hff.1, hff.2, .step hem ?_, by have h1 := HLE.out; omega⟩
              have h1 := (HDI.out.dj.least c hcn (by rw [HMX.out]; exact HLX.out.1)).1
              rw [HMX.out, ← het] at h1
              exact h1
            have HRK : Hid (∀ e' ∈ E, Kn E c (i + 1 - bc) e' → Kn E c (i - bc) e' ∨ (0 ≤ M' e'.t.toNat → (⟨e'.f, M' e'.t.toNat + e'.c⟩ : Tr) = ⟨e.f, xl + e.c⟩)) := fun e' _ hk => by
              rw [show i + 1 - bc = i - bc + 1 by omega] at hk
              rcases hk.next hef with h1 | rfl
              · exact .inl h1
              · exact .inr fun _ => by rw [het, Int.toNat_natCast, HMX.out]
            obtain ⟨ef, hef2⟩ : ∃ q, e.f = q := ⟨_, rfl⟩
            obtain ⟨ec, hec2⟩ : ∃ q, e.c = q := ⟨_, rfl⟩
            rw [hef2] at t2 HY
            rw [hec2] at t4 HY hcc
            simp only [hef2, hec2] at HRK
            obtain ⟨yl, hyl⟩ : ∃ q, xl + ec = q := ⟨_, rfl⟩
            have hwy : IntKind.i64.wrap (xl + ec) = yl := by rw [IntKind.wrap_i64]; have := HLX.out; omega
            rw [hyl] at HY
            simp only [hyl] at HRK
            have HPU : Hid (∀ V, Below Y0.heap.size Y0 V → Calls Try.prog 29 #[.pointer (some ⟨H, 0, none⟩), .agg #[.int .i64 ef, .int .i64 yl]] V fun e w' => e = .returned (.tuple #[]) ∧ ∃ v' F', DjW n E s DB H G NB ⟨(c : Int), xl⟩ w' M' v' F' (k + (i + 1 - bc)) (Kn E c (i + 1 - bc)) ∧ Ks [H, DB] G W3 w') := fun V hV => by
              refine (hput_any H G vi Fi (k + (i - bc)) ⟨ef, yl⟩ V (HDI.out.hp.below hV) HDI.out.hh (Nat.le_trans HDI.out.sz hV.size) (by have h1 := HGK.out; have h2 := HGL.out; omega)).mono ?_
              rintro e w' ⟨rfl, hp⟩
              obtain ⟨v', F', h1, h2⟩ := (HDI.out.below hV).put HDH.out HY.out HRK.out hp
              rw [show k + (i - bc) + 1 = k + (i + 1 - bc) by omega] at h1
              exact ⟨rfl, v', F', h1, HKI.out.trans ((Ks.of_below hV HDI.out.sz).trans h2)⟩
            clear hem het hef hto hco hff hef2 hec2 hyl hi2 hi4 hcc
            go_wp2_with fail
            apply key_rest
            · intro HKEY
              go_region_law (go_simp; go_at_call 29; refine (HPU.out _ (below_drewN (Below.refl _ _) _)).mono ?_; rintro e w7 ⟨rfl, v7, F7, hd7, hk7⟩; have HD7 := hide hd7; have HK7 := hide hk7; clear hd7 hk7)
              all_goals
                revert HD7 HK7
                revert w7 v7 F7
                exact HKEY.out
            intro w7 v7 F7 HD7 HK7
            go_wp2
            go_roundw
            case rel => exact ⟨i + 1, v7, F7, by omega, by omega, by go_num, HD7.out, HK7.out⟩
            case measure => simp [intOf]; omega
          · have tlt : decide ((i : Int) < (be : Int)) = false := decide_eq_false (by omega)
            obtain rfl : i = be := by omega
            have HD : Hid (DjW n E s DB H G NB ⟨(c : Int), xl⟩ Y0 M' vi Fi (k + (i - bc)) (fun _ => True)) := HDI.out.all fun e he => by
              have h1 := Kn.all (c := c) HE.out he
              rw [show (flt c (E.map Ed.turn)).length = i - bc by have := HBE.out.2; omega] at h1
              exact h1
            have HKS : Hid (Ks [H, DB] G W3 Y0) := HKI.out
            have HGH : Hid (k + (i - bc) + 6401 * cntN M' n + 1 ≤ gg) := by have h1 := HGK.out; show _ ≤ _; omega
            have hkb : k + (i - bc) ≤ 20000000 := by have h1 := HGH.out; have h2 := HGL.out; omega
            clear n0 n1
            have HD1 := hide HD.out.fresh
            have HK1 : Hid (Ks [H, DB] G W3 (Y0.alloc (.cells #[.int .i64 (c : Nat), .int .i64 xl] 59))) := HKS.out.trans (Ks.of_below ((Below.refl _ _).alloc (Nat.le_refl _) _) HD.out.sz)
            have m0 := HD.out.box.cell 0
            have m1 := HD.out.box.cell 1
            simp only [List.getElem?_toArray, List.getElem?_cons_zero, List.getElem?_cons_succ] at m0 m1
            obtain ⟨Y, hY⟩ : ∃ Y, Y0.alloc (.cells #[.int .i64 (c : Nat), .int .i64 xl] 59) = Y := ⟨_, rfl⟩
            obtain ⟨NN, hNN⟩ : ∃ N, Y0.heap.size = N := ⟨_, rfl⟩
            have HY := hide hY
            have HNN := hide hNN
            rw [hY] at HD1 HK1
            rw [hNN] at HD1
            clear hY hNN
            obtain ⟨kk, hkk⟩ : ∃ q, (k + (i - bc)) = q := ⟨_, rfl⟩
            rw [hkk] at HD1
            have HKK := hide hkk
            clear hkk
            cases kk with
            | zero =>
              have HTN := hide (htake_nil H G vi Fi Y HD1.out.hp)
              unfold tv at HTN
              go_wp2_with fail
              rw [HY.out, HNN.out]
              refine HTN.out.mono ?_
              rintro e w7 ⟨rfl, hb7⟩
              obtain ⟨hbx, hds, hks⟩ := HD1.out.spent (gg := gg - 1) HDG.out (by have := HGH.out; have := HKK.out; omega) hb7
              have HDS := hide hds
              have HKF : Hid (Ks [H, DB] G W3 (set2 w7 NN 0 ⟨0, 0⟩)) := HK1.out.trans hks
              have q0 := hbx.cell 0
              have q1 := hbx.cell 1
              have q2 := hbx.frozen 0
              have q3 := hbx.frozen 1
              simp only [List.getElem?_toArray, List.getElem?_cons_zero, List.getElem?_cons_succ] at q0 q1
              clear hbx hds hks hb7 m0 m1
              go_wp2
              go_roundg (gg - 1)
              case measure => have := HPOS.out; omega
              case rel => exact ⟨NN, ⟨0, 0⟩, false, M', vi, Fi, 0, Fi, 0, rfl, rfl, HDS.out, HKF.out, by have := HGL.out; omega⟩
            | succ kk =>
              have HTO := hide (htake_one H G vi Fi kk Y HD1.out.hp HD1.out.hh (by have := HKK.out; omega))
              unfold tv at HTO
              obtain ⟨x2, hx2⟩ : ∃ x, Fi 0 = x := ⟨_, rfl⟩
              have HX2 := hide hx2
              rw [hx2] at HTO
              obtain ⟨yc, yl⟩ := x2
              simp only at HTO
              clear hx2
              go_wp2_with fail
              rw [HY.out, HNN.out]
              refine HTO.out.mono ?_
              rintro e w7 ⟨rfl, tp⟩
              obtain ⟨hbx, v2, F2, hds, hks⟩ := HD1.out.taken (gg := gg - 1) HDH.out HDG.out (by have := HGH.out; have := HKK.out; omega) tp
              rw [HX2.out] at hds hks
              have HDS := hide hds
              have HKF : Hid (Ks [H, DB] G W3 (set2 w7 NN 0 ⟨yc, yl⟩)) := HK1.out.trans hks
              have q0 := hbx.cell 0
              have q1 := hbx.cell 1
              have q2 := hbx.frozen 0
              have q3 := hbx.frozen 1
              simp only [List.getElem?_toArray, List.getElem?_cons_zero, List.getElem?_cons_succ] at q0 q1
              clear hbx hds hks tp m0 m1
              go_wp2
              go_roundg (gg - 1)
              case measure => have := HPOS.out; omega
              case rel => exact ⟨NN, ⟨yc, yl⟩, true, M', v2, F2, kk, Fi, kk + 1, rfl, rfl, HDS.out, HKF.out, by have := HGL.out; omega⟩
end Go.Proofs.Ytochfhoaiekioaa
