/-
  The walks of impl.Reach's meet and of impl.nextCells.
-/
import Derived.Test.YtlghalphkjgnbaaIRW
import Derived.Test.YtlghalphkjgnbaaSRC
import Derived.Test.YtlghalphkjgnbaaIG
import Derived.Test.YtlghalphkjgnbaaTIc
import Derived.BigQuiet
import Derived.Deep.QuietTactic
namespace Go.Proofs.Ytlghalphkjgnbaa
open Go.RowKit

/-- What is marked (M), and what is still to be done (L). -/
structure Wt (RX RW B G n : Nat) (M : Nat → Bool) (L : List Int) (W : World) : Prop where
  rx : Boxed W RX 34 (.slice (some ⟨B, 0, none⟩) n n)
  row : W.rowIs B 4 n (fun j => .bool (M j))
  rw : ∃ v, Boxed W RW 59 v ∧ IOw W G v L
  gz : G ≤ W.heap.size

theorem row_same {w w' : World} {b n : Nat} {t : TypeId} {f : Nat → Value} (h : w.rowIs b t n f) (hb : w'.heap[b]? = w.heap[b]?) : w'.rowIs b t n f := by
  obtain ⟨c, h1, h2, h3⟩ := h
  exact ⟨c, by rw [hb]; exact h1, h2, h3⟩
/-- Behind a mark. -/
theorem Wt.mark {RX RW B G n t : Nat} {M : Nat → Bool} {L : List Int} {W : World} (h : Wt RX RW B G n M L W) (d2 : RX ≠ B) (d3 : RW ≠ B) (g3 : B < G) : Wt RX RW B G n (upd M t) L (W.setCell ⟨B, t, none⟩ (.bool true)) := by
  obtain ⟨v, h1, h2⟩ := h.rw
  refine ⟨?_, row_set h.row, ⟨v, ?_, ?_⟩, by rw [World.size_setCell]; exact h.gz⟩
  · exact (Below.heap_setCell _ _ _ _ d2).trans h.rx
  · exact (Below.heap_setCell _ _ _ _ d3).trans h1
  · exact World.ownsRow.kept h2 (row := some B) ⟨rfl, rfl, rfl, by rw [World.size_setCell]; exact Nat.le_refl _, fun k _ hk => Below.heap_setCell _ _ _ _ (fun e => hk (by rw [e]))⟩ (by
      right
      intro e
      have := (World.ownsRow.lt h2 B e).1
      omega)
/-- Behind a change of the row alone. -/
theorem Wt.put {RX RW B G n : Nat} {M : Nat → Bool} {L L' : List Int} {W W' : World} {v : Value} (h : Wt RX RW B G n M L W) (d1 : RX ≠ RW) (d3 : RW ≠ B) (g1 : RX < G) (g3 : B < G) (hb : Boxed W' RW 59 v) (ho : IOw W' G v L') (hc : Chg [RW] G W W') : Wt RX RW B G n M L' W' :=
  ⟨(hc.blk RX g1 (fun e => d1 (List.mem_singleton.1 e))).trans h.rx, row_same h.row (hc.blk B g3 (fun e => d3 (List.mem_singleton.1 e).symm)), ⟨v, hb, ho⟩, Nat.le_trans h.gz hc.oth.size⟩

set_option maxHeartbeats 2000000 in
set_option maxRecDepth 1000000 in
theorem meet_any (RX RW B G n : Nat) (M : Nat → Bool) (L C : List Int) (u : Value) (w0 w : World) (_hn : n ≤ 1600) (hC : C.length ≤ 100000) (hin : ∀ j, j < C.length → 0 ≤ C.getD j 0 ∧ C.getD j 0 < n)
    (h1 : w0.heap.size ≤ RX) (h2 : w0.heap.size ≤ RW) (h3 : w0.heap.size ≤ B) (g1 : RX < G) (g2 : RW < G) (g3 : B < G) (d1 : RX ≠ RW) (d2 : RX ≠ B) (d3 : RW ≠ B)
    (hb : Below w0.heap.size w0 w) (hu : IS w0 u C) (hw : Wt RX RW B G n M L w) (hm : cntF M n + L.length ≤ 10000) :
    Calls Try.prog 35 #[u, .pointer (some ⟨RX, 0, none⟩), .pointer (some ⟨RW, 0, none⟩)] w fun e w' => (∃ v, e = .returned v) ∧ ∃ M' L', Wt RX RW B G n M' L' w' ∧ (∀ j, M j = true → M' j = true) ∧ (∀ j, M' j = true → M j = true ∨ ((j : Int) ∈ C ∧ (j : Int) ∈ L')) ∧ (∀ x ∈ C, M' x.toNat = true) ∧ (∀ x ∈ L, x ∈ L') ∧ (∀ x ∈ L', x ∈ L ∨ x ∈ C) ∧ cntF M' n + L'.length = cntF M n + L.length ∧ Chg [B, RW] G w w' := by
  obtain ⟨a, b, o, c, rfl, ha, hc⟩ := hu
  have HC := hide hc
  have HIN := hide hin
  have HW := hide hw
  have HB := hide hb
  clear hc hin hw hb
  go_enter Try.func35, Try.ntmps35
  go_wp2
  go_loopw [8] (fun ix wr => ∃ (k : Nat) (M' : Nat → Bool) (L' : List Int), k ≤ C.length ∧ ix = .int .i64 k ∧ Wt RX RW B G n M' L' wr ∧ (∀ j, M j = true → M' j = true) ∧ (∀ j, M' j = true → M j = true ∨ ((j : Int) ∈ C ∧ (j : Int) ∈ L')) ∧ (∀ i, i < k → M' (C.getD i 0).toNat = true) ∧ (∀ x ∈ L, x ∈ L') ∧ (∀ x ∈ L', x ∈ L ∨ x ∈ C) ∧ cntF M' n + L'.length = cntF M n + L.length ∧ Chg [B, RW] G w wr) (fun ix _ => C.length - (intOf ix).toNat)
  case atStart => exact ⟨0, M, L, Nat.zero_le _, rfl, HW.out, (fun _ h => h), (fun _ h => .inl h), (fun i hi => absurd hi (Nat.not_lt_zero _)), (fun _ h => h), (fun _ h => .inl h), rfl, Chg.refl _ _ _⟩
  case round =>
    obtain ⟨k, M1, L1, hk, rfl, hw, p1, p2, p3, p4, p5, p6, hch⟩ := hrel
    have HW1 := hide hw
    have P1 := hide p1
    have P2 := hide p2
    have P3 := hide p3
    have P4 := hide p4
    have P5 := hide p5
    have P6 := hide p6
    have HCH := hide hch
    have hL1 : L1.length ≤ 10000 := by omega
    clear p1 p2 p3 p4 p5 p6
    by_cases hlt : k < C.length
    · have hlti : (k : Int) < (C.length : Int) := by omega
      obtain rfl := ha (by omega)
      have hbw : Below w0.heap.size w0 wr := HB.out.trans (hch.below (fun q hq => by
        rcases List.mem_cons.1 hq with rfl | hq
        · exact h3
        · rw [List.mem_singleton.1 hq]; exact h2) (by omega))
      have f2 := cell_kept (HC.out k hlt) hbw
      have hmem : C.getD k 0 ∈ C := by rw [List.getD_eq_getElem?_getD, List.getElem?_eq_getElem hlt]; exact List.getElem_mem hlt
      have hr := HIN.out k hlt
      obtain ⟨t, ht⟩ : ∃ t : Nat, C.getD k 0 = t := ⟨(C.getD k 0).toNat, by omega⟩
      have HMEM : Hid ((t : Int) ∈ C) := by rw [← ht]; exact hmem
      have HT := hide ht
      rw [ht] at f2 hr
      have htn : t < n := by omega
      have htni : (t : Int) < (n : Int) := by omega
      have x0 := hw.rx.cell
      have q1 := hw.row.cell htn
      have q2 := hw.row.frozen t
      obtain ⟨q, hq⟩ : ∃ q, M1 t = q := ⟨_, rfl⟩
      rw [hq] at q1
      have HQ := hide hq
      clear hbw hmem hr ht hq hw hch
      cases q with
      | true =>
        go_wp2
        go_roundw
        case rel =>
          refine ⟨k + 1, M1, L1, by omega, by go_num, HW1.out, P1.out, P2.out, fun i hi => ?_, P4.out, P5.out, P6.out, HCH.out⟩
          by_cases e : i = k
          · rw [e, HT.out, Int.toNat_natCast]; exact HQ.out
          · exact P3.out i (by omega)
        case measure => simp [intOf]; omega
      | false =>
        have hw2 := HW1.out.mark (t := t) d2 d3 g3
        obtain ⟨v, hv1, hv2⟩ := hw2.rw
        have HPU := hide (put_any RW G v L1 (t : Int) _ hv1 hv2 g2 hw2.gz (by omega))
        have HW2 := hide hw2
        have HUP := hide (cntF_upd (n := n) HQ.out htn)
        clear hw2 hv1 hv2
        go_wp2_with fail
        refine HPU.out.mono ?_
        rintro e w5 ⟨⟨u5, rfl⟩, v5, hb5, ho5, hc5⟩
        have HW5 := hide (HW2.out.put d1 d3 g1 g3 hb5 ho5 hc5)
        have HC5 : Hid (Chg [B, RW] G w w5) := (HCH.out.trans (Chg.set (List.mem_cons_self ..))).trans (hc5.mono (fun q hq => List.mem_cons_of_mem _ hq))
        clear hb5 ho5 hc5
        go_wp2
        go_roundw
        case rel =>
          refine ⟨k + 1, upd M1 t, L1 ++ [(t : Int)], by omega, by go_num, HW5.out, fun j h => upd_keeps (P1.out j h), fun j h => ?_, fun i hi => ?_, fun x h => List.mem_append_left _ (P4.out x h), fun x h => ?_, ?_, HC5.out⟩
          · unfold upd at h
            by_cases e : j = t
            · exact .inr ⟨by rw [e]; exact HMEM.out, by rw [e]; exact List.mem_append_right _ (List.mem_singleton.2 rfl)⟩
            · rw [if_neg e] at h
              rcases P2.out j h with h | ⟨h, h'⟩
              · exact .inl h
              · exact .inr ⟨h, List.mem_append_left _ h'⟩
          · by_cases e : i = k
            · rw [e, HT.out, Int.toNat_natCast]; unfold upd; rw [if_pos rfl]
            · exact upd_keeps (P3.out i (by omega))
          · rcases List.mem_append.1 h with h | h
            · exact P5.out x h
            · rw [List.mem_singleton.1 h]; exact .inr HMEM.out
          · have h1 := HUP.out
            have h2 := P6.out
            rw [List.length_append, List.length_singleton]
            omega
        case measure => simp [intOf]; omega
    · have hge : ¬ (k : Int) < (C.length : Int) := by omega
      have P3' : Hid (∀ x ∈ C, M1 x.toNat = true) := fun x hx => by
        obtain ⟨j, hj, rfl⟩ := List.getElem_of_mem hx
        have h1 := P3.out j (by omega)
        rw [List.getD_eq_getElem?_getD, List.getElem?_eq_getElem hj] at h1
        exact h1
      clear hw hch
      go_wp2
      refine ⟨rfl, _, results_none rfl _ _ _, ⟨_, rfl⟩, M1, L1, HW1.out, P1.out, P2.out, P3'.out, P4.out, P5.out, P6.out, HCH.out⟩

/-- The cells to which the edges of a cell lead. -/
def nxt (g : Gr) (c : Nat) : List Int := (List.range ((g.start.getD (c + 1) 0).toNat - (g.start.getD c 0).toNat)).map fun j => g.to.getD ((g.start.getD c 0).toNat + j) 0
theorem nxt_length (g : Gr) (c : Nat) : (nxt g c).length = (g.start.getD (c + 1) 0).toNat - (g.start.getD c 0).toNat := by unfold nxt; simp

set_option maxHeartbeats 2000000 in
set_option maxRecDepth 1000000 in
theorem next_any (g : Gr) (v1 v2 v3 v4 : Value) (c : Nat) (w00 w : World) (hok : GrOk g) (hc : c < g.n.toNat) (h00 : GrV w00 g v1 v2 v3 v4) (hb00 : Below w00.heap.size w00 w) (hcp : Cp v2) :
    Calls Try.prog 38 #[gragg g v1 v2 v3 v4, .int .i64 (c : Nat)] w fun e w' => ∃ v, e = .returned v ∧ IS w00 v (nxt g c) ∧ Below w.heap.size w w' := by
  have h := h00.below hb00
  obtain ⟨a1, b1, o1, c1, rfl, ha1, hc1⟩ := h.start
  obtain ⟨a2, b2, o2, c2, rfl, ha2, hc2⟩ := h00.to
  obtain ⟨a3, c3, rfl⟩ := h.dir.slice
  obtain ⟨a4, c4, rfl⟩ := h.cost.slice
  clear h00 hb00
  have hcap : g.to.length ≤ c2 := hcp
  have hlen := hok.len
  have hn0 := hok.n0
  have hn1 := hok.n1
  obtain rfl := ha1 (by omega)
  have m1 := start_le hok 0 c (by omega) (by omega)
  have m2 := start_le hok c (c + 1) (by omega) (by omega)
  have m3 := start_le hok (c + 1) g.n.toNat (by omega) (by omega)
  have htos := hok.tos
  have hmost := hok.most
  rw [hok.first] at m1
  have f0 := hc1 c (by omega)
  have f1 := hc1 (c + 1) (by omega)
  obtain ⟨s, hs⟩ : ∃ s : Nat, g.start.getD c 0 = s := ⟨(g.start.getD c 0).toNat, by omega⟩
  obtain ⟨t, ht⟩ : ∃ t : Nat, g.start.getD (c + 1) 0 = t := ⟨(g.start.getD (c + 1) 0).toNat, by omega⟩
  rw [hs] at f0 m1 m2
  rw [ht] at f1 m2 m3
  have hst : s ≤ t := by omega
  have htl : t ≤ g.to.length := by omega
  have HNX : Hid (nxt g c = (List.range (t - s)).map fun j => g.to.getD (s + j) 0) := by show _ = _; unfold nxt; rw [hs, ht, Int.toNat_natCast, Int.toNat_natCast]
  have hsti : (s : Int) ≤ (t : Int) := by omega
  have htci : (t : Int) ≤ (c2 : Int) := by omega
  have hcl : (c : Int) < (g.start.length : Int) := by omega
  have hcl1 : (c : Int) + 1 < (g.start.length : Int) := by omega
  have hwc : IntKind.i64.wrap ((c : Int) + 1) = (c : Int) + 1 := by rw [IntKind.wrap_i64]; omega
  obtain ⟨W0, hW0⟩ : ∃ W, w.alloc (.cells #[.int .i64 g.n, .slice (some ⟨b1, o1, none⟩) g.start.length c1, .slice a2 g.to.length c2, .slice a3 g.dir.length c3, .slice a4 g.cost.length c4] 27) = W := ⟨_, rfl⟩
  have hB0 : Below w.heap.size w W0 := by rw [← hW0]; exact (Below.refl _ _).alloc (Nat.le_refl _) _
  have hA0 : Blk W0 w.heap.size 27 #[.int .i64 g.n, .slice (some ⟨b1, o1, none⟩) g.start.length c1, .slice a2 g.to.length c2, .slice a3 g.dir.length c3, .slice a4 g.cost.length c4] := by rw [← hW0]; exact Blk.new _ _ _
  have z1 := hA0.cell 1
  have z2 := hA0.cell 2
  simp only [List.getElem?_toArray, List.getElem?_cons_succ, List.getElem?_cons_zero] at z1 z2
  have e0 := cell_kept f0 hB0
  have e1 := cell_kept f1 hB0
  have HB0 := hide hB0
  unfold gragg
  by_cases q : s < t
  · obtain rfl := ha2 (by omega)
    have HIS : Hid (IS w00 (.slice (some ⟨b2, o2 + s, none⟩) (t - s) (c2 - s)) (nxt g c)) := by
      rw [HNX.out]
      refine ⟨_, b2, o2 + s, c2 - s, by simp, fun _ => rfl, fun j hj => ?_⟩
      have hj' : j < t - s := by simpa using hj
      rw [Nat.add_assoc, hc2 (s + j) (by omega)]
      simp [List.getD, hj']
    have k1 : s < c2 := by omega
    have k2 : (s : Int) < (c2 : Int) := by omega
    have k3 : ¬ s = c2 := by omega
    have k4 : ¬ c2 = s := by omega
    clear hB0 hA0 hc1 hc2 h hok hlen hn0 hn1 m1 m2 m3 htos hmost hs ht f0 f1 q
    go_enter Try.func38, Try.ntmps38
    go_wp2_with fail
    clear hW0
    go_quiet (fail)
    go_wp2
    go_ret
    exact ⟨_, rfl, HIS.out, below_drewN HB0.out _⟩
  · have e : t = s := by omega
    subst e
    have HNIL : Hid (nxt g c = []) := by show _ = _; rw [HNX.out, Nat.sub_self]; rfl
    have k0 : t - t = 0 := Nat.sub_self _
    clear hB0 hA0 hc1 hc2 h hok hlen hn0 hn1 m1 m2 m3 htos hmost hs ht f0 f1 q
    by_cases k1 : t < c2
    · have k2 : (t : Int) < (c2 : Int) := by omega
      have k3 : ¬ t = c2 := by omega
      have k4 : ¬ c2 = t := by omega
      cases a2 with
      | none =>
        go_enter Try.func38, Try.ntmps38
        go_wp2_with fail
        clear hW0
        go_quiet (fail)
        go_wp2
        go_ret
        rw [HNIL.out]
        exact ⟨_, rfl, ⟨_, 0, 0, _, rfl, (fun h => absurd h (by decide)), fun j hj => absurd hj (Nat.not_lt_zero _)⟩, below_drewN HB0.out _⟩
      | some ad =>
        go_enter Try.func38, Try.ntmps38
        go_wp2_with fail
        clear hW0
        go_quiet (fail)
        go_wp2
        go_ret
        rw [HNIL.out]
        exact ⟨_, rfl, ⟨_, 0, 0, _, rfl, (fun h => absurd h (by decide)), fun j hj => absurd hj (Nat.not_lt_zero _)⟩, below_drewN HB0.out _⟩
    · have e : c2 = t := by omega
      subst e
      cases a2 with
      | none =>
        go_enter Try.func38, Try.ntmps38
        go_wp2_with fail
        clear hW0
        go_quiet (fail)
        go_wp2
        go_ret
        rw [HNIL.out]
        exact ⟨_, rfl, ⟨_, 0, 0, _, rfl, (fun h => absurd h (by decide)), fun j hj => absurd hj (Nat.not_lt_zero _)⟩, below_drewN HB0.out _⟩
      | some ad =>
        go_enter Try.func38, Try.ntmps38
        go_wp2_with fail
        clear hW0
        go_quiet (fail)
        go_wp2
        go_ret
        rw [HNIL.out]
        exact ⟨_, rfl, ⟨_, 0, 0, _, rfl, (fun h => absurd h (by decide)), fun j hj => absurd hj (Nat.not_lt_zero _)⟩, below_drewN HB0.out _⟩
end Go.Proofs.Ytlghalphkjgnbaa
