/-
  The walk of impl.Reach.
-/
import Derived.Test.YtonhehndoifipabJReachIRE
namespace Go.Proofs.Ytonhehndoifipab
open Go.RowKit Go.Shelf

attribute [local go_sem] Oper.semAt_some
theorem run_store_fn (P : Program) (w : World) (a : Addr) (fn : Fn) (first captured : Array Value) (m : Mode) : (store a (.func fn first captured) m).run P w = stored P w a (.func fn first captured) m := run_store P w a _ m rfl
attribute [local go_sem] run_store_fn

theorem boxed_put {W : World} {b l : Nat} {t : TypeId} {v : Value} {o o' : Obj} (h : Boxed W b t v) (hl : W.heap[l]? = some o) (ho : o.isCells = false) : Boxed (W.putObj l o') b t v :=
  (World.putObj_heap_other (fun e => by subst e; rw [show W.heap[b]? = _ from h] at hl; cases hl; cases ho)).trans h
theorem blk_put {W : World} {b l : Nat} {t : TypeId} {cs : Array Value} {o o' : Obj} (h : Blk W b t cs) (hl : W.heap[l]? = some o) (ho : o.isCells = false) : Blk (W.putObj l o') b t cs :=
  (World.putObj_heap_other (fun e => by subst e; rw [show W.heap[b]? = _ from h] at hl; cases hl; cases ho)).trans h
theorem Wt.putObj {RX RW B G n l : Nat} {M : Nat → Bool} {L : List Int} {W : World} {o o' : Obj} (h : Wt RX RW B G n M L W) (hl : W.heap[l]? = some o) (ho : o.isCells = false) : Wt RX RW B G n M L (W.putObj l o') := by
  obtain ⟨v, h1, h2⟩ := h.rw
  refine ⟨boxed_put h.rx hl ho, ?_, ⟨v, boxed_put h1 hl ho, World.ownsRow.kept h2 (grownBy_putObj' W l _) ?_⟩, Nat.le_trans h.gz (grownBy_putObj' W l _).size⟩
  · obtain ⟨c, k1, k2, k3⟩ := h.row
    exact ⟨c, (World.putObj_heap_other (fun e => by subst e; rw [k1] at hl; cases hl; cases ho)).trans k1, k2, k3⟩
  · right
    intro e
    rcases h2.2 with ⟨k1, _⟩ | ⟨g, c, cur, hv, _, hg, _⟩
    · rw [k1] at e; cases e
    · rw [hv] at e; cases e
      rw [hg] at hl; cases hl; cases ho
theorem Wt.alloc {RX RW B G n : Nat} {M : Nat → Bool} {L : List Int} {W : World} (h : Wt RX RW B G n M L W) (o : Obj) : Wt RX RW B G n M L (W.alloc o) := by
  have hb : Below W.heap.size W (W.alloc o) := (Below.refl _ _).alloc (Nat.le_refl _) _
  obtain ⟨v, h1, h2⟩ := h.rw
  exact ⟨h.rx.alloc _, row_kept h.row hb, ⟨v, h1.alloc _, h2.kept hb⟩, Nat.le_trans h.gz hb.size⟩
theorem Rel.putObj {g : Gr} {F : List Int} {RX RW B G n l : Nat} {w0 W : World} {x : Option Int} {M : Nat → Bool} {L : List Int} {o o' : Obj} (h : Rel g F RX RW B G n w0 x M L W) (hw : w0.heap.size ≤ l) (hl : W.heap[l]? = some o) (ho : o.isCells = false) : Rel g F RX RW B G n w0 x M L (W.putObj l o') :=
  ⟨h.wt.putObj hl ho, h.bel.grown (grownBy_putObj' W l o') h.bel.size (fun k e => by cases e; exact hw), h.snd, h.bas, h.cls, h.lin, h.xin, h.mea⟩
theorem Rel.alloc {g : Gr} {F : List Int} {RX RW B G n : Nat} {w0 W : World} {x : Option Int} {M : Nat → Bool} {L : List Int} (h : Rel g F RX RW B G n w0 x M L W) (o : Obj) : Rel g F RX RW B G n w0 x M L (W.alloc o) :=
  ⟨h.wt.alloc o, h.bel.alloc h.bel.size _, h.snd, h.bas, h.cls, h.lin, h.xin, h.mea⟩

theorem Rel.below {g : Gr} {F : List Int} {RX RW B G n : Nat} {w0 W W' : World} {x : Option Int} {M : Nat → Bool} {L : List Int} (h : Rel g F RX RW B G n w0 x M L W) (hb : Below W.heap.size W W') : Rel g F RX RW B G n w0 x M L W' := by
  obtain ⟨v, h1, h2⟩ := h.wt.rw
  exact ⟨⟨Blk.below h.wt.rx hb, row_kept h.wt.row hb, ⟨v, Blk.below h1 hb, h2.kept hb⟩, Nat.le_trans h.wt.gz hb.size⟩, h.bel.trans (hb.mono h.bel.size), h.snd, h.bas, h.cls, h.lin, h.xin, h.mea⟩

theorem nxt_in {g : Gr} (h : GrOk g) {c : Nat} (hc : c < g.n.toNat) {y : Int} (hy : y ∈ nxt g c) : 0 ≤ y ∧ y < g.n := by
  obtain ⟨e, he, _, rfl⟩ := nxt_ed h hc hy
  exact (eds_in h he).2
/-- Behind a round. -/
theorem rel_meet {g : Gr} {F : List Int} {RX RW B G n : Nat} {w0 W W' : World} {x : Int} {M M' : Nat → Bool} {L L' : List Int} (hok : GrOk g) (hn : g.n = (n : Int)) (h : Rel g F RX RW B G n w0 (some x) M L W) (hw : Wt RX RW B G n M' L' W')
    (p1 : ∀ j, M j = true → M' j = true) (p2 : ∀ j : Nat, M' j = true → M j = true ∨ ((j : Int) ∈ nxt g x.toNat ∧ (j : Int) ∈ L')) (p3 : ∀ y ∈ nxt g x.toNat, M' y.toNat = true) (p4 : ∀ y ∈ L, y ∈ L') (p5 : ∀ y ∈ L', y ∈ L ∨ y ∈ nxt g x.toNat)
    (p6 : cntF M' n + L'.length = cntF M n + L.length) (hb : Below w0.heap.size W W') : Rel g F RX RW B G n w0 none M' L' W' := by
  obtain ⟨x0, x1, x2⟩ := h.xin x rfl
  have hx : x.toNat < g.n.toNat := by omega
  have hmea := h.mea
  refine ⟨hw, h.bel.trans hb, fun c hc hm => ?_, fun c hc => p1 _ (h.bas c hc), fun c hc hm => ?_, fun y hy => ?_, fun y hy => (by cases hy), by omega⟩
  · rcases p2 c hm with h1 | ⟨h1, _⟩
    · exact h.snd c hc h1
    · obtain ⟨e, he, hf, ht⟩ := nxt_ed hok hx h1
      rw [← ht]
      refine Rch.step he ?_
      rw [hf]
      exact h.snd x.toNat (by omega) x2
  · rcases p2 c hm with h1 | ⟨_, h1⟩
    · rcases h.cls c hc h1 with h2 | h2 | h2
      · exact .inl (p4 _ h2)
      · have e : x = (c : Int) := Option.some.inj h2
        refine .inr (.inr fun y hy => p3 y ?_)
        rw [e, Int.toNat_natCast]
        exact hy
      · exact .inr (.inr fun y hy => p1 _ (h2 y hy))
    · exact .inl h1
  · rcases p5 y hy with h1 | h1
    · have := h.lin y h1
      exact ⟨this.1, this.2.1, p1 _ this.2.2⟩
    · have := nxt_in hok hx h1
      exact ⟨by omega, by omega, p3 y h1⟩
theorem cntF_false : ∀ n, cntF (fun _ => false) n = n
  | 0 => rfl
  | n + 1 => by unfold cntF; rw [cntF_false n]; simp
/-- At the beginning. -/
theorem rel_first {g : Gr} {F : List Int} {RX RW B G n : Nat} {w0 W' : World} {M' : Nat → Bool} {L' : List Int} (hF : ∀ y ∈ F, 0 ≤ y ∧ y < (n : Int)) (hw : Wt RX RW B G n M' L' W')
    (p2 : ∀ j : Nat, M' j = true → false = true ∨ ((j : Int) ∈ F ∧ (j : Int) ∈ L')) (p3 : ∀ y ∈ F, M' y.toNat = true) (p5 : ∀ y ∈ L', y ∈ ([] : List Int) ∨ y ∈ F)
    (p6 : cntF M' n + L'.length = cntF (fun _ => false) n + ([] : List Int).length) (hb : Below w0.heap.size w0 W') : Rel g F RX RW B G n w0 none M' L' W' := by
  rw [cntF_false] at p6
  refine ⟨hw, hb, fun c hc hm => ?_, p3, fun c hc hm => ?_, fun y hy => ?_, fun y hy => (by cases hy), by rw [p6]; exact Nat.le_refl _⟩
  · rcases p2 c hm with h1 | ⟨h1, _⟩
    · cases h1
    · exact Rch.base h1
  · rcases p2 c hm with h1 | ⟨_, h1⟩
    · cases h1
    · exact .inl h1
  · rcases p5 y hy with h1 | h1
    · cases h1
    · have := hF y h1
      exact ⟨this.1, this.2, p3 y h1⟩
/-- At the end. -/
theorem rel_end {g : Gr} {F : List Int} {RX RW B G n : Nat} {w0 W : World} {M : Nat → Bool} (hok : GrOk g) (hn : g.n = (n : Int)) (h : Rel g F RX RW B G n w0 none M [] W) (hB : w0.heap.size ≤ B) (hlt : B < W.heap.size) :
    ∃ bl, VF W (.slice (some ⟨B, 0, none⟩) n n) (rchL n (eds g) F) bl ∧ Fr w0 W bl := by
  refine row_vf (rchL_length _ _ _) ?_ hB hlt
  obtain ⟨c, k1, k2, k3⟩ := h.wt.row
  refine ⟨c, k1, k2, fun j hj => ?_⟩
  rw [k3 j hj]
  show some (Value.bool (M j)) = some (Value.bool ((rchL n (eds g) F).getD j false))
  rw [rch_done h.snd h.bas (fun e he hm => ?_) j hj]
  have hi := eds_in hok he
  have hc := h.cls e.f.toNat (by omega) hm
  rcases hc with h1 | h1 | h1
  · cases h1
  · cases h1
  · exact h1 _ (ed_nxt hok he)

/-- The boxes beside. -/
structure Bx (GB MB RR RX RW : Nat) (cs : Array Value) (W : World) : Prop where
  g : Blk W GB 29 cs
  m : Boxed W MB 47 (.func (.func 22) #[] #[.pointer (some ⟨RX, 0, none⟩), .pointer (some ⟨RW, 0, none⟩)])
  r : Boxed W RR 57 (.pointer (some ⟨RW, 0, none⟩))
theorem Bx.putObj {GB MB RR RX RW l : Nat} {cs : Array Value} {W : World} {o o' : Obj} (h : Bx GB MB RR RX RW cs W) (hl : W.heap[l]? = some o) (ho : o.isCells = false) : Bx GB MB RR RX RW cs (W.putObj l o') := ⟨blk_put h.g hl ho, boxed_put h.m hl ho, boxed_put h.r hl ho⟩
theorem Bx.alloc {GB MB RR RX RW : Nat} {cs : Array Value} {W : World} (h : Bx GB MB RR RX RW cs W) (o : Obj) : Bx GB MB RR RX RW cs (W.alloc o) := ⟨h.g.alloc _, h.m.alloc _, h.r.alloc _⟩
theorem Bx.chg {GB MB RR RX RW G : Nat} {A : List Nat} {cs : Array Value} {W W' : World} (h : Bx GB MB RR RX RW cs W) (hc : Chg A G W W') (h1 : GB ∉ A) (h2 : MB ∉ A) (h3 : RR ∉ A) : Bx GB MB RR RX RW cs W' :=
  ⟨hc.typ GB _ _ h1 (by decide) h.g, hc.typ MB _ _ h2 (by decide) h.m, hc.typ RR _ _ h3 (by decide) h.r⟩

set_option maxRecDepth 1000000 in
set_option maxHeartbeats 2000000 in
theorem rest_any (RW : Nat) (w : World) :
    Calls Try.prog 24 #[.pointer (some ⟨RW, 0, none⟩)] w fun e w' => e = .returned (.func (.func 29) #[] #[.pointer (some ⟨w.heap.size, 0, none⟩)]) ∧ Boxed w' w.heap.size 57 (.pointer (some ⟨RW, 0, none⟩)) ∧ Below w.heap.size w w' := by
  obtain ⟨W0, hW0⟩ : ∃ W, w.alloc (.cells #[.pointer (some ⟨RW, 0, none⟩)] 57) = W := ⟨_, rfl⟩
  have HB0 : Hid (Below w.heap.size w W0) := by show Below _ _ _; rw [← hW0]; exact (Below.refl _ _).alloc (Nat.le_refl _) _
  have HA0 : Hid (Boxed W0 w.heap.size 57 (.pointer (some ⟨RW, 0, none⟩))) := by show Boxed _ _ _ _; rw [← hW0]; exact Boxed.new _ _ _
  go_enter Try.func24, Try.ntmps24
  go_wp2
  go_ret
  exact ⟨rfl, HA0.out, HB0.out⟩

theorem cell_put {W : World} {l : Nat} {o' : Obj} {b k : Nat} (h : b ≠ l) : (W.putObj l o').cell? ⟨b, k, none⟩ = W.cell? ⟨b, k, none⟩ := by
  unfold World.cell?
  rw [show (W.putObj l o').heap[(⟨b, k, none⟩ : Addr).block]? = W.heap[(⟨b, k, none⟩ : Addr).block]? from World.putObj_heap_other h]
theorem muW_put {B RW l : Nat} {W : World} {o' : Obj} (h1 : RW < l) (h2 : B < l) : ∀ n, muW B RW (W.putObj l o') n = muW B RW W n
  | 0 => by unfold muW; rw [cell_put (by omega)]
  | n + 1 => by unfold muW; rw [muW_put h1 h2 n, cell_put (by omega)]
/-- A round's second half. -/
theorem round_meet (g : Gr) (F : List Int) (RX RW B n : Nat) (w : World) (GB MB RR : Nat) (cs : Array Value) (c : Nat) (M : Nat → Bool) (L : List Int) (W : World) (hok : GrOk g) (hn : g.n = (n : Int)) (hnb : n ≤ 1600) (hnum : RX = B + 1 ∧ RW = B + 2 ∧ MB = B + 3 ∧ w.heap.size < B) (hGB : GB = w.heap.size) (hRR : B + 4 ≤ RR)
    (hR : Rel g F RX RW B (B + 4) n w (some (c : Int)) M L W) (hB : Bx GB MB RR RX RW cs W) (u : Value) (w5 : World) (hb : Below W.heap.size W w5) (hu : IS w u (nxt g c)) :
    Calls Try.prog 22 #[u, .pointer (some ⟨RX, 0, none⟩), .pointer (some ⟨RW, 0, none⟩)] w5 fun e w6 => (∃ v, e = .returned v) ∧ ∀ S, KeepsFrom S W w6 ∧ ((∃ M L, Rel g F RX RW B (B + 4) n w none M L w6) ∧ Bx GB MB RR RX RW cs w6) ∧ muW B RW w6 n ≤ muW B RW W n := by
  obtain ⟨s1, s2, s3, s4⟩ := hnum
  have hx := hR.xin c rfl
  have hcn : c < g.n.toNat := by omega
  have hR5 := hR.below hb
  have hlen : (nxt g c).length ≤ 100000 := by
    rw [nxt_length]
    have m1 := start_le hok 0 c (by omega) (by omega)
    have m3 := start_le hok (c + 1) g.n.toNat (by omega) (by omega)
    have := hok.most
    omega
  have hmea := hR.mea
  refine (meet_any RX RW B (B + 4) n M L (nxt g c) u w w5 hnb hlen (fun j hj => by have := nxt_in hok hcn (getD_mem hj); omega) (by omega) (by omega) (by omega) (by omega) (by omega) (by omega) (by omega) (by omega) (by omega) hR5.bel hu hR5.wt (by omega)).mono ?_
  rintro e w6 ⟨hv, M', L', hw6, p1, p2, p3, p4, p5, p6, hc6⟩
  refine ⟨hv, fun S => ⟨?_, ⟨⟨M', L', ?_⟩, ?_⟩, ?_⟩⟩
  · exact ((Chg.of_below (A := []) (G := 0) hb (Nat.zero_le _)).oth.trans hc6.oth).from S
  · have e : (c : Int).toNat = c := Int.toNat_natCast c
    refine rel_meet hok hn hR5 hw6 p1 (by rw [e]; exact p2) (by rw [e]; exact p3) p4 (by rw [e]; exact p5) p6 (hc6.below (fun k hk => ?_) (by omega))
    rcases List.mem_cons.1 hk with e | hk
    · omega
    · have := List.mem_singleton.1 hk; omega
  · have hB5 : Bx GB MB RR RX RW cs w5 := ⟨hB.g.below hb, Blk.below hB.m hb, Blk.below hB.r hb⟩
    have hno : ∀ k, k ≠ B → k ≠ RW → k ∉ [B, RW] := fun k h1 h2 hk => by
      rcases List.mem_cons.1 hk with e | hk
      · exact h1 e
      · exact h2 (List.mem_singleton.1 hk)
    exact hB5.chg hc6 (hno _ (by omega) (by omega)) (hno _ (by omega) (by omega)) (hno _ (by omega) (by omega))
  · rw [muW_wt hw6 n (Nat.le_refl _), p6, muW_wt hR.wt n (Nat.le_refl _)]
    exact Nat.le_refl _

set_option maxRecDepth 1000000 in
set_option maxHeartbeats 4000000 in
theorem implReach_any (g : Gr) (v1 v2 v3 v4 : Value) (F : List Int) (u : Value) (w : World) (hb : GrB g) (hF : F.length ≤ 1048576) (h : GrV w g v1 v2 v3 v4) (hcp : Cp v2) (hu : IS w u F) :
    Calls Try.prog 8 #[gragg g v1 v2 v3 v4, u] w fun e w' => ∃ v bl, e = .returned (.tuple #[v, .int .i64 (rcC g F)]) ∧ VF w' v (rcF g F) bl ∧ Fr w w' bl ∧ Below w.heap.size w w' := by
  have HVG := hide (fun w2 (h2 : Below w.heap.size w w2) => implGraph_any g v1 v2 v3 v4 w2 hb (h.below h2))
  have HAW := hide (fun lo hi w2 (h2 : Below w.heap.size w w2) => allWithin_any u F lo hi w2 (by omega) (hu.below h2))
  have HNX := hide (fun c w2 (h2 : Below w.heap.size w w2) (hok : GrOk g) (hc : c < g.n.toNat) => next_any g v1 v2 v3 v4 c w w2 hok hc h h2 hcp)
  have HU := hide hu
  obtain ⟨a1, c1, rfl⟩ := h.start.slice
  obtain ⟨a2, c2, rfl⟩ := h.to.slice
  obtain ⟨a3, c3, rfl⟩ := h.dir.slice
  obtain ⟨a4, c4, rfl⟩ := h.cost.slice
  obtain ⟨au, cu, rfl⟩ := hu.slice
  obtain ⟨W0, hW0⟩ : ∃ W, w.alloc (.cells #[.int .i64 g.n, .slice a1 g.start.length c1, .slice a2 g.to.length c2, .slice a3 g.dir.length c3, .slice a4 g.cost.length c4] 29) = W := ⟨_, rfl⟩
  have hB0 : Below w.heap.size w W0 := by rw [← hW0]; exact (Below.refl _ _).alloc (Nat.le_refl _) _
  have hA0 : Blk W0 w.heap.size 29 #[.int .i64 g.n, .slice a1 g.start.length c1, .slice a2 g.to.length c2, .slice a3 g.dir.length c3, .slice a4 g.cost.length c4] := by rw [← hW0]; exact Blk.new _ _ _
  have HB0 := hide hB0
  have HA0 := hide hA0
  have HW := hide hW0
  unfold gragg at HVG HNX ⊢
  clear hB0 hA0 hb h hu hcp
  have z0 := HA0.out.cell 0
  have z1 := HA0.out.cell 1
  have z2 := HA0.out.cell 2
  have z3 := HA0.out.cell 3
  have z4 := HA0.out.cell 4
  simp only [List.getElem?_toArray, List.getElem?_cons_succ, List.getElem?_cons_zero] at z0 z1 z2 z3 z4
  refine (callsIn_wide (n := 4)).1 ?_
  refine callsIn_of_wp_marks Try.func8 rfl trivial ?_ rfl
  simp only [Try.ntmps8, List.size_toArray, List.length_cons, List.length_nil, Nat.reduceAdd, Nat.reduceSub, Array.replicate_succ, Array.replicate_zero, List.push_toArray, List.append_toArray, List.nil_append, List.cons_append]
  gi_wp2_with fail
  refine ⟨trivial, (callsIn_wide.2 (HVG.out _ HB0.out)).mono ?_⟩
  rintro e w1 ⟨⟨r1, rfl, hr1⟩, hb1⟩
  have HA1 := hide (HA0.out.below hb1)
  have HB1 : Hid (Below w.heap.size w w1) := HB0.out.trans (hb1.mono HB0.out.size)
  have HR1 := hide hr1
  clear hb1 hr1 HA0 HB0 HW HVG z0 z1 z2 z3 z4 hW0
  cases r1 with
  | false =>
    have HNO : Hid (¬ RcOk g F) := fun h => by have := HR1.out.2 h.gr; cases this
    gi_wp2
    refine ⟨trivial, ?_⟩
    gi_wp2
    refine ⟨_, results_tmp2 rfl _ _ _, ?_⟩
    rw [rcF_no HNO.out, rcC_no HNO.out]
    exact ⟨_, [], rfl, ⟨none, 0, 0, 0, rfl, (fun h => absurd h (by decide)), rfl, fun j hj => absurd hj (Nat.not_lt_zero _)⟩, Fr.nil _ _, HB1.out⟩
  | true =>
  have HOK := hide (HR1.out.1 rfl)
  have z0 := HA1.out.cell 0
  have z1 := HA1.out.cell 1
  have z2 := HA1.out.cell 2
  have z3 := HA1.out.cell 3
  have z4 := HA1.out.cell 4
  simp only [List.getElem?_toArray, List.getElem?_cons_succ, List.getElem?_cons_zero] at z0 z1 z2 z3 z4
  clear HR1
  by_cases q1 : g.n < (F.length : Int)
  · have t1 : decide (g.n < (F.length : Int)) = true := decide_eq_true q1
    have HNO : Hid (¬ RcOk g F) := fun h => by have := h.len; omega
    gi_wp2
    refine ⟨trivial, ?_⟩
    gi_wp2
    refine ⟨_, results_tmp2 rfl _ _ _, ?_⟩
    rw [rcF_no HNO.out, rcC_no HNO.out]
    exact ⟨_, [], rfl, ⟨none, 0, 0, 0, rfl, (fun h => absurd h (by decide)), rfl, fun j hj => absurd hj (Nat.not_lt_zero _)⟩, Fr.nil _ _, HB1.out⟩
  have t1 : decide (g.n < (F.length : Int)) = false := decide_eq_false q1
  have hg0 := HOK.out.n0
  have hg1 := HOK.out.n1
  have hwn : IntKind.i64.wrap (g.n - 1) = g.n - 1 := by rw [IntKind.wrap_i64]; omega
  gi_wp2_with fail
  refine ⟨trivial, (callsIn_wide.2 (HAW.out 0 (g.n - 1) _ HB1.out)).mono ?_⟩
  rintro e w2 ⟨⟨r2, rfl, hr2⟩, hb2⟩
  have HA2 := hide (HA1.out.below hb2)
  have HB2 : Hid (Below w.heap.size w w2) := HB1.out.trans (hb2.mono HB1.out.size)
  have HR2 := hide hr2
  clear hb2 hr2 HA1 HB1 z0 z1 z2 z3 z4 t1 HAW
  cases r2 with
  | false =>
    have HNO : Hid (¬ RcOk g F) := fun h => by
      have : false = true := HR2.out.2 fun i hi => by have := h.all i hi; constructor <;> omega
      cases this
    gi_wp2
    refine ⟨_, results_tmp2 rfl _ _ _, ?_⟩
    rw [rcF_no HNO.out, rcC_no HNO.out]
    exact ⟨_, [], rfl, ⟨none, 0, 0, 0, rfl, (fun h => absurd h (by decide)), rfl, fun j hj => absurd hj (Nat.not_lt_zero _)⟩, Fr.nil _ _, HB2.out⟩
  | true =>
  have HYES : Hid (RcOk g F) := ⟨HOK.out, by omega, fun j hj => by have := HR2.out.1 rfl j hj; omega⟩
  obtain ⟨n, hn⟩ : ∃ n : Nat, g.n = n := ⟨g.n.toNat, by omega⟩
  have HNN := hide hn
  have hnb : n ≤ 1600 := by omega
  have z0 := HA2.out.cell 0
  simp only [List.getElem?_toArray, List.getElem?_cons_zero] at z0
  rw [hn] at z0
  have hmk := run_make_row' (P := Try.prog) 26 4 (.bool false) 1 Try.underlying26 Try.infoV rfl .i64 .i64 n (by omega) (by omega) w2
  obtain ⟨B, hB⟩ : ∃ k, w2.heap.size = k := ⟨_, rfl⟩
  obtain ⟨A1, hA1⟩ : ∃ A, w2.alloc (.cells (madeCells #[.bool false] n) 4) = A := ⟨_, rfl⟩
  obtain ⟨RX, hRX⟩ : ∃ k, A1.heap.size = k := ⟨_, rfl⟩
  obtain ⟨A2, hA2⟩ : ∃ A, A1.alloc (.cells #[.slice (some ⟨B, 0, none⟩) n n] 26) = A := ⟨_, rfl⟩
  obtain ⟨RW, hRW⟩ : ∃ k, A2.heap.size = k := ⟨_, rfl⟩
  obtain ⟨A3, hA3⟩ : ∃ A, A2.alloc (.cells #[.slice none 0 0] 45) = A := ⟨_, rfl⟩
  obtain ⟨MB, hMB⟩ : ∃ k, A3.heap.size = k := ⟨_, rfl⟩
  obtain ⟨A4, hA4⟩ : ∃ A, A3.alloc (.cells #[.nilFunc] 47) = A := ⟨_, rfl⟩
  have s1 : RX = B + 1 := by rw [← hRX, ← hA1, World.size_alloc, hB]
  have s2 : RW = B + 2 := by rw [← hRW, ← hA2, World.size_alloc, hRX, s1]
  have s3 : MB = B + 3 := by rw [← hMB, ← hA3, World.size_alloc, hRW, s2]
  have s4 : A4.heap.size = B + 4 := by rw [← hA4, World.size_alloc, hMB, s3]
  have b1 : Below w2.heap.size w2 A1 := by rw [← hA1]; exact (Below.refl _ _).alloc (Nat.le_refl _) _
  have b2 : Below A1.heap.size A1 A2 := by rw [← hA2]; exact (Below.refl _ _).alloc (Nat.le_refl _) _
  have b3 : Below A2.heap.size A2 A3 := by rw [← hA3]; exact (Below.refl _ _).alloc (Nat.le_refl _) _
  have b4 : Below A3.heap.size A3 A4 := by rw [← hA4]; exact (Below.refl _ _).alloc (Nat.le_refl _) _
  have r1 : A1.rowIs B 4 n (fun _ => .bool false) := by rw [← hA1, ← hB]; exact World.rowIs_made w2 (.bool false) n 4
  have x2 : Boxed A2 RX 26 (.slice (some ⟨B, 0, none⟩) n n) := by rw [← hA2, ← hRX]; exact Boxed.new _ _ _
  have x3 : Boxed A3 RW 45 (.slice none 0 0) := by rw [← hA3, ← hRW]; exact Boxed.new _ _ _
  have x4 : Boxed A4 MB 47 .nilFunc := by rw [← hA4, ← hMB]; exact Boxed.new _ _ _
  have b14 : Below w2.heap.size w2 A4 := b1.trans ((b2.trans ((b3.trans (b4.mono b3.size)).mono b2.size)).mono b1.size)
  have r4 := row_kept r1 (b2.trans ((b3.trans (b4.mono b3.size)).mono b2.size))
  have y2 : Boxed A4 RX 26 (.slice (some ⟨B, 0, none⟩) n n) := by rw [← hA4, ← hA3]; exact (x2.alloc _).alloc _
  have y3 : Boxed A4 RW 45 (.slice none 0 0) := by rw [← hA4]; exact x3.alloc _
  have f4 := x4.cell
  have f5 := x4.frozen
  obtain ⟨A5, hA5⟩ : ∃ A, A4.setCell ⟨MB, 0, none⟩ (.func (.func 22) #[] #[.pointer (some ⟨RX, 0, none⟩), .pointer (some ⟨RW, 0, none⟩)]) = A := ⟨_, rfl⟩
  have m5 : Boxed A5 MB 47 (.func (.func 22) #[] #[.pointer (some ⟨RX, 0, none⟩), .pointer (some ⟨RW, 0, none⟩)]) := by rw [← hA5]; exact x4.set _
  have hwB : w.heap.size < B := by rw [← hB]; exact HA2.out.lt
  have g5 : Blk A5 w.heap.size 29 #[.int .i64 g.n, .slice a1 g.start.length c1, .slice a2 g.to.length c2, .slice a3 g.dir.length c3, .slice a4 g.cost.length c4] := by
    rw [← hA5]; exact (HA2.out.below b14).other _ _ (by omega)
  have l5 : Below w.heap.size w A5 := by rw [← hA5]; exact (HB2.out.trans (b14.mono HB2.out.size)).setCell (by show w.heap.size ≤ MB; omega) _
  have z5 : A5.heap.size = B + 4 := by rw [← hA5, World.size_setCell, s4]
  have t5 : Wt RX RW B (B + 4) n (fun _ => false) [] A5 := by
    refine ⟨?_, ?_, ⟨_, ?_, IOw.nil _ _⟩, by rw [z5]; exact Nat.le_refl _⟩
    · rw [← hA5]; exact (Below.heap_setCell _ _ _ _ (by show RX ≠ MB; omega)).trans y2
    · rw [← hA5]; exact row_same r4 (Below.heap_setCell _ _ _ _ (by show B ≠ MB; omega))
    · rw [← hA5]; exact (Below.heap_setCell _ _ _ _ (by show RW ≠ MB; omega)).trans y3
  have m5c := m5.cell
  have HNUM := hide (And.intro s1 (And.intro s2 (And.intro s3 hwB)))
  have HZ5 := hide z5
  have HM5 := hide m5
  have HG5 := hide g5
  have HL5 := hide l5
  have HT5 := hide t5
  clear hn hwn q1 hg0 hg1 HR2 s1 s2 s3 s4 b1 b2 b3 b4 b14 r1 r4 x2 x3 x4 y2 y3 m5 g5 l5 z5 t5 hwB
  gi_wp2_with fail
  have HFI : Hid (∀ y ∈ F, 0 ≤ y ∧ y < (n : Int)) := fun y hy => by
    have h1 := (rc_in HYES.out).bb y hy
    have h2 := HNN.out
    omega
  refine ⟨trivial, (callsIn_wide.2 (meet_any RX RW B (B + 4) n (fun _ => false) [] F (.slice au F.length cu) w A5 hnb (by have h1 := HYES.out.len; have h2 := HNN.out; omega) (fun j hj => HFI.out _ (getD_mem hj)) (by have := HNUM.out; omega) (by have := HNUM.out; omega) (by have := HNUM.out; omega) (by have := HNUM.out; omega) (by have := HNUM.out; omega) (by omega) (by have := HNUM.out; omega) (by have := HNUM.out; omega) (by have := HNUM.out; omega) HL5.out HU.out HT5.out (by rw [cntF_false]; show n + 0 ≤ _; omega))).mono ?_⟩
  rintro e W6 ⟨⟨v6, rfl⟩, M6, L6, hw6, p1, p2, p3, p4, p5, p6, hc6⟩
  have hb6 : Below w.heap.size A5 W6 := hc6.below (fun k hk => by
    have h1 := HNUM.out
    rcases List.mem_cons.1 hk with e | hk
    · omega
    · have := List.mem_singleton.1 hk; omega) (by have := HNUM.out; omega)
  have HR6 := hide (rel_first (g := g) (w0 := w) HFI.out hw6 p2 p3 p5 p6 (HL5.out.trans hb6))
  have hm6 := hc6.typ MB _ _ (by have h1 := HNUM.out; intro hk; rcases List.mem_cons.1 hk with e | hk; · omega
                                 · have := List.mem_singleton.1 hk; omega) (by decide) HM5.out
  have hg6 := hc6.typ w.heap.size _ _ (by have h1 := HNUM.out; intro hk; rcases List.mem_cons.1 hk with e | hk; · omega
                                          · have := List.mem_singleton.1 hk; omega) (by decide) HG5.out
  have HM6 := hide hm6
  have HG6 := hide hg6
  have HZ6 : Hid (B + 4 ≤ W6.heap.size) := hw6.gz
  clear hm6 hg6 hb6 hc6 hw6 p1 p2 p3 p4 p5 p6 HM5 HG5 HT5 HL5 HZ5 m5c hA5 hA4 hA3 hA2 hA1 f4 f5 hMB hRW hRX hB hmk z0 HA2 HB2
  gi_wp2_with fail
  refine ⟨trivial, (callsIn_wide.2 (rest_any RW W6)).mono ?_⟩
  rintro e W7 ⟨rfl, hr7, hb7⟩
  obtain ⟨RR, hRR⟩ : ∃ k, W6.heap.size = k := ⟨_, rfl⟩
  rw [hRR] at hr7 hb7 ⊢
  have HB7 : Hid (Bx w.heap.size MB RR RX RW #[.int .i64 g.n, .slice a1 g.start.length c1, .slice a2 g.to.length c2, .slice a3 g.dir.length c3, .slice a4 g.cost.length c4] W7) := ⟨HG6.out.below (hRR ▸ hb7), Blk.below HM6.out (hRR ▸ hb7), hr7⟩
  have HR7 := hide (HR6.out.below (hRR ▸ hb7))
  have HZ7 : Hid (B + 4 ≤ RR ∧ RR < W7.heap.size) := ⟨hRR ▸ HZ6.out, Blk.lt hr7⟩
  clear hr7 hb7 hRR HR6 HM6 HG6 HZ6
  gi_wp2_with fail
  have HW7 : Hid (w.heap.size ≤ W7.heap.size) := HR7.out.bel.size
  refine wpIn_rangeFunc_row rfl (by omega) (gf := 29) (lb := #[.pointer (some ⟨RR, 0, none⟩)]) rfl trivial (enters_of Try.func29 (by kernel_rfl) rfl) (α := Int) (enc := fun x => .int .i64 x) rfl
    (fun W => (∃ M L, Rel g F RX RW B (B + 4) n w none M L W) ∧ Bx w.heap.size MB RR RX RW #[.int .i64 g.n, .slice a1 g.start.length c1, .slice a2 g.to.length c2, .slice a3 g.dir.length c3, .slice a4 g.cost.length c4] W) (fun W => ∃ M, Rel g F RX RW B (B + 4) n w none M [] W)
    (fun x W => (∃ M L, Rel g F RX RW B (B + 4) n w (some x) M L W) ∧ Bx w.heap.size MB RR RX RW #[.int .i64 g.n, .slice a1 g.start.length c1, .slice a2 g.to.length c2, .slice a3 g.dir.length c3, .slice a4 g.cost.length c4] W)
    (fun W => muW B RW W n) (fun hl => muW_put (by have h1 := HNUM.out; have h2 := HZ7.out; omega) (by have h1 := HNUM.out; have h2 := HZ7.out; omega) n)
    (fun hl hk ho h => by obtain ⟨⟨M, L, h1⟩, h2⟩ := h; exact ⟨⟨M, L, h1.putObj (Nat.le_trans HW7.out hl) hk ho⟩, h2.putObj hk ho⟩)
    (fun hl hk ho h => by obtain ⟨⟨M, L, h1⟩, h2⟩ := h; exact ⟨⟨M, L, h1.putObj (Nat.le_trans HW7.out hl) hk ho⟩, h2.putObj hk ho⟩)
    (fun hl hk ho h => by obtain ⟨M, h1⟩ := h; exact ⟨M, h1.putObj (Nat.le_trans HW7.out hl) hk ho⟩)
    (fun W o h => by obtain ⟨⟨M, L, h1⟩, h2⟩ := h; exact ⟨⟨M, L, h1.alloc o⟩, h2.alloc o⟩)
    ⟨⟨M6, L6, HR7.out⟩, HB7.out⟩ ?seq
    (fun x : Int => { tmps := #[.agg #[.int .i64 g.n, .slice a1 g.start.length c1, .slice a2 g.to.length c2, .slice a3 g.dir.length c3, .slice a4 g.cost.length c4], .slice au F.length cu, .pointer (some ⟨w.heap.size, 0, none⟩), undef, .slice none 0 0, .int .i64 0, .pointer (some ⟨RX, 0, none⟩), .pointer (some ⟨RW, 0, none⟩), .pointer (some ⟨MB, 0, none⟩), .int .i64 x, .agg #[.int .i64 g.n, .slice a1 g.start.length c1, .slice a2 g.to.length c2, .slice a3 g.dir.length c3, .slice a4 g.cost.length c4], .bool true, .bool false, .bool false, .slice au F.length cu, .int .i64 F.length, .pointer (some ⟨w.heap.size, 0, none⟩), .int .i64 g.n, .bool false, .bool false, .bool false, .slice au F.length cu, .pointer (some ⟨w.heap.size, 0, none⟩), .int .i64 g.n, .int .i64 (g.n - 1), .bool true, .bool false, .bool false, .pointer (some ⟨w.heap.size, 0, none⟩), .int .i64 n, .slice (some ⟨B, 0, none⟩) n n, .func (.func 22) #[] #[.pointer (some ⟨RX, 0, none⟩), .pointer (some ⟨RW, 0, none⟩)], .func (.func 22) #[] #[.pointer (some ⟨RX, 0, none⟩), .pointer (some ⟨RW, 0, none⟩)], .slice au F.length cu, v6, .func (.func 29) #[] #[.pointer (some ⟨RR, 0, none⟩)], .int .i64 x, undef, undef, undef, undef, undef, undef], defers := [] }) ?assign ?body ?done
  case seq =>
    intro l Rd W hz hRd hY h0 hr
    have hnum := HNUM.out
    have hz7 := HZ7.out
    refine (rest1_in (4 - 1) (by omega) l g F RX RW B (B + 4) n RR w (Bx w.heap.size MB RR RX RW #[.int .i64 g.n, .slice a1 g.start.length c1, .slice a2 g.to.length c2, .slice a3 g.dir.length c3, .slice a4 g.cost.length c4]) Rd W hnb (by omega) (by omega) (by omega) (by omega) (by omega) (by omega) (by omega) (fun A A' hj hc => hj.chg hc (by rw [List.mem_singleton]; omega) (by rw [List.mem_singleton]; omega) (by rw [List.mem_singleton]; omega)) (fun A hj => hj.r) (fun h k => hRd h (k.from _)) (fun x W1 h1 hj h2 => ?_) h0.1 h0.2 hr).mono ?_
    · obtain ⟨fn, tmps, assign, body, hy, hR⟩ := hY x W1 ⟨h1, hj⟩ h2
      refine ⟨fn, tmps, assign, body, hy, hR.mono ?_⟩
      rintro e W' ⟨he, ⟨⟨M, L, h3⟩, h4⟩, h5, h6⟩
      exact ⟨he, ⟨M, L, h3, h5⟩, h4, h6⟩
    · rintro e W' ⟨h1, h2, h3, h4⟩
      exact ⟨h1, h2, h4⟩
  case assign =>
    intro l x W K hK
    gi_wp2
    exact hK
  case body =>
    rintro l x W ⟨⟨M, L, hR⟩, hB⟩
    have hx := hR.xin x rfl
    obtain ⟨c, rfl⟩ : ∃ c : Nat, x = c := ⟨x.toNat, by omega⟩
    have HC : Hid (c < g.n.toNat) := by show _ < _; have h1 := HNN.out; omega
    have HMT := hide (fun u w5 (hb : Below W.heap.size W w5) (hu : IS w u (nxt g c)) => round_meet g F RX RW B n w w.heap.size MB RR #[.int .i64 g.n, .slice a1 g.start.length c1, .slice a2 g.to.length c2, .slice a3 g.dir.length c3, .slice a4 g.cost.length c4] c M L W HOK.out HNN.out hnb HNUM.out rfl HZ7.out.1 hR hB u w5 hb hu)
    have HBW := hide hR.bel
    have zm := hB.m.cell
    have z0 := hB.g.cell 0
    have z1 := hB.g.cell 1
    have z2 := hB.g.cell 2
    have z3 := hB.g.cell 3
    have z4 := hB.g.cell 4
    simp only [List.getElem?_toArray, List.getElem?_cons_succ, List.getElem?_cons_zero] at z0 z1 z2 z3 z4
    clear hx hR hB
    have hmx : Try.prog.follows .mixedOrders = true := by kernel_rfl
    gi_wp2_with fail
    gi_region_with_o (first
      | (refine ⟨trivial, ?_⟩; gi_at_call 25; refine (CallsIn.inRound l (callsIn_wide.2 (HNX.out c _ (below_drewN HBW.out _) HOK.out HC.out))).mono ?_; rintro e w5 ⟨v5, rfl, hi5, hb5⟩; obtain ⟨s5, k5, rfl⟩ := hi5.slice; have HI5 := hide hi5; have HB5 : Hid (Below W.heap.size W w5) := (below_drewN (Below.refl _ W) _).trans hb5; have zm5 := cell_kept zm HB5.out; clear hi5 hb5)
      | (refine ⟨trivial, ?_⟩; gi_at_call 22; refine (CallsIn.inRound l (callsIn_wide.2 (HMT.out _ _ HB5.out HI5.out))).mono ?_; rintro e w6 ⟨⟨v7, rfl⟩, hk6⟩; have HK6 := hide hk6; clear hk6))
    all_goals gi_wp2
    all_goals exact HK6.out _
  case done =>
    rintro D W hD ⟨M, hR⟩ hK
    have xc := hR.wt.rx.cell
    have HR := hide hR
    have HKD := hide hK
    clear hR hK
    gi_wp2
    refine ⟨by simp, .inl ⟨_, _, rfl, run_takeDeferred HKD.out, ?_⟩⟩
    refine ⟨_, results_tmp2 rfl _ _ _, ?_⟩
    have hQ := HR.out.putObj (o' := .deferred none) (Nat.le_trans HW7.out hD) HKD.out rfl
    obtain ⟨bl, hv, hf⟩ := rel_end HOK.out HNN.out hQ (by have := HNUM.out; omega) (by have := hQ.wt.gz; omega)
    rw [rcF_yes HYES.out, rcC_yes HYES.out, show g.n.toNat = n from by have := HNN.out; omega]
    exact ⟨_, bl, rfl, hv, hf, hQ.bel⟩
end Go.Proofs.Ytonhehndoifipab
