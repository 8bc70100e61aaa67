/-
  The walk of spec.l5edges.
-/
import Derived.Test.YtonhehndoifipabJReachEDs
import Derived.BigQuiet
import Derived.Deep.QuietTactic
import Derived.Deep.RegionHeld3
namespace Go.Proofs.Ytonhehndoifipab
open Go.RowKit

set_option maxHeartbeats 4000000 in
set_option maxRecDepth 1000000 in
theorem l5edges_any (g : Gr) (v1 v2 v3 v4 : Value) (w : World) (hok : GrOk g) (h : GrV w g v1 v2 v3 v4) :
    Calls Try.prog 19 #[gragg g v1 v2 v3 v4] w fun e w' => ∃ v, e = .returned v ∧ EdS w' v (eds g) ∧ Below w.heap.size w w' := by
  have HOK := hide hok
  obtain ⟨a1, b1, o1, c1, rfl, ha1, hc1⟩ := h.start
  obtain ⟨a2, b2, o2, c2, rfl, ha2, hc2⟩ := h.to
  obtain ⟨a3, b3, o3, c3, rfl, ha3, hc3⟩ := h.dir
  obtain ⟨a4, b4, o4, c4, rfl, ha4, hc4⟩ := h.cost
  have HC1 : Hid (∀ w2, Below w.heap.size w w2 → ∀ j, j < g.start.length → w2.cell? ⟨b1, o1 + j, none⟩ = some (.int .i64 (g.start.getD j 0))) := fun w2 h2 j hj => cell_kept (hc1 j hj) h2
  have HC2 : Hid (∀ w2, Below w.heap.size w w2 → ∀ j, j < g.to.length → w2.cell? ⟨b2, o2 + j, none⟩ = some (.int .i64 (g.to.getD j 0))) := fun w2 h2 j hj => cell_kept (hc2 j hj) h2
  have HC3 : Hid (∀ w2, Below w.heap.size w w2 → ∀ j, j < g.dir.length → w2.cell? ⟨b3, o3 + j, none⟩ = some (.int .i64 (g.dir.getD j 0))) := fun w2 h2 j hj => cell_kept (hc3 j hj) h2
  have HC4 : Hid (∀ w2, Below w.heap.size w w2 → ∀ j, j < g.cost.length → w2.cell? ⟨b4, o4 + j, none⟩ = some (.int .i64 (g.cost.getD j 0))) := fun w2 h2 j hj => cell_kept (hc4 j hj) h2
  have hn0 := hok.n0
  have hn1 := hok.n1
  have hlen := hok.len
  have hmost := hok.most
  have htos := hok.tos
  have hdirs := hok.dirs
  have hcosts := hok.costs
  obtain ⟨n, hn⟩ : ∃ n : Nat, g.n = n := ⟨g.n.toNat, by omega⟩
  have hnt : g.n.toNat = n := by rw [hn, Int.toNat_natCast]
  rw [hnt] at hmost htos hdirs hcosts
  obtain ⟨m, hm⟩ : ∃ m : Nat, g.to.length = m := ⟨_, rfl⟩
  have HLN : Hid (g.start.length = n + 1) := by show _ = _; omega
  have HL2 := hide hm
  have HL3 : Hid (g.dir.length = m) := by show _ = _; omega
  have HL4 : Hid (g.cost.length = m) := by show _ = _; omega
  have hmb : m ≤ 6400 := by omega
  have HEND : Hid (g.start.getD n 0 = (m : Int)) := by show _ = _; omega
  have HPOS : Hid (∀ c, c ≤ n → 0 ≤ g.start.getD c 0 ∧ g.start.getD c 0 ≤ (m : Int)) := fun c hc => by
    have h1 := start_le HOK.out 0 c (by omega) (by omega)
    have h2 := start_le HOK.out c n hc (by omega)
    rw [HOK.out.first] at h1
    rw [HEND.out] at h2
    exact ⟨h1, h2⟩
  have HMON : Hid (∀ c, c < n → g.start.getD c 0 ≤ g.start.getD (c + 1) 0) := fun c hc => HOK.out.grow c (by omega)
  have HSRC : Hid (∀ c e : Nat, c < n → g.start.getD c 0 ≤ (e : Int) → (e : Int) < g.start.getD (c + 1) 0 → edAt g e = ⟨c, g.to.getD e 0, g.dir.getD e 0, g.cost.getD e 0⟩) := fun c e hc h0 h1 => by
    unfold edAt
    rw [edAt_src HOK.out (by omega) h0 h1]
  have HNN := hide hn
  unfold gragg
  rw [hn]
  obtain ⟨W0, hW0⟩ : ∃ W, w.alloc (.cells #[.int .i64 (n : Nat), .slice a1 g.start.length c1, .slice a2 g.to.length c2, .slice a3 g.dir.length c3, .slice a4 g.cost.length c4] 29) = W := ⟨_, rfl⟩
  have hB0 : Below w.heap.size w W0 := by rw [← hW0]; exact (Below.refl _ _).alloc (Nat.le_refl _) _
  have hA0 : Blk W0 w.heap.size 29 #[.int .i64 (n : Nat), .slice a1 g.start.length c1, .slice a2 g.to.length c2, .slice a3 g.dir.length c3, .slice a4 g.cost.length c4] := by rw [← hW0]; exact Blk.new _ _ _
  have HB0 := hide hB0
  have HA0 := hide hA0
  obtain ⟨G, hG⟩ : ∃ G, W0.heap.size = G := ⟨_, rfl⟩
  have HG := hide hG
  have hlb : g.start.length ≤ 100000 := by have := HLN.out; omega
  clear hB0 hA0 hc1 hc2 hc3 hc4 h hok hn hnt hlen hmost htos hdirs hcosts hm hG hn0 hn1
  have hnb : n ≤ 1600 := by have h1 := HOK.out.n1; have h2 := HNN.out; omega
  have hn0 : 1 ≤ n := by have h1 := HOK.out.n0; have h2 := HNN.out; omega
  go_enter Try.func19, Try.ntmps19
  go_wp2
  clear hW0
  go_loopw [3, 4] (fun out cx wr => ∃ c k : Nat, c ≤ n ∧ cx = .int .i64 c ∧ g.start.getD c 0 = (k : Int) ∧ EsOw wr G out (edsTo g k) ∧ Below G W0 wr) (fun _ cx _ => n - (intOf cx).toNat)
  case atStart => exact ⟨0, 0, Nat.zero_le _, rfl, HOK.out.first, EsOw.nil _ _, Below.refl _ _⟩
  case round =>
    obtain ⟨c, k, hc, rfl, hk, hown, hbg⟩ := hrel
    have HK := hide hk
    have HBG := hide hbg
    have HOW := hide hown
    have hbg' : Below W0.heap.size W0 wr := by rw [HG.out]; exact hbg
    have hbk := HA0.out.below hbg'
    have z0 := hbk.cell 0
    have z1 := hbk.cell 1
    simp only [List.getElem?_toArray, List.getElem?_cons_succ, List.getElem?_cons_zero] at z0 z1
    by_cases hlt : c < n
    · have hlti : (c : Int) < (n : Int) := by omega
      obtain rfl := ha1 (by have := HLN.out; omega)
      have hbl : Below w.heap.size w wr := HB0.out.trans (hbg'.mono HB0.out.size)
      have f0 := HC1.out _ hbl c (by have := HLN.out; omega)
      rw [hk] at f0
      have hcl : (c : Int) < (g.start.length : Int) := by have := HLN.out; omega
      clear hk hown hbg hbg' hbk hbl
      go_wp2
      clear z0 z1 f0
      rename World => wo
      go_loopw [3, 5] (fun out ex wr => ∃ e : Nat, g.start.getD c 0 ≤ (e : Int) ∧ (e : Int) ≤ g.start.getD (c + 1) 0 ∧ ex = .int .i64 e ∧ EsOw wr G out (edsTo g e) ∧ Below G W0 wr) (fun _ ex _ => (g.start.getD (c + 1) 0).toNat - (intOf ex).toNat)
      case atStart => exact ⟨k, by rw [HK.out]; exact Int.le_refl _, by rw [← HK.out]; exact HMON.out c hlt, rfl, HOW.out, HBG.out⟩
      case round =>
        clear HOW HBG HK
        obtain ⟨e, he0, he1, rfl, hown, hbg⟩ := hrel
        have HE0 := hide he0
        have HOW := hide hown
        have HBG := hide hbg
        have hbg' : Below W0.heap.size W0 wr := by rw [HG.out]; exact hbg
        have hGz : G ≤ wr.heap.size := by have := hbg'.size; rw [HG.out] at this; exact this
        have hbk := HA0.out.below hbg'
        have hbl : Below w.heap.size w wr := HB0.out.trans (hbg'.mono HB0.out.size)
        have z1 := hbk.cell 1
        have z2 := hbk.cell 2
        have z3 := hbk.cell 3
        have z4 := hbk.cell 4
        simp only [List.getElem?_toArray, List.getElem?_cons_succ, List.getElem?_cons_zero] at z1 z2 z3 z4
        have f1 := HC1.out _ hbl (c + 1) (by have := HLN.out; omega)
        have hcl1 : (c : Int) + 1 < (g.start.length : Int) := by have := HLN.out; omega
        have hp1 := (HPOS.out (c + 1) (by omega)).2
        obtain ⟨y, hy⟩ : ∃ y, g.start.getD (c + 1) 0 = y := ⟨_, rfl⟩
        have HY := hide hy
        rw [hy] at f1 he1 hp1
        by_cases hle : (e : Int) < y
        · have hlei : decide ((e : Int) < y) = true := decide_eq_true hle
          have hem : e < m := by omega
          obtain rfl := ha2 (by have := HL2.out; omega)
          obtain rfl := ha3 (by have := HL3.out; omega)
          obtain rfl := ha4 (by have := HL4.out; omega)
          have e2 := HC2.out _ hbl e (by have := HL2.out; omega)
          have e3 := HC3.out _ hbl e (by have := HL3.out; omega)
          have e4 := HC4.out _ hbl e (by have := HL4.out; omega)
          have l2 : (e : Int) < (g.to.length : Int) := by have := HL2.out; omega
          have l3 : (e : Int) < (g.dir.length : Int) := by have := HL3.out; omega
          have l4 : (e : Int) < (g.cost.length : Int) := by have := HL4.out; omega
          have HED := hide (HSRC.out c e hlt he0 (by rw [hy]; exact hle))
          obtain ⟨y2, hy2⟩ : ∃ y, g.to.getD e 0 = y := ⟨_, rfl⟩
          obtain ⟨y3, hy3⟩ : ∃ y, g.dir.getD e 0 = y := ⟨_, rfl⟩
          obtain ⟨y4, hy4⟩ : ∃ y, g.cost.getD e 0 = y := ⟨_, rfl⟩
          rw [hy2] at e2 HED
          rw [hy3] at e3 HED
          rw [hy4] at e4 HED
          have hel := edsTo_length g e
          have HCL : Hid (∀ W, Below G W0 W → W.cell? ⟨w.heap.size, 2, none⟩ = some (.slice (some ⟨b2, o2, none⟩) g.to.length c2) ∧ W.cell? ⟨w.heap.size, 3, none⟩ = some (.slice (some ⟨b3, o3, none⟩) g.dir.length c3) ∧ W.cell? ⟨w.heap.size, 4, none⟩ = some (.slice (some ⟨b4, o4, none⟩) g.cost.length c4) ∧ W.cell? ⟨b2, o2 + e, none⟩ = some (.int .i64 y2) ∧ W.cell? ⟨b3, o3 + e, none⟩ = some (.int .i64 y3) ∧ W.cell? ⟨b4, o4 + e, none⟩ = some (.int .i64 y4)) := fun W hW => by
            have h1 : Below W0.heap.size W0 W := by rw [HG.out]; exact hW
            have h2 := HA0.out.below h1
            have h3 : Below w.heap.size w W := HB0.out.trans (h1.mono HB0.out.size)
            refine ⟨h2.cell 2, h2.cell 3, h2.cell 4, ?_, ?_, ?_⟩
            · rw [← hy2]; exact HC2.out W h3 e (by have := HL2.out; omega)
            · rw [← hy3]; exact HC3.out W h3 e (by have := HL3.out; omega)
            · rw [← hy4]; exact HC4.out W h3 e (by have := HL4.out; omega)
          have HA1 : Hid (Below G W0 (wr.alloc (.cells #[.int .i64 (c : Nat), .int .i64 y2, .int .i64 y3, .int .i64 y4] 53)).drew) := (hbg.alloc hGz _).drew
          have HO1 : Hid (EsOw (wr.alloc (.cells #[.int .i64 (c : Nat), .int .i64 y2, .int .i64 y3, .int .i64 y4] 53)).drew G u3 (edsTo g e)) := hown.kept (((Below.refl _ _).alloc (Nat.le_refl _) _).drew)
          have HG1 : Hid (G ≤ (wr.alloc (.cells #[.int .i64 (c : Nat), .int .i64 y2, .int .i64 y3, .int .i64 y4] 53)).drew.heap.size) := by
            show G ≤ (wr.alloc _).heap.size
            rw [World.size_alloc]; omega
          have HNW : Hid (∀ i, i < 4 → (wr.alloc (.cells #[.int .i64 (c : Nat), .int .i64 y2, .int .i64 y3, .int .i64 y4] 53)).drew.cell? ⟨wr.heap.size, i, none⟩ = (edc ⟨c, y2, y3, y4⟩)[i]?) := fun i hi => by
            have h1 := (Blk.new wr 53 #[.int .i64 (c : Nat), .int .i64 y2, .int .i64 y3, .int .i64 y4]).cell i
            rw [List.getElem?_toArray] at h1
            exact h1
          have hlel : (edsTo g e).length ≤ 10000000 := by omega
          clear hown hbg hbg' hbk hbl he0 hy hy2 hy3 hy4 z2 z3 z4 e2 e3 e4
          go_wp2_with fail
          refine wp_region_held_drew (S := fun w' => Hid (Below G W0 w')) (by kernel_rfl) HBG.out.drew (fun hHeld => ?_)
          refine wpAnyH_take (i := 0) (oi := { dst := some 27, op := Op.move (Operand.tmp 3), type := 41, pos := "l5_graph.go:39", after := #[], guard := none }) (v := u3) rfl (by kernel_rfl) (by kernel_rfl) (by kernel_rfl) (fun _ _ _ h => h) (Or.inl ⟨by rfl, ?_⟩) hHeld ?_
          · intro W hSW
            clear hHeld hSW
            go_simp
          try simp only [Act.put, List.setIfInBounds_toArray, List.set_cons_zero, List.set_cons_succ]
          refine wpAnyH_take (i := 1) (oi := { dst := some 28, op := Op.move (Operand.tmp 4), type := 3, pos := "l5_graph.go:39", after := #[], guard := none }) (v := .int .i64 (c : Nat)) rfl (by kernel_rfl) (by kernel_rfl) (by kernel_rfl) (fun _ _ _ h => h) (Or.inl ⟨by rfl, ?_⟩) hHeld ?_
          · intro W hSW
            clear hHeld hSW
            go_simp
          try simp only [Act.put, List.setIfInBounds_toArray, List.set_cons_zero, List.set_cons_succ]
          refine wpAnyH_take (i := 2) (oi := { dst := some 29, op := Op.fieldAddr 29 (Operand.tmp 1) 2, type := 0, pos := "l5_graph.go:39", after := #[], guard := none }) (v := .pointer (some ⟨w.heap.size, 2, none⟩)) rfl (by kernel_rfl) (by kernel_rfl) (by kernel_rfl) (fun _ _ _ h => h) (Or.inl ⟨by rfl, ?_⟩) hHeld ?_
          · intro W hSW
            clear hHeld hSW
            go_simp
          try simp only [Act.put, List.setIfInBounds_toArray, List.set_cons_zero, List.set_cons_succ]
          refine wpAnyH_take (i := 3) (oi := { dst := some 30, op := Op.load 22 (Operand.tmp 29), type := 22, pos := "l5_graph.go:39", after := #[{ on := 2, ground := Ground.data }], guard := none }) (v := .slice (some ⟨b2, o2, none⟩) g.to.length c2) rfl (by kernel_rfl) (by kernel_rfl) (by kernel_rfl) (fun _ _ _ h => h) (Or.inl ⟨by rfl, ?_⟩) hHeld ?_
          · intro W hSW
            obtain ⟨q2, q3, q4, p2, p3, p4⟩ := HCL.out W hSW.out
            clear hHeld hSW
            go_simp
          try simp only [Act.put, List.setIfInBounds_toArray, List.set_cons_zero, List.set_cons_succ]
          refine wpAnyH_take (i := 4) (oi := { dst := some 31, op := Op.move (Operand.tmp 5), type := 3, pos := "l5_graph.go:39", after := #[], guard := none }) (v := .int .i64 (e : Nat)) rfl (by kernel_rfl) (by kernel_rfl) (by kernel_rfl) (fun _ _ _ h => h) (Or.inl ⟨by rfl, ?_⟩) hHeld ?_
          · intro W hSW
            clear hHeld hSW
            go_simp
          try simp only [Act.put, List.setIfInBounds_toArray, List.set_cons_zero, List.set_cons_succ]
          refine wpAnyH_take (i := 5) (oi := { dst := some 32, op := Op.indexAddr 22 (Operand.tmp 30) (Operand.tmp 31), type := 0, pos := "l5_graph.go:39", after := #[{ on := 3, ground := Ground.data }, { on := 4, ground := Ground.data }], guard := none }) (v := .pointer (some ⟨b2, o2 + e, none⟩)) rfl (by kernel_rfl) (by kernel_rfl) (by kernel_rfl) (fun _ _ _ h => h) (Or.inl ⟨by rfl, ?_⟩) hHeld ?_
          · intro W hSW
            clear hHeld hSW
            go_simp
          try simp only [Act.put, List.setIfInBounds_toArray, List.set_cons_zero, List.set_cons_succ]
          refine wpAnyH_take (i := 6) (oi := { dst := some 33, op := Op.load 3 (Operand.tmp 32), type := 3, pos := "l5_graph.go:39", after := #[{ on := 5, ground := Ground.data }], guard := none }) (v := .int .i64 y2) rfl (by kernel_rfl) (by kernel_rfl) (by kernel_rfl) (fun _ _ _ h => h) (Or.inl ⟨by rfl, ?_⟩) hHeld ?_
          · intro W hSW
            obtain ⟨q2, q3, q4, p2, p3, p4⟩ := HCL.out W hSW.out
            clear hHeld hSW
            go_simp
          try simp only [Act.put, List.setIfInBounds_toArray, List.set_cons_zero, List.set_cons_succ]
          refine wpAnyH_take (i := 7) (oi := { dst := some 34, op := Op.fieldAddr 29 (Operand.tmp 1) 3, type := 0, pos := "l5_graph.go:39", after := #[], guard := none }) (v := .pointer (some ⟨w.heap.size, 3, none⟩)) rfl (by kernel_rfl) (by kernel_rfl) (by kernel_rfl) (fun _ _ _ h => h) (Or.inl ⟨by rfl, ?_⟩) hHeld ?_
          · intro W hSW
            clear hHeld hSW
            go_simp
          try simp only [Act.put, List.setIfInBounds_toArray, List.set_cons_zero, List.set_cons_succ]
          refine wpAnyH_take (i := 8) (oi := { dst := some 35, op := Op.load 22 (Operand.tmp 34), type := 22, pos := "l5_graph.go:39", after := #[{ on := 7, ground := Ground.data }], guard := none }) (v := .slice (some ⟨b3, o3, none⟩) g.dir.length c3) rfl (by kernel_rfl) (by kernel_rfl) (by kernel_rfl) (fun _ _ _ h => h) (Or.inl ⟨by rfl, ?_⟩) hHeld ?_
          · intro W hSW
            obtain ⟨q2, q3, q4, p2, p3, p4⟩ := HCL.out W hSW.out
            clear hHeld hSW
            go_simp
          try simp only [Act.put, List.setIfInBounds_toArray, List.set_cons_zero, List.set_cons_succ]
          refine wpAnyH_take (i := 9) (oi := { dst := some 36, op := Op.move (Operand.tmp 5), type := 3, pos := "l5_graph.go:39", after := #[], guard := none }) (v := .int .i64 (e : Nat)) rfl (by kernel_rfl) (by kernel_rfl) (by kernel_rfl) (fun _ _ _ h => h) (Or.inl ⟨by rfl, ?_⟩) hHeld ?_
          · intro W hSW
            clear hHeld hSW
            go_simp
          try simp only [Act.put, List.setIfInBounds_toArray, List.set_cons_zero, List.set_cons_succ]
          refine wpAnyH_take (i := 10) (oi := { dst := some 37, op := Op.indexAddr 22 (Operand.tmp 35) (Operand.tmp 36), type := 0, pos := "l5_graph.go:39", after := #[{ on := 8, ground := Ground.data }, { on := 9, ground := Ground.data }], guard := none }) (v := .pointer (some ⟨b3, o3 + e, none⟩)) rfl (by kernel_rfl) (by kernel_rfl) (by kernel_rfl) (fun _ _ _ h => h) (Or.inl ⟨by rfl, ?_⟩) hHeld ?_
          · intro W hSW
            clear hHeld hSW
            go_simp
          try simp only [Act.put, List.setIfInBounds_toArray, List.set_cons_zero, List.set_cons_succ]
          refine wpAnyH_take (i := 11) (oi := { dst := some 38, op := Op.load 3 (Operand.tmp 37), type := 3, pos := "l5_graph.go:39", after := #[{ on := 10, ground := Ground.data }], guard := none }) (v := .int .i64 y3) rfl (by kernel_rfl) (by kernel_rfl) (by kernel_rfl) (fun _ _ _ h => h) (Or.inl ⟨by rfl, ?_⟩) hHeld ?_
          · intro W hSW
            obtain ⟨q2, q3, q4, p2, p3, p4⟩ := HCL.out W hSW.out
            clear hHeld hSW
            go_simp
          try simp only [Act.put, List.setIfInBounds_toArray, List.set_cons_zero, List.set_cons_succ]
          refine wpAnyH_take (i := 12) (oi := { dst := some 39, op := Op.fieldAddr 29 (Operand.tmp 1) 4, type := 0, pos := "l5_graph.go:39", after := #[], guard := none }) (v := .pointer (some ⟨w.heap.size, 4, none⟩)) rfl (by kernel_rfl) (by kernel_rfl) (by kernel_rfl) (fun _ _ _ h => h) (Or.inl ⟨by rfl, ?_⟩) hHeld ?_
          · intro W hSW
            clear hHeld hSW
            go_simp
          try simp only [Act.put, List.setIfInBounds_toArray, List.set_cons_zero, List.set_cons_succ]
          refine wpAnyH_take (i := 13) (oi := { dst := some 40, op := Op.load 22 (Operand.tmp 39), type := 22, pos := "l5_graph.go:39", after := #[{ on := 12, ground := Ground.data }], guard := none }) (v := .slice (some ⟨b4, o4, none⟩) g.cost.length c4) rfl (by kernel_rfl) (by kernel_rfl) (by kernel_rfl) (fun _ _ _ h => h) (Or.inl ⟨by rfl, ?_⟩) hHeld ?_
          · intro W hSW
            obtain ⟨q2, q3, q4, p2, p3, p4⟩ := HCL.out W hSW.out
            clear hHeld hSW
            go_simp
          try simp only [Act.put, List.setIfInBounds_toArray, List.set_cons_zero, List.set_cons_succ]
          refine wpAnyH_take (i := 14) (oi := { dst := some 41, op := Op.move (Operand.tmp 5), type := 3, pos := "l5_graph.go:39", after := #[], guard := none }) (v := .int .i64 (e : Nat)) rfl (by kernel_rfl) (by kernel_rfl) (by kernel_rfl) (fun _ _ _ h => h) (Or.inl ⟨by rfl, ?_⟩) hHeld ?_
          · intro W hSW
            clear hHeld hSW
            go_simp
          try simp only [Act.put, List.setIfInBounds_toArray, List.set_cons_zero, List.set_cons_succ]
          refine wpAnyH_take (i := 15) (oi := { dst := some 42, op := Op.indexAddr 22 (Operand.tmp 40) (Operand.tmp 41), type := 0, pos := "l5_graph.go:39", after := #[{ on := 13, ground := Ground.data }, { on := 14, ground := Ground.data }], guard := none }) (v := .pointer (some ⟨b4, o4 + e, none⟩)) rfl (by kernel_rfl) (by kernel_rfl) (by kernel_rfl) (fun _ _ _ h => h) (Or.inl ⟨by rfl, ?_⟩) hHeld ?_
          · intro W hSW
            clear hHeld hSW
            go_simp
          try simp only [Act.put, List.setIfInBounds_toArray, List.set_cons_zero, List.set_cons_succ]
          refine wpAnyH_take (i := 16) (oi := { dst := some 43, op := Op.load 3 (Operand.tmp 42), type := 3, pos := "l5_graph.go:39", after := #[{ on := 15, ground := Ground.data }], guard := none }) (v := .int .i64 y4) rfl (by kernel_rfl) (by kernel_rfl) (by kernel_rfl) (fun _ _ _ h => h) (Or.inl ⟨by rfl, ?_⟩) hHeld ?_
          · intro W hSW
            obtain ⟨q2, q3, q4, p2, p3, p4⟩ := HCL.out W hSW.out
            clear hHeld hSW
            go_simp
          try simp only [Act.put, List.setIfInBounds_toArray, List.set_cons_zero, List.set_cons_succ]
          refine wpAnyH_take (i := 17) (oi := { dst := some 44, op := Op.build 53 #[(0, Operand.tmp 28), (1, Operand.tmp 33), (2, Operand.tmp 38), (3, Operand.tmp 43)], type := 53, pos := "l5_graph.go:39", after := #[{ on := 1, ground := Ground.data }, { on := 6, ground := Ground.data }, { on := 11, ground := Ground.data }, { on := 16, ground := Ground.data }], guard := none }) (v := .agg #[.int .i64 (c : Nat), .int .i64 y2, .int .i64 y3, .int .i64 y4]) rfl (by kernel_rfl) (by kernel_rfl) (by kernel_rfl) (fun _ _ _ h => h) (Or.inl ⟨by rfl, ?_⟩) hHeld ?_
          · intro W hSW
            clear hHeld hSW
            go_simp
          try simp only [Act.put, List.setIfInBounds_toArray, List.set_cons_zero, List.set_cons_succ]
          refine wpAnyH_ready (rs := [18]) (by kernel_rfl) (by simp) ?_
          refine AllReadyH.cons (o := { dst := some 45, op := Op.buildSlice 41 1 #[(0, Operand.tmp 44)], type := 41, pos := "l5_graph.go:39", after := #[{ on := 17, ground := Ground.data }], guard := none }) rfl (fun K hK => ?_) AllReadyH.nil
          go_simp
          refine hK.out _ _ HA1.out (fun hHeld => ?_)
          clear hK K
          try simp only [Act.put, List.setIfInBounds_toArray, List.set_cons_zero, List.set_cons_succ]
          refine wpAnyH_ready (rs := [19]) (by kernel_rfl) (by simp) ?_
          refine AllReadyH.cons (o := { dst := some 46, op := Op.call { callee := Callee.builtin Builtin.append, args := #[Operand.tmp 27, Operand.tmp 45], argTypes := #[41, 41] }, type := 41, pos := "l5_graph.go:39", after := #[{ on := 0, ground := Ground.data }, { on := 18, ground := Ground.data }], guard := none }) rfl (fun K hK => ?_) AllReadyH.nil
          refine step_appEsOw rfl (.tmp 27) (.tmp 45) rfl G u3 (edsTo g e) rfl HO1.out wr.heap.size 1 ⟨c, y2, y3, y4⟩ rfl HNW.out (by omega) HG1.out ?_
          intro v8 w8 l8 hl8 ho8 hg8
          have HO8 := hide ho8
          have HB8 : Hid (Below G W0 w8) := EsOw.below HO1.out HA1.out HG1.out hg8
          have HL8 := hide hl8.out
          clear ho8 hg8 hl8
          refine hK.out _ _ HB8.out (fun hHeld => ?_)
          clear hK K
          try simp only [Act.put, List.setIfInBounds_toArray, List.set_cons_zero, List.set_cons_succ]
          refine wpAnyH_take (i := 20) (oi := { dst := some 3, op := Op.assign (Operand.tmp 46), type := 41, pos := "l5_graph.go:39", after := #[{ on := 19, ground := Ground.data }, { on := 19, ground := Ground.chain }, { on := 0, ground := Ground.phase }, { on := 1, ground := Ground.phase }, { on := 2, ground := Ground.phase }, { on := 3, ground := Ground.phase }, { on := 4, ground := Ground.phase }, { on := 5, ground := Ground.phase }, { on := 6, ground := Ground.phase }, { on := 7, ground := Ground.phase }, { on := 8, ground := Ground.phase }, { on := 9, ground := Ground.phase }, { on := 10, ground := Ground.phase }, { on := 11, ground := Ground.phase }, { on := 12, ground := Ground.phase }, { on := 13, ground := Ground.phase }, { on := 14, ground := Ground.phase }, { on := 15, ground := Ground.phase }, { on := 16, ground := Ground.phase }, { on := 17, ground := Ground.phase }, { on := 18, ground := Ground.phase }, { on := 19, ground := Ground.phase }], guard := none }) (v := v8) rfl (by kernel_rfl) (by kernel_rfl) (by kernel_rfl) (fun _ _ _ h => h) (Or.inl ⟨by rfl, ?_⟩) hHeld ?_
          · intro W hSW
            clear hHeld hSW
            go_simp
          try simp only [Act.put, List.setIfInBounds_toArray, List.set_cons_zero, List.set_cons_succ]
          refine wpAnyH_done (by kernel_rfl) ?_ _
          go_wp2
          go_roundw
          case rel =>
            refine ⟨e + 1, ?_, ?_, by go_num, ?_, HB8.out⟩
            · have := HE0.out; omega
            · rw [HY.out]; omega
            · rw [edsTo_succ, HED.out, ← HL8.out]; exact HO8.out
          case measure => rw [HY.out]; simp [intOf]; omega
        · have hlei : decide ((e : Int) < y) = false := decide_eq_false hle
          have HEQ : Hid (g.start.getD (c + 1) 0 = (e : Int)) := by show _ = _; rw [hy]; omega
          clear hown hbg hbg' hbk hbl he0 hy
          go_wp2
          go_roundw
          case rel => exact ⟨c + 1, e, by omega, by go_num, HEQ.out, HOW.out, HBG.out⟩
          case measure => simp [intOf]; omega
    · have hge : ¬ (c : Int) < (n : Int) := by omega
      have HF : Hid (EdS wr u3 (eds g)) := by
        have e1 : c = n := by omega
        have e2 : k = m := by
          have h1 := HEND.out
          rw [← e1, hk] at h1
          omega
        show EdS wr u3 (edsTo g g.to.length)
        rw [HL2.out, ← e2]
        exact hown.rd
      have HBL : Hid (Below w.heap.size w wr) := HB0.out.trans (hbg'.mono HB0.out.size)
      clear hk hown hbg hbg' hbk HOW
      go_wp2
      go_ret
      exact ⟨_, rfl, HF.out, HBL.out⟩
end Go.Proofs.Ytonhehndoifipab
