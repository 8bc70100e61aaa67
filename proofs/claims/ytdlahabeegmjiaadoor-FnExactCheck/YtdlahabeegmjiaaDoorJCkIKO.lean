/-
  The walk of impl.outline's link.
-/
import Derived.Test.YtdlahabeegmjiaaDoorJCkIKV
import Derived.Test.YtdlahabeegmjiaaDoorJCkIKG
namespace Go.Proofs.YtdlahabeegmjiaaDoor
open Go.RowKit

def kci (X : List Nat) : List Value := ci (X.map fun (k : Nat) => (k : Int))
/-- The children of a node, in the row of rows. -/
def KdR (V : World) (G B : Nat) (L : List Nd) (j : Nat) : Prop := ∃ u, V.cell? ⟨B, j, none⟩ = some u ∧ V.ownsRow G 3 1 u (kidsOf L j).length (kci (kidsOf L j))
/-- .. lying apart from another row. -/
def KdS (V : World) (G B : Nat) (L : List Nd) (j : Nat) (v : Value) : Prop := ∃ u, V.cell? ⟨B, j, none⟩ = some u ∧ V.ownsRow G 3 1 u (kidsOf L j).length (kci (kidsOf L j)) ∧ ∀ g, u.ownBlock = some g → v.ownBlock ≠ some g
/-- What link leaves. -/
structure LkQ (L : List Nd) (B : Nat) (V : World) (i e : Nat) (V' : World) : Prop where
  gw : Gw (· = B) V V'
  bk : ∃ cs, Blk V' B 33 cs ∧ cs.size = L.length
  out : ∀ j, (j < i ∨ e ≤ j) → V'.cell? ⟨B, j, none⟩ = V.cell? ⟨B, j, none⟩
  ins : ∀ j, i ≤ j → j < e → KdR V' (V.heap.size + 1) B L j
/-- What link does. -/
def LkC (w0 : World) (tv : Value) (L : List Nd) (B M f : Nat) : Prop := ∀ i e V, Gd L f i → sE L.length (cn L) f i = some e → Below w0.heap.size w0 V → (∃ cs, Blk V B 33 cs ∧ cs.size = L.length) → (∀ j, i ≤ j → j < e → V.cell? ⟨B, j, none⟩ = some (.slice none 0 0)) →
  Calls Tryd.prog 38 #[.agg #[tv, .slice (some ⟨B, 0, none⟩) L.length L.length, .map (some M)], .int .i64 (i : Nat)] V fun r V' => r = .returned (.int .i64 (e : Nat)) ∧ LkQ L B V i e V'
/-- link under way. -/
structure LkI (L : List Nd) (f B : Nat) (V W1 : World) (i e : Nat) (X : List Nat) (k a : Nat) (u : Value) (wr : World) : Prop where
  pos : Lk L f (X.drop k) a e
  ia : i < a
  gw : Gw (· = B) W1 wr
  bk : ∃ cs, Blk wr B 33 cs ∧ cs.size = L.length
  row : wr.cell? ⟨B, i, none⟩ = some u
  own : wr.ownsRow W1.heap.size 3 1 u k (kci (X.take k))
  out : ∀ j, (j < i ∨ a ≤ j) → wr.cell? ⟨B, j, none⟩ = V.cell? ⟨B, j, none⟩
  ins : ∀ j, i < j → j < a → KdS wr (V.heap.size + 1) B L j u
theorem cells_gw {P : Nat → Prop} {w w' : World} {b : Nat} (h : Gw P w w') (hb : b < w.heap.size) (hp : ¬ P b) (j : Nat) : w'.cell? ⟨b, j, none⟩ = w.cell? ⟨b, j, none⟩ := World.cell?_of_block (h.block b hb hp)
theorem kci_snoc (X : List Nat) (a : Nat) : kci (X ++ [a]) = kci X ++ [.int .i64 (a : Nat)] := by unfold kci ci; rw [List.map_append, List.map_append]; rfl
/-- One more child is put down. -/
theorem LkI.put {L : List Nd} {f B : Nat} {V W1 : World} {i e : Nat} {X : List Nat} {k a : Nat} {u u' : Value} {wr W5 W6 : World} (h : LkI L f B V W1 i e X k a u wr) (hBV : B < V.heap.size) (hVW : V.heap.size < W1.heap.size) (hil : i < L.length) (ha : X[k]? = some a) (hb5 : Below wr.heap.size wr W5) (hown : W6.ownsRow W1.heap.size 3 1 u' (k + 1) (kci (X.take k) ++ [.int .i64 (a : Nat)])) (hgr : W5.grownBy W6 u.ownBlock) (hat : u'.ownBlock = u.ownBlock ∨ u'.ownBlock = some W5.heap.size) :
    Gw (· = B) W1 (W6.setCell ⟨B, i, none⟩ u') ∧ (∃ cs, Blk (W6.setCell ⟨B, i, none⟩ u') B 33 cs ∧ cs.size = L.length) ∧ (W6.setCell ⟨B, i, none⟩ u').cell? ⟨B, i, none⟩ = some u' ∧ (W6.setCell ⟨B, i, none⟩ u').ownsRow W1.heap.size 3 1 u' (k + 1) (kci (X.take (k + 1))) ∧ (∀ j, (j < i ∨ a ≤ j) → (W6.setCell ⟨B, i, none⟩ u').cell? ⟨B, j, none⟩ = V.cell? ⟨B, j, none⟩) ∧ (∀ j, i < j → j < a → KdS (W6.setCell ⟨B, i, none⟩ u') (V.heap.size + 1) B L j u') := by
  have hG6 : Gw (fun k => u.ownBlock = some k) W5 W6 := Gw.of_grown hgr (fun _ hk _ => hk)
  have hGs := Gw.set W6 B i u'
  have hs := h.gw.size
  have hs5 := hb5.size
  have hbr : B < wr.heap.size := by omega
  have hulo := fun g hg => h.own.lt g hg
  have hB6 : ∀ j, W6.cell? ⟨B, j, none⟩ = wr.cell? ⟨B, j, none⟩ := fun j => (cells_gw hG6 (by omega) (fun q => by have := hulo _ q; omega) j).trans (cells_gw (Gw.of_below (P := fun _ => False) hb5) hbr (fun q => q) j)
  obtain ⟨cs, hcs, hcz⟩ := h.bk
  have hcs6 := hG6.blk ((Gw.of_below (P := fun _ => False) hb5).blk hcs (fun q => q)) (fun q => by have := hulo _ q; omega)
  have hoth : ∀ j, j ≠ i → (W6.setCell ⟨B, i, none⟩ u').cell? ⟨B, j, none⟩ = wr.cell? ⟨B, j, none⟩ := fun j hj => by
    rw [World.cell?_setCell_other _ _ _ _ (fun h => hj (by have := congrArg Addr.off h; exact this.symm))]
    exact hB6 j
  refine ⟨?_, ⟨_, hcs6.set i u', by rw [Array.size_setIfInBounds]; exact hcz⟩, ?_, ?_, fun j hj => ?_, fun j h1 h2 => ?_⟩
  · refine (h.gw.trans (Gw.of_below (P := (· = B)) hb5) (fun _ _ q => q)).trans (Gw.trans (P := fun k => k = B ∨ u.ownBlock = some k) ⟨hG6.os, hG6.tape, hG6.output, hG6.size, fun k hk hp => hG6.block k hk (fun q => hp (.inr q))⟩ hGs (fun _ _ q => .inl q)) (fun j hj q => ?_)
    rcases q with q | q
    · exact q
    · have := hulo _ q
      omega
  · rw [(hcs6.set i u').cell i, Array.getElem?_setIfInBounds_self_of_lt (by omega)]
  · have e : X.take (k + 1) = X.take k ++ [a] := by rw [List.take_add_one, ha]; rfl
    rw [e, kci_snoc]
    exact hGs.own hown (fun g hg q => by have := (World.ownsRow.lt hown g hg).1; omega)
  · rw [hoth j (by have := h.ia; omega)]
    exact h.out j hj
  · obtain ⟨uj, c1, c2, c3⟩ := h.ins j h1 h2
    refine ⟨uj, by rw [hoth j (by omega)]; exact c1, ?_, fun g hg q => ?_⟩
    · exact hGs.own (hG6.own ((Gw.of_below (P := fun _ => False) hb5).own c2 (fun _ _ q => q)) (fun g hg q => c3 g hg q)) (fun g hg q => by have := (World.ownsRow.lt c2 g hg).1; omega)
    · rcases hat with w | w
      · rw [w] at q; exact c3 g hg q
      · rw [w] at q
        injection q with q
        have := (World.ownsRow.lt c2 g hg).2
        omega
/-- All below a child was linked. -/
theorem LkI.sub {L : List Nd} {f B : Nat} {V W1 : World} {i e : Nat} {X : List Nat} {k a q : Nat} {u' : Value} {W7 V2 : World} (hBV : B < V.heap.size) (hVW : V.heap.size < W1.heap.size) (hpos : Lk L f (X.drop (k + 1)) q e) (hia : i < a) (haq : a < q) (h1 : Gw (· = B) W1 W7) (h3 : W7.cell? ⟨B, i, none⟩ = some u') (h4 : W7.ownsRow W1.heap.size 3 1 u' (k + 1) (kci (X.take (k + 1)))) (h5 : ∀ j, (j < i ∨ a ≤ j) → W7.cell? ⟨B, j, none⟩ = V.cell? ⟨B, j, none⟩) (h6 : ∀ j, i < j → j < a → KdS W7 (V.heap.size + 1) B L j u') (hq : LkQ L B W7 a q V2) : LkI L f B V W1 i e X (k + 1) q u' V2 := by
  have hs := h1.size
  refine ⟨hpos, by omega, h1.trans hq.gw (fun _ _ q => q), hq.bk, by rw [hq.out i (.inl hia)]; exact h3, hq.gw.own h4 (fun g hg w => by have := (World.ownsRow.lt h4 g hg).1; omega), fun j hj => ?_, fun j hj1 hj2 => ?_⟩
  · rw [hq.out j (by omega)]
    exact h5 j (by omega)
  · by_cases w : j < a
    · obtain ⟨uj, c1, c2, c3⟩ := h6 j hj1 w
      exact ⟨uj, by rw [hq.out j (.inl w)]; exact c1, hq.gw.own c2 (fun g hg w => by have := (World.ownsRow.lt c2 g hg).1; omega), c3⟩
    · obtain ⟨uj, c1, c2⟩ := hq.ins j (by omega) hj2
      refine ⟨uj, c1, own_base c2 (by omega), fun g hg w => ?_⟩
      have := (World.ownsRow.lt c2 g hg).1
      have := (World.ownsRow.lt h4 g w).2
      omega

set_option maxHeartbeats 4000000 in
set_option maxRecDepth 1000000 in
theorem link_succ {w0 : World} {tv : Value} {L : List Nd} {B M f : Nat} (hl : L.length ≤ 4000) (hN : NS w0 tv L) (hf : f + 1 ≤ 60) (hB0 : w0.heap.size ≤ B) (IH : LkC w0 tv L B M f) : LkC w0 tv L B M (f + 1) := by
  intro i e V hg he hb hbk hnil
  have hil := (hg.step hf).1
  have hlk := Gd.lk hf he
  have hie : i + 1 ≤ e := hlk.le
  obtain ⟨tb, tq, tc, vt, vn, vy, htv, hNC, hNV⟩ := hN.nod hil
  subst htv
  have hmem := (hg.step hf).2.2.2.2
  have hcn := (hg.step hf).2.2.1
  have hili : (i : Int) < (L.length : Int) := by omega
  have HGD : Hid (∀ (j k : Nat), (kidsOf L i)[j]? = some k → Gd L f k) := fun j k h => (hmem j k h).1
  have HIH := hide IH
  have HNL := hide hnil
  have HLK := hide hlk
  have HB := hide hb
  have hkl := kids_len L i
  have hcount : (ndA L i).count = ((kidsOf L i).length : Int) := by
    rw [hkl]
    have : cn L i = (ndA L i).count := rfl
    omega
  have HKL : Hid ((kidsOf L i).length ≤ L.length) := kds_le hf hg
  obtain ⟨X, hX⟩ : ∃ X, kidsOf L i = X := ⟨_, rfl⟩
  rw [hX] at HGD HLK hcount HKL
  have HX := hide hX
  obtain ⟨W1, hW1⟩ : ∃ W, V.alloc (.cells #[.slice (some ⟨tb, tq, none⟩) L.length tc, .slice (some ⟨B, 0, none⟩) L.length L.length, .map (some M)] 48) = W := ⟨_, rfl⟩
  have hb1 : Below V.heap.size V W1 := by rw [← hW1]; exact (Below.refl _ _).alloc (Nat.le_refl _) _
  have hO : Blk W1 V.heap.size 48 #[.slice (some ⟨tb, tq, none⟩) L.length tc, .slice (some ⟨B, 0, none⟩) L.length L.length, .map (some M)] := by rw [← hW1]; exact Blk.new _ _ _
  have HO := hide hO
  have HB1 := hide hb1
  have HVW : Hid (V.heap.size < W1.heap.size) := hO.lt
  have hBV : B < V.heap.size := by obtain ⟨cs, hcs, _⟩ := hbk; exact hcs.lt
  have HST : Hid (LkI L f B V W1 i e X 0 (i + 1) (.slice none 0 0) W1) := by
    obtain ⟨cs, hcs, hcz⟩ := hbk
    have hkp := fun j => cells_gw (Gw.of_below (P := fun _ => False) hb1) hBV (fun q => q) j
    refine ⟨by rw [List.drop_zero]; exact HLK.out, by omega, Gw.refl _ _, ⟨cs, (Gw.of_below (P := fun _ => False) hb1).blk hcs (fun q => q), hcz⟩, ?_, World.ownsRow_nil _ _ _ _, fun j _ => hkp j, fun j h1 h2 => (by omega)⟩
    rw [hkp i]
    exact hnil i (Nat.le_refl _) (by omega)
  have q0 := hO.cell 0
  have q1 := hO.cell 1
  simp only [List.getElem?_toArray, List.getElem?_cons_succ, List.getElem?_cons_zero] at q0 q1
  have n5 := (hNC.below (hb.trans (hb1.mono hb.size))).count
  rw [hcount] at n5
  clear hg he hb hnil hlk hmem hNC hNV hN IH hO hb1 hX hkl hcount hcn hbk
  go_enter Tryd.func38, Tryd.ntmps38
  go_wp2_with fail
  go_loopw [5, 14] (fun nx ix wr => ∃ k : Nat, k ≤ X.length ∧ ix = .int .i64 k ∧ ∃ (a : Nat) (u : Value), nx = .int .i64 (a : Nat) ∧ Hid (LkI L f B V W1 i e X k a u wr)) (fun _ ix _ => X.length - (intOf ix).toNat)
  case atStart => exact ⟨0, Nat.zero_le _, rfl, i + 1, _, by go_num, HST⟩
  case round =>
    obtain ⟨k, hk, rfl, a, u, rfl, HI⟩ := hrel
    rename World => V3
    by_cases hlt : k < X.length
    · have hlti : (k : Int) < (X.length : Int) := by omega
      have hX4 : X.length ≤ 4000 := Nat.le_trans HKL.out hl
      have hpos := HI.out.pos
      rw [List.drop_eq_getElem_cons hlt] at hpos
      obtain ⟨hak, q, hq, hpos2⟩ := hpos
      have hak2 : X[k]? = some a := by rw [List.getElem?_eq_getElem hlt, ← hak]
      rw [← hak] at hq
      have haq := (sE_br _ _ _ _ _ hq).lt
      have hae := (sE_br _ _ _ _ _ hq).le
      have hgd := HGD.out k a hak2
      obtain ⟨va, vc, rfl⟩ := own_sl HI.out.own
      have c0 := HI.out.row
      have q1r := HI.out.gw.cell q1 (fun w => by have w : V.heap.size = B := w; omega)
      have HXK := hide hak2
      have HPOS := hide hpos2
      have HQ := hide hq
      have HGI := hide hgd
      have c0a := cell_kept c0 ((Below.refl V3.heap.size V3).alloc (Nat.le_refl _) (.cells #[.int .i64 (a : Nat)] 3))
      clear hak hak2 hpos2 hq hgd
      go_wp2_with fail
      refine wp_region_held_drew (S := fun X => Hid (X.cell? ⟨V.heap.size, 1, none⟩ = some (.slice (some ⟨B, 0, none⟩) L.length L.length))) (by kernel_rfl) (q1r) (fun hHeld => ?_)
      refine wpAnyH_take (i := 0) (v := ?_) rfl (by kernel_rfl) (by kernel_rfl) (by kernel_rfl) (fun _ _ _ h => h) (Or.inl ⟨by rfl, ?_⟩) hHeld ?_
      rotate_left 1
      · intro Wx hSW; simp only [List.getElem_toArray, List.getElem_cons_zero]; go_simp; try with_reducible rfl
      try simp only [Act.put, List.getElem_toArray, List.getElem_cons_zero, List.setIfInBounds_toArray, List.set_cons_zero, List.set_cons_succ]
      refine wpAnyH_take (i := 1) (v := ?_) rfl (by kernel_rfl) (by kernel_rfl) (by kernel_rfl) (fun _ _ _ h => h) (Or.inl ⟨by rfl, ?_⟩) hHeld ?_
      rotate_left 1
      · intro Wx hSW; simp only [List.getElem_toArray, List.getElem_cons_zero, List.getElem_cons_succ]; have s0 := hSW.out; go_simp; try with_reducible rfl
      try simp only [Act.put, List.getElem_toArray, List.getElem_cons_zero, List.getElem_cons_succ, List.setIfInBounds_toArray, List.set_cons_zero, List.set_cons_succ]
      refine wpAnyH_take (i := 2) (v := ?_) rfl (by kernel_rfl) (by kernel_rfl) (by kernel_rfl) (fun _ _ _ h => h) (Or.inl ⟨by rfl, ?_⟩) hHeld ?_
      rotate_left 1
      · intro Wx hSW; simp only [List.getElem_toArray, List.getElem_cons_zero, List.getElem_cons_succ]; go_simp; try with_reducible rfl
      try simp only [Act.put, List.getElem_toArray, List.getElem_cons_zero, List.getElem_cons_succ, List.setIfInBounds_toArray, List.set_cons_zero, List.set_cons_succ]
      refine wpAnyH_take (i := 3) (v := ?_) rfl (by kernel_rfl) (by kernel_rfl) (by kernel_rfl) (fun _ _ _ h => h) (Or.inl ⟨by rfl, ?_⟩) hHeld ?_
      rotate_left 1
      · intro Wx hSW; simp only [List.getElem_toArray, List.getElem_cons_zero, List.getElem_cons_succ]; go_simp; try with_reducible rfl
      try simp only [Act.put, List.getElem_toArray, List.getElem_cons_zero, List.getElem_cons_succ, List.setIfInBounds_toArray, List.set_cons_zero, List.set_cons_succ]
      refine wpAnyH_take (i := 4) (v := ?_) rfl (by kernel_rfl) (by kernel_rfl) (by kernel_rfl) (fun _ _ _ h => h) (Or.inl ⟨by rfl, ?_⟩) hHeld ?_
      rotate_left 1
      · intro Wx hSW; simp only [List.getElem_toArray, List.getElem_cons_zero, List.getElem_cons_succ]; have s0 := hSW.out; go_simp; try with_reducible rfl
      try simp only [Act.put, List.getElem_toArray, List.getElem_cons_zero, List.getElem_cons_succ, List.setIfInBounds_toArray, List.set_cons_zero, List.set_cons_succ]
      refine wpAnyH_take (i := 5) (v := ?_) rfl (by kernel_rfl) (by kernel_rfl) (by kernel_rfl) (fun _ _ _ h => h) (Or.inl ⟨by rfl, ?_⟩) hHeld ?_
      rotate_left 1
      · intro Wx hSW; simp only [List.getElem_toArray, List.getElem_cons_zero, List.getElem_cons_succ]; go_simp; try with_reducible rfl
      try simp only [Act.put, List.getElem_toArray, List.getElem_cons_zero, List.getElem_cons_succ, List.setIfInBounds_toArray, List.set_cons_zero, List.set_cons_succ]
      refine wpAnyH_take (i := 6) (v := ?_) rfl (by kernel_rfl) (by kernel_rfl) (by kernel_rfl) (fun _ _ _ h => h) (Or.inl ⟨by rfl, ?_⟩) hHeld ?_
      rotate_left 1
      · intro Wx hSW; simp only [List.getElem_toArray, List.getElem_cons_zero, List.getElem_cons_succ]; go_simp; try with_reducible rfl
      try simp only [Act.put, List.getElem_toArray, List.getElem_cons_zero, List.getElem_cons_succ, List.setIfInBounds_toArray, List.set_cons_zero, List.set_cons_succ]
      refine wpAnyH_take (i := 8) (v := ?_) rfl (by kernel_rfl) (by kernel_rfl) (by kernel_rfl) (fun _ _ _ h => h) (Or.inl ⟨by rfl, ?_⟩) hHeld ?_
      rotate_left 1
      · intro Wx hSW; simp only [List.getElem_toArray, List.getElem_cons_zero, List.getElem_cons_succ]; go_simp; try with_reducible rfl
      try simp only [Act.put, List.getElem_toArray, List.getElem_cons_zero, List.getElem_cons_succ, List.setIfInBounds_toArray, List.set_cons_zero, List.set_cons_succ]
      apply key_rest
      · intro HKEY
        refine wpAnyH_ready (rs := [7, 9]) (by kernel_rfl) (by simp) ?_
        refine AllReadyH.cons rfl (fun K hK => ?_) (AllReadyH.cons rfl (fun K hK => ?_) AllReadyH.nil)
        · go_simp
          refine hK.out _ _ (hHeld) (fun hHeld => ?_)
          clear hK K
          try simp only [Act.put, List.getElem_toArray, List.getElem_cons_zero, List.getElem_cons_succ, List.setIfInBounds_toArray, List.set_cons_zero, List.set_cons_succ]
          refine wpAnyH_ready (rs := [9]) (by kernel_rfl) (by simp) ?_
          refine AllReadyH.cons rfl (fun K hK => ?_) AllReadyH.nil
          go_simp
          refine hK.out _ _ (cell_kept hHeld.out ((Below.refl _ _).alloc (Nat.le_refl _) _)) (fun hHeld => ?_)
          clear hK K
          try simp only [Act.put, List.getElem_toArray, List.getElem_cons_zero, List.getElem_cons_succ, List.setIfInBounds_toArray, List.set_cons_zero, List.set_cons_succ]
          exact HKEY.out
        · go_simp
          refine hK.out _ _ (cell_kept hHeld.out ((Below.refl _ _).alloc (Nat.le_refl _) _)) (fun hHeld => ?_)
          clear hK K
          try simp only [Act.put, List.getElem_toArray, List.getElem_cons_zero, List.getElem_cons_succ, List.setIfInBounds_toArray, List.set_cons_zero, List.set_cons_succ]
          refine wpAnyH_ready (rs := [7]) (by kernel_rfl) (by simp) ?_
          refine AllReadyH.cons rfl (fun K hK => ?_) AllReadyH.nil
          go_simp
          refine hK.out _ _ (hHeld) (fun hHeld => ?_)
          clear hK K
          try simp only [Act.put, List.getElem_toArray, List.getElem_cons_zero, List.getElem_cons_succ, List.setIfInBounds_toArray, List.set_cons_zero, List.set_cons_succ]
          exact HKEY.out
      obtain ⟨W5, hW5⟩ : ∃ X, (World.alloc V3 (.cells #[.int .i64 (a : Nat)] 3)).drew = X := ⟨_, rfl⟩
      have hb5 : Below V3.heap.size V3 W5 := by rw [← hW5]; exact ((Below.refl _ _).alloc (Nat.le_refl _) _).drew
      have HO5 := hide ((Gw.of_below (P := fun _ => False) hb5).own HI.out.own (fun _ _ q => q))
      have hbk : Blk W5 V3.heap.size 3 #[.int .i64 (a : Nat)] := by rw [← hW5]; exact Blk.new _ _ _
      have HBk := hide (Cs.of_blk hbk)
      have hsz : W1.heap.size ≤ W5.heap.size := Nat.le_trans HI.out.gw.size hb5.size
      have HB5 := hide hb5
      have HLE : Hid (k + 1 ≤ 10000000) := by show _ ≤ _; have := HKL.out; omega
      have q15 := cell_kept q1r hb5
      have hBk5 := (Gw.of_below (P := fun _ => False) hb5).blk HI.out.bk.choose_spec.1 (fun q => q)
      have HBK5 := hide hBk5
      rw [hW5]
      clear hbk hb5 hW5 hHeld hBk5
      refine wpAnyH_ready (rs := [10]) (by kernel_rfl) (by simp) ?_
      refine AllReadyH.cons rfl (fun K hK => ?_) AllReadyH.nil
      refine step_appGIn rfl (.tmp 23) (.tmp 25) rfl W1.heap.size _ _ _ rfl HO5.out V3.heap.size 0 1 1 [.int .i64 (a : Nat)] rfl rfl (fun j u hj => by rw [Nat.zero_add]; exact HBk.out j u hj) (fun u hu => by rw [List.mem_singleton.1 hu]; rfl) HLE.out hsz ?_
      intro v' W6 hown hgr hat
      obtain ⟨ua, uc, rfl⟩ := own_sl hown
      have hG6 : Gw (fun z => Value.ownBlock (.slice va k vc) = some z) W5 W6 := Gw.of_grown hgr (fun _ hk _ => hk)
      have q16 := hG6.cell q15 (fun q => by have q : Value.ownBlock (.slice va k vc) = some V.heap.size := q; have := (World.ownsRow.lt HO5.out _ q).1; have := HVW.out; omega)
      have hbl6 := hG6.blk HBK5.out (fun q => by have := (World.ownsRow.lt HO5.out _ q).1; have := HVW.out; omega)
      have w0 := hbl6.cell i
      have wf0 := hbl6.frozen i
      have hiz : i < HI.out.bk.choose.size := by rw [HI.out.bk.choose_spec.2]; exact hil
      rw [Array.getElem?_eq_getElem hiz] at w0
      have HOW := hide hown
      have HGR := hide hgr
      have HAT := hide hat
      clear hown hgr hat hG6 hbl6 HO5 HBk hsz HLE HBK5
      refine hK.out _ _ (q16) (fun hHeld => ?_)
      clear hK K
      try simp only [Act.put, List.getElem_toArray, List.getElem_cons_zero, List.getElem_cons_succ, List.setIfInBounds_toArray, List.set_cons_zero, List.set_cons_succ]
      refine wpAnyH_take (i := 11) (v := ?_) rfl (by kernel_rfl) (by kernel_rfl) (by kernel_rfl) (fun _ _ _ h => h) (Or.inl ⟨by rfl, ?_⟩) hHeld ?_
      rotate_left 1
      · intro Wx hSW; simp only [List.getElem_toArray, List.getElem_cons_zero, List.getElem_cons_succ]; go_simp; try with_reducible rfl
      try simp only [Act.put, List.getElem_toArray, List.getElem_cons_zero, List.getElem_cons_succ, List.setIfInBounds_toArray, List.set_cons_zero, List.set_cons_succ]
      refine wpAnyH_ready (rs := [12]) (by kernel_rfl) (by simp) ?_
      refine AllReadyH.cons rfl (fun K hK => ?_) AllReadyH.nil
      go_simp
      refine hK.out _ _ ((Gw.set _ _ _ _).cell hHeld.out (fun q => by have q : V.heap.size = B := q; omega)) (fun hHeld => ?_)
      clear hK K
      try simp only [Act.put, List.getElem_toArray, List.getElem_cons_zero, List.getElem_cons_succ, List.setIfInBounds_toArray, List.set_cons_zero, List.set_cons_succ]
      refine wpAnyH_done (by kernel_rfl) ?_ _
      have hput := HI.out.put hBV HVW.out hil HXK.out HB5.out HOW.out HGR.out HAT.out
      obtain ⟨W7, hW7⟩ : ∃ X, W6.setCell ⟨B, i, none⟩ (.slice ua (k + 1) uc) = X := ⟨_, rfl⟩
      rw [hW7] at hput ⊢
      obtain ⟨p1, p2, p3, p4, p5, p6⟩ := hput
      have hO7 := p1.blk HO.out (fun w => by omega)
      have r0 := hO7.cell 0
      have r1 := hO7.cell 1
      have r2 := hO7.cell 2
      simp only [List.getElem?_toArray, List.getElem?_cons_succ, List.getElem?_cons_zero] at r0 r1 r2
      have HCALL := hide (HIH.out a q W7 HGI.out HQ.out (p1.below (HB.out.trans (HB1.out.mono HB.out.size)) (Nat.le_trans HB.out.size HB1.out.size) (fun k hk w => by omega)) p2 (fun j j1 j2 => by rw [p5 j (.inr j1)]; exact HNL.out j (by have := HI.out.ia; omega) (by have := HPOS.out.le; omega)))
      have HSUB := hide (fun V2 hq2 => LkI.sub (V2 := V2) hBV HVW.out HPOS.out HI.out.ia haq p1 p3 p4 p5 p6 hq2)
      clear p1 p2 p3 p4 p5 p6 hO7 hW7 HOW HGR HAT HB5
      go_wp2_with fail
      refine HCALL.out.mono ?_
      rintro r V2 ⟨rfl, hq2⟩
      have HR := hide (HSUB.out V2 hq2)
      clear hq2 HSUB HCALL
      go_wp2
      go_roundw
      case rel => exact ⟨k + 1, by omega, by go_num, q, _, rfl, HR⟩
      case measure => simp [intOf]; omega
    · obtain rfl : k = X.length := by omega
      have hge : ¬ (X.length : Int) < (X.length : Int) := by omega
      have hae : a = e := by have := HI.out.pos; rw [List.drop_length] at this; exact this
      subst hae
      go_wp2
      go_ret
      have hI := HI.out
      refine ⟨rfl, (Gw.of_below HB1.out).trans hI.gw (fun _ _ w => w), hI.bk, fun j hj => hI.out j hj, fun j j1 j2 => ?_⟩
      by_cases w : j = i
      · subst w
        have ho := hI.own
        rw [List.take_of_length_le (Nat.le_refl _)] at ho
        refine ⟨u, hI.row, ?_⟩
        rw [HX.out]
        exact own_base ho (by have := HVW.out; omega)
      · obtain ⟨uj, c1, c2, _⟩ := hI.ins j (by omega) j2
        exact ⟨uj, c1, c2⟩
end Go.Proofs.YtdlahabeegmjiaaDoor
