/-
  The walk of possibleExits.
-/
import Derived.Test.YtaapababeecmeaaDoorJShowLayoutKP
import Derived.Test.YtaapababeecmeaaDoorJShowLayoutIL1
import Derived.Test.YtaapababeecmeaaDoorJShowLayoutLy0
import Derived.Test.YtaapababeecmeaaDoorJShowLayoutSL4
namespace Go.Proofs.YtaapababeecmeaaDoor
open Go.RowKit Go.Shelf

attribute [local go_sem] Oper.semAt_some

/-- Whether a way leads to a cell that is no wall. -/
def okw (d : Ly) (c : Nat) (k : Nat) : Bool := decide (0 ≤ toC d.w d.h c k) && (d.cost.getD (toC d.w d.h c k).toNat 0 != 0)
def p2 (x : Fin 4) : Int := match x.1 with | 0 => 1 | 1 => 2 | 2 => 4 | _ => 8
/-- The sum of the ways so far. -/
def accw (d : Ly) (c : Nat) (pre : List (Fin 4)) : Int := pre.foldl (fun a x => if okw d c x.1 then bits .or .i64 a (p2 x) else a) 0
theorem accw_snoc (d : Ly) (c : Nat) (pre : List (Fin 4)) (x : Fin 4) : accw d c (pre ++ [x]) = if okw d c x.1 then bits .or .i64 (accw d c pre) (p2 x) else accw d c pre := by
  unfold accw; rw [List.foldl_append]; rfl
/-- The exits that a cell may have. -/
def pex (d : Ly) (c : Nat) : Int := if d.cost.getD c 0 = 0 then 0 else accw d c [0, 1, 2, 3]

theorem all_ways : wyr (fun _ => true) 0 = [0, 1, 2, 3] := rfl

theorem ways_stops (n : Nat) (hn : 1 ≤ n) (Bn : Nat) (s : Int) (P : Nat → Bool) (hP0 : (bits .and .i64 s 1 != 0) = P 0) (hP1 : (bits .and .i64 s 2 != 0) = P 1) (hP2 : (bits .and .i64 s 4 != 0) = P 2) (hP3 : (bits .and .i64 s 8 != 0) = P 3) (w w0 : World)
    (hBn : w.cell? ⟨Bn, 0, none⟩ = some (.int .i64 s)) (hW : Below w0.heap.size w0 w) :
    SeqStopsK Fence.wide n Tryd.prog 63 #[.pointer (some ⟨Bn, 0, none⟩)] encW (KpB w0.heap.size Bn) (fun ys => ys = wyr P 0) (fun pre => pre <+: wyr P 0) (wyr P 0).length w := fun l J Jx W hb hJ _ hY h0 =>
  ways1_in n hn l Bn s P hP0 hP1 hP2 hP3 J Jx W w0 hJ hY (by rw [hb.cell (p := ⟨Bn, 0, none⟩) (World.block_lt_of_cell? _ _ hBn)]; exact hBn) (hW.trans (hb.mono hW.size)) h0

/-- What a round finds. -/
def PxI (d : Ly) (v2 v3 v4 : Value) (c : Nat) (w : World) (pre : List (Fin 4)) (W : World) : Prop :=
  (Blk W w.heap.size 30 #[.int .i64 d.w, .int .i64 d.h, v2, v3, v4] ∧ Boxed W (w.heap.size + 1) 3 (.int .i64 c) ∧ Boxed W (w.heap.size + 1 + 1) 3 (.int .i64 (accw d c pre)) ∧ Boxed W (w.heap.size + 1 + 1 + 1) 3 (.int .i64 15)) ∧ Below w.heap.size w W
theorem blk_kept {W W' : World} {row : Option Nat} {B : Nat} {t : TypeId} {cs : Array Value} (h : Blk W B t cs) (hg : W.grownBy W' row) (hr : ∀ r, row = some r → ∃ o : Obj, W.heap[r]? = some o ∧ o.isCells = false) : Blk W' B t cs :=
  (hg.block B h.lt (fun e' => by obtain ⟨o, ho, hc⟩ := hr B e'.symm; rw [show W.heap[B]? = _ from h] at ho; cases ho; cases hc)).trans h
theorem pxI_own (d : Ly) (v2 v3 v4 : Value) (c : Nat) (w : World) (B : Nat) (hB : w.heap.size ≤ B) : OwnFrom B (PxI d v2 v3 v4 c w) := by
  refine OwnFrom.and (Own.from ?_ B) (ownFrom_below (Nat.le_refl _) hB)
  rintro pre X Y row ⟨h1, h2, h3, h4⟩ hg hr
  exact ⟨blk_kept h1 hg hr, box_kept h2 hg hr, box_kept h3 hg hr, box_kept h4 hg hr⟩

set_option maxRecDepth 1000000 in
set_option maxHeartbeats 2000000 in
theorem possible_any (d : Ly) (v2 v3 v4 : Value) (c : Nat) (w : World) (hm : MvOk w) (hv : IS w v2 d.cost) (hw0 : 1 ≤ d.w) (hw1 : d.w ≤ 40) (hh1 : d.h ≤ 40) (hl : (d.cost.length : Int) = d.w * d.h) (hc : c < d.cost.length) :
    Calls Tryd.prog 30 #[lyagg d v2 v3 v4, .int .i64 c] w fun e w' => e = .returned (.int .i64 (pex d c)) ∧ Below w.heap.size w w' := by
  obtain ⟨a2, b2, o2, c2, rfl, ha2, hc2⟩ := hv
  obtain rfl := ha2 (by omega)
  have HC := hide hc2
  have HM := hide hm
  have hcc := hc2 c hc
  unfold lyagg
  have hcl : (c : Int) < (d.cost.length : Int) := by omega
  obtain ⟨W0, hW0⟩ : ∃ W, ((w.alloc (.cells #[.int .i64 d.w, .int .i64 d.h, .slice (some ⟨b2, o2, none⟩) d.cost.length c2, v3, v4] 30)).alloc (.cells #[.int .i64 c] 3)).alloc (.cells #[.int .i64 0] 3) = W := ⟨_, rfl⟩
  have hB0 : Below w.heap.size w W0 := by rw [← hW0]; exact (((Below.refl _ w).alloc (Nat.le_refl _) _).alloc (by simp) _).alloc (by simp; omega) _
  have hL0 : Blk W0 w.heap.size 30 #[.int .i64 d.w, .int .i64 d.h, .slice (some ⟨b2, o2, none⟩) d.cost.length c2, v3, v4] := by
    rw [← hW0]; exact ((Blk.new _ _ _).alloc _).alloc _
  have hX0 : Boxed W0 (w.heap.size + 1) 3 (.int .i64 c) := by
    rw [← hW0]
    have := (Boxed.new (w.alloc (.cells #[.int .i64 d.w, .int .i64 d.h, .slice (some ⟨b2, o2, none⟩) d.cost.length c2, v3, v4] 30)) 3 (.int .i64 c)).alloc (.cells #[.int .i64 0] 3)
    rwa [World.size_alloc] at this
  have hE0 : Boxed W0 (w.heap.size + 1 + 1) 3 (.int .i64 0) := by
    rw [← hW0]
    have := Boxed.new ((w.alloc (.cells #[.int .i64 d.w, .int .i64 d.h, .slice (some ⟨b2, o2, none⟩) d.cost.length c2, v3, v4] 30)).alloc (.cells #[.int .i64 c] 3)) 3 (.int .i64 0)
    rwa [World.size_alloc, World.size_alloc] at this
  obtain ⟨W1, hW1⟩ : ∃ W, W0.setCell ⟨w.heap.size + 1 + 1, 0, none⟩ (.int .i64 0) = W := ⟨_, rfl⟩
  have hB1 : Below w.heap.size w W1 := by rw [← hW1]; exact hB0.setCell (p := ⟨w.heap.size + 1 + 1, 0, none⟩) (by show w.heap.size ≤ w.heap.size + 1 + 1; omega) _
  have hL1 : Blk W1 w.heap.size 30 #[.int .i64 d.w, .int .i64 d.h, .slice (some ⟨b2, o2, none⟩) d.cost.length c2, v3, v4] := by rw [← hW1]; exact hL0.other _ _ (by omega)
  have hX1 : Boxed W1 (w.heap.size + 1) 3 (.int .i64 c) := by rw [← hW1]; exact hX0.other (by omega) _
  have hE1 : Boxed W1 (w.heap.size + 1 + 1) 3 (.int .i64 0) := by rw [← hW1]; exact hE0.set _
  have e0c := hE0.cell
  have e0f := hE0.frozen
  have x1c := hX1.cell
  have e1c := hE1.cell
  have z2 := hL1.cell 2
  simp only [List.getElem?_toArray, List.getElem?_cons_succ, List.getElem?_cons_zero] at z2
  have hcc1 := cell_kept hcc hB1
  have HB1 := hide hB1
  have HL1 := hide hL1
  have HX1 := hide hX1
  have HE1 := hide hE1
  have hWz : W1.heap.size = w.heap.size + 1 + 1 + 1 := by rw [← hW1, ← hW0]; simp
  have HWz := hide hWz
  clear hB0 hL0 hX0 hE0 hB1 hL1 hX1 hE1 hm hc2 hcc hWz
  refine (callsIn_wide (n := 3)).1 ?_
  refine callsIn_of_wp_marks Tryd.func30 rfl trivial ?_ rfl
  simp only [Tryd.ntmps30, List.size_toArray, List.length_cons, List.length_nil, Nat.reduceAdd, Nat.reduceSub, Array.replicate_succ, Array.replicate_zero, List.push_toArray, List.append_toArray, List.nil_append, List.cons_append]
  obtain ⟨g, hg⟩ : ∃ g, d.cost.getD c 0 = g := ⟨_, rfl⟩
  have HG := hide hg
  rw [hg] at hcc1
  clear hg
  by_cases h0 : g = 0
  · have t0 : (g == 0) = true := by rw [beq_iff_eq]; exact h0
    have HP : Hid (pex d c = 0) := by show _ = _; unfold pex; rw [HG.out, if_pos h0]
    clear h0
    gi_wp2_with fail
    exact ⟨_, results_tmp rfl _ _ _, by rw [HP.out]; rfl, HB1.out⟩
  · have t0 : (g == 0) = false := by rw [beq_eq_false_iff_ne]; exact h0
    have HP : Hid (pex d c = accw d c [0, 1, 2, 3]) := by show _ = _; unfold pex; rw [HG.out, if_neg h0]
    clear h0
    gi_wp2_with (refine ⟨trivial, ?_⟩; gi_at_call 51; refine (waysIn_in _ _ _).mono ?_; rintro e w' ⟨rfl, rfl⟩)
    rw [HWz.out]
    have hBW : Below w.heap.size w (W1.alloc (.cells #[.int .i64 15] 3)) := HB1.out.alloc HB1.out.size _
    have bN : Boxed (W1.alloc (.cells #[.int .i64 15] 3)) (w.heap.size + 1 + 1 + 1) 3 (.int .i64 15) := by
      have := Boxed.new W1 3 (.int .i64 15)
      rwa [HWz.out] at this
    have HI0 : Hid (PxI d (.slice (some ⟨b2, o2, none⟩) d.cost.length c2) v3 v4 c w [] (W1.alloc (.cells #[.int .i64 15] 3))) := ⟨⟨HL1.out.alloc _, HX1.out.alloc _, HE1.out.alloc _, bN⟩, hBW⟩
    have HBW := hide hBW
    have hWLz : (W1.alloc (.cells #[.int .i64 15] 3)).heap.size = w.heap.size + 1 + 1 + 1 + 1 := by rw [World.size_alloc, HWz.out]
    have HBN := hide bN.cell
    clear hBW bN HB1 HL1 HX1 HE1 HWz e0c e0f x1c e1c z2 hcc1
    obtain ⟨WL, hWL⟩ : ∃ WL, W1.alloc (.cells #[.int .i64 15] 3) = WL := ⟨_, rfl⟩
    rw [hWL] at HI0 HBW hWLz HBN ⊢
    clear hWL hW1 hW0
    have hTW : w.heap.size ≤ WL.heap.size := by omega
    have hTW2 : w.heap.size + 1 + 1 + 1 < WL.heap.size := by omega
    refine wpIn_rangeFunc_ownG rfl (by omega) (gf := 63) (lb := #[.pointer (some ⟨w.heap.size + 1 + 1 + 1, 0, none⟩)]) rfl trivial (enters_of Tryd.func63 (by kernel_rfl) rfl)
      (ways_stops (3 - 1) (by omega) (w.heap.size + 1 + 1 + 1) 15 (fun _ => true) (by decide) (by decide) (by decide) (by decide) WL w HBN.out HBW.out) kpB_t (kpB_b hTW hTW2) (Below.refl _ _) (fun _ => rfl)
      (PxI d (.slice (some ⟨b2, o2, none⟩) d.cost.length c2) v3 v4 c w) (fun _ _ _ => False) (pxI_own d _ v3 v4 c w _ hTW) (fun _ _ _ _ _ h _ _ => h) HI0.out
      (fun x => { tmps := #[.agg #[.int .i64 d.w, .int .i64 d.h, .slice (some ⟨b2, o2, none⟩) d.cost.length c2, v3, v4], .int .i64 c, .pointer (some ⟨w.heap.size, 0, none⟩), .pointer (some ⟨w.heap.size + 1, 0, none⟩), .int .i64 0, .pointer (some ⟨w.heap.size + 1 + 1, 0, none⟩), .int .i64 (x.1 : Nat), undef, undef, .pointer (some ⟨w.heap.size, 2, none⟩), .slice (some ⟨b2, o2, none⟩) d.cost.length c2, .int .i64 c, .pointer (some ⟨b2, o2 + c, none⟩), .int .i64 g, .bool false, undef, .func (.func 63) #[] #[.pointer (some ⟨w.heap.size + 1 + 1 + 1, 0, none⟩)], .int .i64 (x.1 : Nat), undef, undef, undef, undef, undef, undef, undef, undef, undef, undef, undef, undef, undef, undef, undef, undef, undef, undef, undef, undef, undef, undef, undef, undef], defers := [] }) ?assign ?body ?done ?stop
    case assign =>
      intro l x W K hK
      dsimp only [encW]
      gi_wp2
      exact hK
    case body =>
      rintro l pre x W ⟨⟨hL, hX, hE, hN⟩, hB⟩ _
      have HNB := hide (neighbor_any d.w d.h c x.1 W (HM.out.below hB) hw0 hw1 hh1 (by omega) (by omega) x.2)
      obtain ⟨hio, hiv⟩ := insd_toC (H := d.h) (c := c) (d := x.1) hw0 (by omega) (by omega) x.2
      have htl := toC_lt (h := d.h) (c := c) hw0 (by omega) (by omega) x.1
      have z0 := hL.cell 0
      have z1 := hL.cell 1
      have z2 := hL.cell 2
      simp only [List.getElem?_toArray, List.getElem?_cons_succ, List.getElem?_cons_zero] at z0 z1 z2
      have xc := hX.cell
      have HK := hide (fun w5 (hb5 : Below W.heap.size W w5) => (⟨hL.below hb5, hX.kept (below_grown hb5) (by simp), hE.kept (below_grown hb5) (by simp), hN.kept (below_grown hb5) (by simp), hB.trans (hb5.mono hB.size), KeepsOthers.of_grownBy (below_grown hb5) (fun j o e => by cases e), hb5.mono hB.size⟩ : Blk w5 _ _ _ ∧ Boxed w5 _ _ _ ∧ Boxed w5 _ _ _ ∧ Boxed w5 _ _ _ ∧ Below w.heap.size w w5 ∧ KeepsOthers W w5 ∧ Below w.heap.size W w5))
      have HS := hide (accw_snoc d c pre x)
      have HN := hide hN.cell
      clear hio hL hX hE hN hB
      by_cases q0 : 0 ≤ toC d.w d.h c x.1
      · obtain ⟨m, hm⟩ : ∃ m : Nat, toC d.w d.h c x.1 = m := ⟨(toC d.w d.h c x.1).toNat, by omega⟩
        have hnb := hiv q0
        rw [hm] at hnb htl
        rw [hnb, hm, decide_eq_true (by omega : (0 : Int) ≤ (m : Int))] at HNB
        have hml : (m : Int) < (d.cost.length : Int) := by omega
        have HMC := hide (HC.out m (by omega))
        obtain ⟨q, hq⟩ : ∃ q, d.cost.getD m 0 = q := ⟨_, rfl⟩
        rw [hq] at HMC
        have HOK : Hid (okw d c x.1 = (q != 0)) := by
          show _ = _
          unfold okw
          rw [hm, Int.toNat_natCast, hq, decide_eq_true (by omega : (0 : Int) ≤ (m : Int)), Bool.true_and]
        clear hiv hq hm q0 hnb htl
        by_cases q1 : q = 0
        · have t1 : (q != 0) = false := by rw [bne_eq_false_iff_eq]; exact q1
          gi_wp2_with (refine ⟨trivial, ?_⟩; gi_at_call 52; refine (CallsIn.inRound l (callsIn_wide.2 HNB.out)).mono ?_; rintro e w5 ⟨rfl, hb5⟩; obtain ⟨kL, kX, kE, kN, kB, kK, kW⟩ := HK.out w5 hb5; have y2 := kL.cell 2; simp only [List.getElem?_toArray, List.getElem?_cons_succ, List.getElem?_cons_zero] at y2; have ym := cell_kept HMC.out kB; have HB5 := hide hb5; clear hb5 kL kX kE kN kB kK kW)
          obtain ⟨kL, kX, kE, kN, kB, kK, kW⟩ := HK.out w5 HB5.out
          refine ⟨kK.from _, ⟨kW, kN.cell.trans HN.out.symm⟩, ⟨kL, kX, ?_, kN⟩, kB⟩
          rw [HS.out, HOK.out, t1]
          exact kE
        · have t1 : (q != 0) = true := by rw [bne_iff_ne]; exact q1
          have HPX : Hid (∃ kk : Int, p2 x = kk) := ⟨_, rfl⟩
          have hmx : Tryd.prog.follows .mixedOrders = true := by kernel_rfl
          have e1 : IntKind.i64.wrap 1 = 1 := by decide
          have e2 : IntKind.i64.wrap 2 = 2 := by decide
          have e4 : IntKind.i64.wrap 4 = 4 := by decide
          have e8 : IntKind.i64.wrap 8 = 8 := by decide
          rw [HOK.out, t1, if_pos rfl] at HS
          obtain ⟨A0, hA0⟩ : ∃ A, accw d c pre = A := ⟨_, rfl⟩
          rw [hA0] at HS HK
          clear q1 HOK hA0 HPX
          obtain ⟨kx, hx⟩ := x
          have hx4 : kx = 0 ∨ kx = 1 ∨ kx = 2 ∨ kx = 3 := by omega
          simp only at HNB HS ⊢
          rcases hx4 with rfl | rfl | rfl | rfl
          · have HS1 : Hid (accw d c (pre ++ [⟨0, hx⟩]) = bits .or .i64 A0 1) := HS.out
            have HPOST : Hid (∀ w5, Below W.heap.size W w5 → KeepsFrom WL.heap.size W (w5.setCell ⟨w.heap.size + 1 + 1, 0, none⟩ (.int .i64 (bits .or .i64 A0 1))).drew ∧ KpB w.heap.size (w.heap.size + 1 + 1 + 1) W (w5.setCell ⟨w.heap.size + 1 + 1, 0, none⟩ (.int .i64 (bits .or .i64 A0 1))).drew ∧ PxI d (.slice (some ⟨b2, o2, none⟩) d.cost.length c2) v3 v4 c w (pre ++ [⟨0, hx⟩]) (w5.setCell ⟨w.heap.size + 1 + 1, 0, none⟩ (.int .i64 (bits .or .i64 A0 1))).drew) := fun w5 hb5 => by
              obtain ⟨kL, kX, kE, kN, kB, kK, kW⟩ := HK.out w5 hb5
              have kN' := kN.other (B' := w.heap.size + 1 + 1) (by omega) (.int .i64 (bits .or .i64 A0 1))
              refine ⟨((kK.trans (KeepsOthers.setCell _ _ _)).trans (KeepsOthers.drew _)).from _, ⟨(kW.setCell (p := ⟨w.heap.size + 1 + 1, 0, none⟩) (by show w.heap.size ≤ w.heap.size + 1 + 1; omega) _).drew, kN'.cell.trans HN.out.symm⟩, ⟨kL.other _ _ (by omega), kX.other (by omega) _, ?_, kN'⟩, (kB.setCell (p := ⟨w.heap.size + 1 + 1, 0, none⟩) (by show w.heap.size ≤ w.heap.size + 1 + 1; omega) _).drew⟩
              rw [HS1.out]
              exact kE.set _
            gi_wp2_with (refine ⟨trivial, ?_⟩; gi_at_call 52; refine (CallsIn.inRound l (callsIn_wide.2 HNB.out)).mono ?_; rintro e w5 ⟨rfl, hb5⟩; obtain ⟨kL, kX, kE, kN, kB, kK, kW⟩ := HK.out w5 hb5; have y2 := kL.cell 2; simp only [List.getElem?_toArray, List.getElem?_cons_succ, List.getElem?_cons_zero] at y2; have ym := cell_kept HMC.out kB; have ec := kE.cell; have ef := kE.frozen; have HB5 := hide hb5; clear hb5 kL kX kE kN kB kK kW)
            gi_region_o
            all_goals gi_wp2
            all_goals exact HPOST.out w5 HB5.out
          · have HS1 : Hid (accw d c (pre ++ [⟨1, hx⟩]) = bits .or .i64 A0 2) := HS.out
            have HPOST : Hid (∀ w5, Below W.heap.size W w5 → KeepsFrom WL.heap.size W (w5.setCell ⟨w.heap.size + 1 + 1, 0, none⟩ (.int .i64 (bits .or .i64 A0 2))).drew ∧ KpB w.heap.size (w.heap.size + 1 + 1 + 1) W (w5.setCell ⟨w.heap.size + 1 + 1, 0, none⟩ (.int .i64 (bits .or .i64 A0 2))).drew ∧ PxI d (.slice (some ⟨b2, o2, none⟩) d.cost.length c2) v3 v4 c w (pre ++ [⟨1, hx⟩]) (w5.setCell ⟨w.heap.size + 1 + 1, 0, none⟩ (.int .i64 (bits .or .i64 A0 2))).drew) := fun w5 hb5 => by
              obtain ⟨kL, kX, kE, kN, kB, kK, kW⟩ := HK.out w5 hb5
              have kN' := kN.other (B' := w.heap.size + 1 + 1) (by omega) (.int .i64 (bits .or .i64 A0 2))
              refine ⟨((kK.trans (KeepsOthers.setCell _ _ _)).trans (KeepsOthers.drew _)).from _, ⟨(kW.setCell (p := ⟨w.heap.size + 1 + 1, 0, none⟩) (by show w.heap.size ≤ w.heap.size + 1 + 1; omega) _).drew, kN'.cell.trans HN.out.symm⟩, ⟨kL.other _ _ (by omega), kX.other (by omega) _, ?_, kN'⟩, (kB.setCell (p := ⟨w.heap.size + 1 + 1, 0, none⟩) (by show w.heap.size ≤ w.heap.size + 1 + 1; omega) _).drew⟩
              rw [HS1.out]
              exact kE.set _
            gi_wp2_with (refine ⟨trivial, ?_⟩; gi_at_call 52; refine (CallsIn.inRound l (callsIn_wide.2 HNB.out)).mono ?_; rintro e w5 ⟨rfl, hb5⟩; obtain ⟨kL, kX, kE, kN, kB, kK, kW⟩ := HK.out w5 hb5; have y2 := kL.cell 2; simp only [List.getElem?_toArray, List.getElem?_cons_succ, List.getElem?_cons_zero] at y2; have ym := cell_kept HMC.out kB; have ec := kE.cell; have ef := kE.frozen; have HB5 := hide hb5; clear hb5 kL kX kE kN kB kK kW)
            gi_region_o
            all_goals gi_wp2
            all_goals exact HPOST.out w5 HB5.out
          · have HS1 : Hid (accw d c (pre ++ [⟨2, hx⟩]) = bits .or .i64 A0 4) := HS.out
            have HPOST : Hid (∀ w5, Below W.heap.size W w5 → KeepsFrom WL.heap.size W (w5.setCell ⟨w.heap.size + 1 + 1, 0, none⟩ (.int .i64 (bits .or .i64 A0 4))).drew ∧ KpB w.heap.size (w.heap.size + 1 + 1 + 1) W (w5.setCell ⟨w.heap.size + 1 + 1, 0, none⟩ (.int .i64 (bits .or .i64 A0 4))).drew ∧ PxI d (.slice (some ⟨b2, o2, none⟩) d.cost.length c2) v3 v4 c w (pre ++ [⟨2, hx⟩]) (w5.setCell ⟨w.heap.size + 1 + 1, 0, none⟩ (.int .i64 (bits .or .i64 A0 4))).drew) := fun w5 hb5 => by
              obtain ⟨kL, kX, kE, kN, kB, kK, kW⟩ := HK.out w5 hb5
              have kN' := kN.other (B' := w.heap.size + 1 + 1) (by omega) (.int .i64 (bits .or .i64 A0 4))
              refine ⟨((kK.trans (KeepsOthers.setCell _ _ _)).trans (KeepsOthers.drew _)).from _, ⟨(kW.setCell (p := ⟨w.heap.size + 1 + 1, 0, none⟩) (by show w.heap.size ≤ w.heap.size + 1 + 1; omega) _).drew, kN'.cell.trans HN.out.symm⟩, ⟨kL.other _ _ (by omega), kX.other (by omega) _, ?_, kN'⟩, (kB.setCell (p := ⟨w.heap.size + 1 + 1, 0, none⟩) (by show w.heap.size ≤ w.heap.size + 1 + 1; omega) _).drew⟩
              rw [HS1.out]
              exact kE.set _
            gi_wp2_with (refine ⟨trivial, ?_⟩; gi_at_call 52; refine (CallsIn.inRound l (callsIn_wide.2 HNB.out)).mono ?_; rintro e w5 ⟨rfl, hb5⟩; obtain ⟨kL, kX, kE, kN, kB, kK, kW⟩ := HK.out w5 hb5; have y2 := kL.cell 2; simp only [List.getElem?_toArray, List.getElem?_cons_succ, List.getElem?_cons_zero] at y2; have ym := cell_kept HMC.out kB; have ec := kE.cell; have ef := kE.frozen; have HB5 := hide hb5; clear hb5 kL kX kE kN kB kK kW)
            gi_region_o
            all_goals gi_wp2
            all_goals exact HPOST.out w5 HB5.out
          · have HS1 : Hid (accw d c (pre ++ [⟨3, hx⟩]) = bits .or .i64 A0 8) := HS.out
            have HPOST : Hid (∀ w5, Below W.heap.size W w5 → KeepsFrom WL.heap.size W (w5.setCell ⟨w.heap.size + 1 + 1, 0, none⟩ (.int .i64 (bits .or .i64 A0 8))).drew ∧ KpB w.heap.size (w.heap.size + 1 + 1 + 1) W (w5.setCell ⟨w.heap.size + 1 + 1, 0, none⟩ (.int .i64 (bits .or .i64 A0 8))).drew ∧ PxI d (.slice (some ⟨b2, o2, none⟩) d.cost.length c2) v3 v4 c w (pre ++ [⟨3, hx⟩]) (w5.setCell ⟨w.heap.size + 1 + 1, 0, none⟩ (.int .i64 (bits .or .i64 A0 8))).drew) := fun w5 hb5 => by
              obtain ⟨kL, kX, kE, kN, kB, kK, kW⟩ := HK.out w5 hb5
              have kN' := kN.other (B' := w.heap.size + 1 + 1) (by omega) (.int .i64 (bits .or .i64 A0 8))
              refine ⟨((kK.trans (KeepsOthers.setCell _ _ _)).trans (KeepsOthers.drew _)).from _, ⟨(kW.setCell (p := ⟨w.heap.size + 1 + 1, 0, none⟩) (by show w.heap.size ≤ w.heap.size + 1 + 1; omega) _).drew, kN'.cell.trans HN.out.symm⟩, ⟨kL.other _ _ (by omega), kX.other (by omega) _, ?_, kN'⟩, (kB.setCell (p := ⟨w.heap.size + 1 + 1, 0, none⟩) (by show w.heap.size ≤ w.heap.size + 1 + 1; omega) _).drew⟩
              rw [HS1.out]
              exact kE.set _
            gi_wp2_with (refine ⟨trivial, ?_⟩; gi_at_call 52; refine (CallsIn.inRound l (callsIn_wide.2 HNB.out)).mono ?_; rintro e w5 ⟨rfl, hb5⟩; obtain ⟨kL, kX, kE, kN, kB, kK, kW⟩ := HK.out w5 hb5; have y2 := kL.cell 2; simp only [List.getElem?_toArray, List.getElem?_cons_succ, List.getElem?_cons_zero] at y2; have ym := cell_kept HMC.out kB; have ec := kE.cell; have ef := kE.frozen; have HB5 := hide hb5; clear hb5 kL kX kE kN kB kK kW)
            gi_region_o
            all_goals gi_wp2
            all_goals exact HPOST.out w5 HB5.out
      · rw [decide_eq_false q0] at HNB
        have HOK : Hid (okw d c x.1 = false) := by
          show _ = _
          unfold okw
          rw [decide_eq_false q0, Bool.false_and]
        generalize nbv d.w c x.1 = u at HNB
        clear hiv q0 htl
        gi_wp2_with (refine ⟨trivial, ?_⟩; gi_at_call 52; refine (CallsIn.inRound l (callsIn_wide.2 HNB.out)).mono ?_; rintro e w5 ⟨rfl, hb5⟩; have HB5 := hide hb5; clear hb5)
        obtain ⟨kL, kX, kE, kN, kB, kK, kW⟩ := HK.out w5 HB5.out
        refine ⟨kK.from _, ⟨kW, kN.cell.trans HN.out.symm⟩, ⟨kL, kX, ?_, kN⟩, kB⟩
        rw [HS.out, HOK.out]
        exact kE
    case done =>
      rintro D ys W hD rfl ⟨⟨hL, hX, hE, hN⟩, hB⟩ hK
      have ec := hE.cell
      have HB := hide hB
      have HKD := hide hK
      clear hL hX hE hN hB hK
      gi_wp2
      refine ⟨by simp, .inl ⟨_, _, rfl, run_takeDeferred HKD.out, ?_⟩⟩
      refine ⟨_, results_tmp rfl _ _ _, ?_, HB.out.trans (belowK_b (w := w) (Nat.le_refl _) W D _ _ (by omega) HKD.out rfl rfl)⟩
      rw [HP.out]
      rfl
    case stop =>
      rintro D cc pre W _ _ h _
      exact h.elim
end Go.Proofs.YtaapababeecmeaaDoor
