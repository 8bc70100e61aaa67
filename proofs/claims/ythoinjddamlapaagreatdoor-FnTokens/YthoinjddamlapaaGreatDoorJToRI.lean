/-
  Lex at drawn rows, nil ones among them.
-/
import Derived.Test.YthoinjddamlapaaGreatDoorJToRH
import Derived.Test.YthoinjddamlapaaGreatDoorJToSB
import Derived.Test.YthoinjddamlapaaGreatDoorJToSB
import Derived.Test.YthoinjddamlapaaGreatDoorJToGFL
namespace Go.Proofs.YthoinjddamlapaaGreatDoor
open Go.RowKit Go.Shelf

attribute [local go_sem] Oper.semAt_some

set_option maxRecDepth 1000000 in
set_option maxHeartbeats 2000000 in
theorem implLex_gen (a0 : Option Addr) (cap : Nat) (s : ByteArray) (w : World) (m : Int) (te1 te2 : TypeId) (pe1 pe2 : Value) (hs : s.size ≤ 5000) (hlib : LibOk w m te1 te2 pe1 pe2) (hcp : ∀ w1, Below w.heap.size w w1 → Calls Tryz.prog 14 #[.slice a0 s.size cap] w1 fun e w' => e = .returned (pairVal (chk s)) ∧ Below w1.heap.size w1 w') (hc : ∀ W, Below w.heap.size w W → (convert 22 9 (.slice a0 s.size cap)).run Tryz.prog W = .ok (.string s) W) (hg : (chk s).1 = 0) :
    Calls Tryz.prog 6 #[.slice a0 s.size cap] w fun e w' => LexGives w w' e (lexed s) := by
  have H := hcp
  have hck : chk s = (0, 0) := chkAt_zero s _ _ hg
  rw [pairVal_of hck] at H
  have H' := hide H
  have HC := hide hc
  have HLIB := hide hlib
  have HCK := hide hck
  have HLX : Hid (lexed s = lex s (s.size + 1) 0 []) := by show _ = _; unfold lexed; rw [if_neg (by omega), if_pos hg]
  have t0 : decide ((5000 : Int) < (s.size : Int)) = false := decide_eq_false (by omega)
  have hB0 : Below w.heap.size w (((w.alloc (.cells #[.slice none 0 0] 24)).alloc (.cells #[.int .i64 0] 3)).alloc (.cells #[.int .i64 0] 3)) := (((Below.refl _ w).alloc (Nat.le_refl _) _).alloc (by simp) _).alloc (by simp; omega) _
  have b0 : Boxed (((w.alloc (.cells #[.slice none 0 0] 24)).alloc (.cells #[.int .i64 0] 3)).alloc (.cells #[.int .i64 0] 3)) w.heap.size 24 (.slice none 0 0) := ((Boxed.new w _ _).alloc _).alloc _
  have b1 : Boxed (((w.alloc (.cells #[.slice none 0 0] 24)).alloc (.cells #[.int .i64 0] 3)).alloc (.cells #[.int .i64 0] 3)) (w.heap.size + 1) 3 (.int .i64 0) := by
    have := (Boxed.new (w.alloc (.cells #[.slice none 0 0] 24)) 3 (.int .i64 0)).alloc (.cells #[.int .i64 0] 3)
    rwa [World.size_alloc] at this
  have b2 : Boxed (((w.alloc (.cells #[.slice none 0 0] 24)).alloc (.cells #[.int .i64 0] 3)).alloc (.cells #[.int .i64 0] 3)) (w.heap.size + 1 + 1) 3 (.int .i64 0) := by
    have := Boxed.new ((w.alloc (.cells #[.slice none 0 0] 24)).alloc (.cells #[.int .i64 0] 3)) 3 (.int .i64 0)
    rwa [World.size_alloc, World.size_alloc] at this
  have HB0 := hide hB0
  have Hb0 := hide b0
  have Hb1 := hide b1
  have Hb2 := hide b2
  clear H hck hg hc hcp hlib hB0 b0 b1 b2
  refine (callsIn_wide (n := 3)).1 ?_
  refine callsIn_of_wp_marks Tryz.func6 rfl trivial ?_ rfl
  simp only [Tryz.ntmps6, List.size_toArray, List.length_cons, List.length_nil, Nat.reduceAdd, Nat.reduceSub, Array.replicate_succ, Array.replicate_zero, List.push_toArray, List.append_toArray, List.nil_append, List.cons_append]
  gi_wp2_with fail
  refine ⟨trivial, ?_⟩
  refine (callsIn_wide.2 (H'.out _ HB0.out)).mono ?_
  rintro e w1 ⟨rfl, hb1⟩
  have hB1 := HB0.out.trans (hb1.mono HB0.out.size)
  have c0 := Hb0.out.kept (below_grown hb1) (by simp)
  have c1 := Hb1.out.kept (below_grown hb1) (by simp)
  have c2 := Hb2.out.kept (below_grown hb1) (by simp)
  have hsz : w.heap.size + 1 + 1 + 1 ≤ w1.heap.size := by have := hb1.size; simp at this; omega
  have hcv : ∀ o, (convert 22 9 (.slice a0 s.size cap)).run Tryz.prog (w1.alloc o) = .ok (.string s) (w1.alloc o) := fun o => HC.out _ (hB1.alloc hB1.size o)
  clear hb1 HB0 Hb0 Hb1 Hb2 H'
  have HB1 := hide hB1
  have HC0 := hide c0
  have HC1 := hide c1
  have HC2 := hide c2
  clear hB1 c0 c1 c2
  gi_wp2_with (refine ⟨trivial, ?_⟩; gi_at_call 15; refine (scan_in _ _ _).mono ?_; rintro e w' ⟨rfl, rfl⟩)
  clear hcv
  have hBW : Below w.heap.size w ((w1.alloc (.cells #[.slice none 0 0] 24)).alloc (.cells #[.string s] 9)) := (HB1.out.alloc HB1.out.size _).alloc (by have := HB1.out.size; simp; omega) _
  have bT : Boxed ((w1.alloc (.cells #[.slice none 0 0] 24)).alloc (.cells #[.string s] 9)) w1.heap.size 24 (.slice none 0 0) := (Boxed.new w1 _ _).alloc _
  have bN : Boxed ((w1.alloc (.cells #[.slice none 0 0] 24)).alloc (.cells #[.string s] 9)) (w1.heap.size + 1) 9 (.string s) := by
    have := Boxed.new (w1.alloc (.cells #[.slice none 0 0] 24)) 9 (.string s)
    rwa [World.size_alloc] at this
  have HI0 : Hid (LexI w w1.heap.size s [] ((w1.alloc (.cells #[.slice none 0 0] 24)).alloc (.cells #[.string s] 9))) := ⟨⟨(fun x hx => absurd hx (by simp)), ⟨_, bT, World.ownsRow_nil _ _ _ _⟩, (HC0.out.alloc _).alloc _, (HC1.out.alloc _).alloc _, (HC2.out.alloc _).alloc _, bN⟩, hBW⟩
  have HBW := hide hBW
  have hWz : ((w1.alloc (.cells #[.slice none 0 0] 24)).alloc (.cells #[.string s] 9)).heap.size = w1.heap.size + 2 := by simp
  have HBN := hide bN.cell
  clear hBW bT bN HC0 HC1 HC2
  obtain ⟨WL, hWL⟩ : ∃ WL, (w1.alloc (.cells #[.slice none 0 0] 24)).alloc (.cells #[.string s] 9) = WL := ⟨_, rfl⟩
  rw [hWL] at HI0 HBW hWz HBN ⊢
  clear hWL
  obtain ⟨T, hT⟩ : ∃ T, w1.heap.size = T := ⟨_, rfl⟩
  rw [hT] at hsz HI0 hWz HBN ⊢
  have hTW : w.heap.size ≤ WL.heap.size := by omega
  have hTW2 : T + 1 < WL.heap.size := by omega
  have hylen := (yl_len s (s.size + 1) 0 (Nat.zero_le _)).1
  clear hT HB1 hWz
  refine wpIn_rangeFunc_ownH rfl (by omega) (gf := 29) (lb := #[.pointer (some ⟨T + 1, 0, none⟩)]) rfl trivial (enters_of Tryz.func29 (by kernel_rfl) rfl)
    (scan_stops (3 - 1) (by omega) (T + 1) s hs HCK.out m te1 te2 pe1 pe2 WL w HBN.out HLIB.out HBW.out) kpB_t (kpB_b hTW hTW2) (Below.refl _ _) (fun _ => rfl)
    (LexI w T s) (LexX w) (lexI_own w T s _ hTW) (fun c => lexX_own w c _ hTW) HI0.out
    (LexA (.slice a0 s.size cap) w T s WL.heap.size) (fun x a' => lexA_own _ w T s WL.heap.size x a') ?assign ?body ?done ?stop
  case assign =>
    intro l pre x W K hi hK
    have HI := hide hi
    have HK := hide hK
    have hWz : T + 1 < W.heap.size := hi.1.2.2.2.2.2.lt
    clear hi hK
    obtain ⟨xk, xa, xl, xo⟩ := x
    dsimp only [encT]
    gi_wp2
    refine HK.out _ _ ((KeepsOthers.alloc _ _).from _) ⟨(Below.refl _ W).alloc (HI.out.2.size) _, ((Below.refl W.heap.size W).alloc (Nat.le_refl _) _).cell (p := ⟨T + 1, 0, none⟩) hWz⟩ ((lexI_own w T s w.heap.size (Nat.le_refl _)).alloc _ HI.out) ⟨W.heap.size, hWz, World.alloc_heap_new W _, rfl⟩
  case body =>
    rintro l pre x a' W hl ⟨r, hr⟩ ⟨⟨hall, ⟨v, hv, hrow⟩, hR0, hR1, hR2, hbN⟩, hB⟩ ⟨Bx, hBx, hx, rfl⟩ hlen
    obtain ⟨xk, xa, xl, xo⟩ := x
    have x0 : W.cell? ⟨Bx, 0, none⟩ = some (.int .i64 (xk : Nat)) := by simp [World.cell?, hx]
    have x1 : W.cell? ⟨Bx, 1, none⟩ = some (.int .i64 (xa : Nat)) := by simp [World.cell?, hx]
    have x2 : W.cell? ⟨Bx, 2, none⟩ = some (.int .i64 (xl : Nat)) := by simp [World.cell?, hx]
    have HALL := hide hall
    have HV := hide hv
    have HROW := hide hrow
    have HR0 := hide hR0
    have HR1 := hide hR1
    have HR2 := hide hR2
    have HBX := hide hbN
    have HB := hide hB
    cases xo with
    | false =>
      have r0c := hR0.cell
      have r0f := hR0.frozen
      have r1c := hR1.cell
      have r1f := hR1.frozen
      have r2c := hR2.cell
      have r2f := hR2.frozen
      clear hall hv hrow hR0 hR1 hR2 hbN hB hr hx
      have hmx : Tryz.prog.follows .mixedOrders = true := by kernel_rfl
      have HPOST : Hid (KeepsFrom WL.heap.size W (((W.setCell ⟨w.heap.size, 0, none⟩ (.slice none 0 0)).setCell ⟨w.heap.size + 1, 0, none⟩ (.int .i64 2)).setCell ⟨w.heap.size + 1 + 1, 0, none⟩ (.int .i64 (xa : Nat))).drew ∧ LexX w .ret (pre ++ [(xk, xa, xl, false)]) (((W.setCell ⟨w.heap.size, 0, none⟩ (.slice none 0 0)).setCell ⟨w.heap.size + 1, 0, none⟩ (.int .i64 2)).setCell ⟨w.heap.size + 1 + 1, 0, none⟩ (.int .i64 (xa : Nat))).drew) := by
        refine ⟨((((KeepsOthers.setCell _ _ _).trans (KeepsOthers.setCell _ _ _)).trans (KeepsOthers.setCell _ _ _)).trans (KeepsOthers.drew _)).from _, ⟨rfl, pre, _, rfl, rfl, ?_, ?_, ?_⟩, ?_⟩
        · exact ((HR0.out.set _).other (by omega) _).other (by omega) _
        · exact ((HR1.out.other (by omega) _).set _).other (by omega) _
        · exact ((HR2.out.other (by omega) _).other (by omega) _).set _
        · exact (((HB.out.setCell (p := ⟨w.heap.size, 0, none⟩) (Nat.le_refl _) _).setCell (p := ⟨w.heap.size + 1, 0, none⟩) (by simp) _).setCell (p := ⟨w.heap.size + 1 + 1, 0, none⟩) (by simp; omega) _).drew
      gi_wp2
      gi_region_o
      all_goals gi_wp2
      all_goals exact HPOST.out
    | true =>
      have hvc := hv.cell
      have hvf := hv.frozen
      have hl2 := tks_len pre
      obtain ⟨i0, hi, hz0, hz1, hz2⟩ := info_parts Tryz.infoTok
      clear hall hR0 hR1 hR2 hbN hB hr hx
      have hm1 : (tks pre).length + 1 ≤ maxLen := by unfold maxLen; omega
      have hm2 : ((tks pre).length + 1) * 24 ≤ 140737488355328 := by omega
      have hWb : w.heap.size ≤ (W.alloc (.cells #[.int .i64 (xk : Nat), .int .i64 (xa : Nat), .int .i64 (xl : Nat)] 28)).heap.size := by have := HB.out.size; simp; omega
      clear hv hrow hl2
      gi_wp2_with (gi_at_builtin; refine wpListIn_append_own _ rfl _ _ 24 rfl w.heap.size 28 i0 _ 3 24 Tryz.underlying24 hi hz0 hz1 hz2 rfl (by decide) _ _ _ rfl (HROW.out.alloc _) ⟨W.heap.size, 0, none⟩ 1 1 (tcv [(xk, xa, xl)]) rfl rfl (tok_news W xk xa xl) (tcv_one _) hm1 hm2 hWb ?_; intro v' w4 hown' hgrow _; obtain ⟨g', cap', rfl⟩ := ownsRow_succ hown'; obtain ⟨hv1, hv2, hr2, hk2, hb2⟩ := HV.out.appended (by decide) HROW.out HB.out.size (by omega) hown' hgrow; have hc1 := hv1.cell; have hf1 := hv1.frozen; have HV2 := hide hv2; have HR2' := hide hr2; have HK2 := hide hk2; have HB2 := hide hb2; have HG := hide hgrow; clear hv1 hv2 hr2 hk2 hb2 hown' hgrow hvc hvf)
      have keep : ∀ {B : Nat} {t : TypeId} {u : Value}, Boxed W B t u → t ≠ 28 → B ≠ T → Boxed (w4.setCell ⟨T, 0, none⟩ (.slice (some ⟨g', 0, none⟩) ((tks pre).length + 1) cap')) B t u := fun h hne hT => ((h.alloc _).kept HG.out (h.not_row hne HROW.out)).other hT _
      have hbn := keep HBX.out (by decide) (by omega)
      refine ⟨HK2.out.from _, ⟨HB2.out, by rw [hbn.cell, HBX.out.cell]⟩, ⟨?_, ⟨_, HV2.out, ?_⟩, keep HR0.out (by decide) (by omega), keep HR1.out (by decide) (by omega), keep HR2.out (by decide) (by omega), hbn⟩, HB.out.trans HB2.out⟩
      · intro y hy
        rcases List.mem_append.1 hy with h | h
        · exact HALL.out y h
        · rw [List.mem_singleton.1 h]
      · have e := HR2'.out
        rw [← tcv_append] at e
        rw [tks_snoc, List.length_append]
        exact e
  case done =>
    rintro D ys W hD rfl ⟨⟨hall, ⟨v, hv, hrow⟩, hR0, hR1, hR2, hbN⟩, hB⟩ hK
    obtain ⟨a0, n0, c0, rfl⟩ : ∃ a n c, v = .slice a n c := by
      rcases hrow.2 with ⟨h, _⟩ | ⟨g, c, cur, h, _⟩
      · exact ⟨_, _, _, h⟩
      · exact ⟨_, _, _, h⟩
    have HROW := hide hrow
    have HR0 := hide hR0
    have HR1 := hide hR1
    have HR2 := hide hR2
    have HB := hide hB
    have HKD := hide hK
    have hvc := hv.cell
    have HL : Hid (lexed s = (tks (yl s (s.size + 1) 0), 0, 0)) := by show _ = _; rw [HLX.out, yl_lex s _ 0 [] (by omega) hall, List.nil_append]
    have r0c := hR0.cell
    have r0f := hR0.frozen
    have r1c := hR1.cell
    have r1f := hR1.frozen
    have r2c := hR2.cell
    have r2f := hR2.frozen
    have hmx : Tryz.prog.follows .mixedOrders = true := by kernel_rfl
    clear hv hrow hR0 hR1 hR2 hbN hB hK hall
    gi_wp2
    have k0 := HR0.out.set (.slice a0 n0 c0)
    have k1 := (HR1.out.other (B' := w.heap.size) (by omega) (.slice a0 n0 c0))
    have k2 := (HR2.out.other (B' := w.heap.size) (by omega) (.slice a0 n0 c0))
    have o1 := HROW.out.kept (grownBy_setCell' W w.heap.size (.slice a0 n0 c0)) (.inr (HR0.out.not_row (by decide) HROW.out).symm)
    have o2 := o1.kept (grownBy_setCell' _ (w.heap.size + 1) (.int .i64 0)) (.inr (k1.not_row (by decide) o1).symm)
    have j0 := k0.other (B' := w.heap.size + 1) (by omega) (.int .i64 0)
    have j1 := k1.set (.int .i64 0)
    have j2 := k2.other (B' := w.heap.size + 1) (by omega) (.int .i64 0)
    have o3 := o2.kept (grownBy_setCell' _ (w.heap.size + 1 + 1) (.int .i64 0)) (.inr (j2.not_row (by decide) o2).symm)
    have i0 := j0.other (B' := w.heap.size + 1 + 1) (by omega) (.int .i64 0)
    have i1 := j1.other (B' := w.heap.size + 1 + 1) (by omega) (.int .i64 0)
    have i2 := j2.set (.int .i64 0)
    have hBX := ((HB.out.setCell (p := ⟨w.heap.size, 0, none⟩) (Nat.le_refl _) (.slice a0 n0 c0)).setCell (p := ⟨w.heap.size + 1, 0, none⟩) (by simp) (.int .i64 0)).setCell (p := ⟨w.heap.size + 1 + 1, 0, none⟩) (by simp; omega) (.int .i64 0)
    have hKX := (((KeepsOthers.setCell W ⟨w.heap.size, 0, none⟩ (.slice a0 n0 c0)).trans (KeepsOthers.setCell _ ⟨w.heap.size + 1, 0, none⟩ (.int .i64 0))).trans (KeepsOthers.setCell _ ⟨w.heap.size + 1 + 1, 0, none⟩ (.int .i64 0))).same D _ HKD.out rfl
    generalize ((W.setCell ⟨w.heap.size, 0, none⟩ (.slice a0 n0 c0)).setCell ⟨w.heap.size + 1, 0, none⟩ (.int .i64 0)).setCell ⟨w.heap.size + 1 + 1, 0, none⟩ (.int .i64 0) = X at *
    have hrD : ∀ r, some D = some r → ∃ o : Obj, X.heap[r]? = some o ∧ o.isCells = false := fun r e => by cases e; exact ⟨_, hKX, rfl⟩
    have y0 := (box_kept i0 (grownBy_putObj' X D (.deferred none)) hrD).cell
    have y1 := (box_kept i1 (grownBy_putObj' X D (.deferred none)) hrD).cell
    have y2 := (box_kept i2 (grownBy_putObj' X D (.deferred none)) hrD).cell
    refine ⟨by simp, .inl ⟨_, _, rfl, run_takeDeferred hKX, ?_⟩⟩
    refine ⟨.tuple #[.slice a0 n0 c0, .int .i64 0, .int .i64 0], ?_, ?_⟩
    · simp [results, Tryz.f6, go_sem, y0, y1, y2]
    · exact ⟨_, by rw [HL.out]; rfl, by rw [HL.out]; exact ownsRow_putObj o3 _ hKX rfl, hBX.trans (belowK_b (w := w) (Nat.le_refl _) X D _ _ (by omega) hKX rfl rfl)⟩
  case stop =>
    rintro D c pre W hD hpre ⟨⟨rfl, q, x, rfl, hx, hR0, hR1, hR2⟩, hB⟩ hK
    have HL : Hid (lexed s = ([], 2, x.2.1)) := by show _ = _; rw [HLX.out]; exact yl_bad s _ 0 [] x (by omega) (hpre.subset (by simp)) hx
    gi_wp2
    have hrD : ∀ r, some D = some r → ∃ o : Obj, W.heap[r]? = some o ∧ o.isCells = false := fun r e => by cases e; exact ⟨_, hK, rfl⟩
    have y0 := (box_kept hR0 (grownBy_putObj' W D (.deferred none)) hrD).cell
    have y1 := (box_kept hR1 (grownBy_putObj' W D (.deferred none)) hrD).cell
    have y2 := (box_kept hR2 (grownBy_putObj' W D (.deferred none)) hrD).cell
    refine ⟨by simp, .inl ⟨_, _, rfl, run_takeDeferred hK, ?_⟩⟩
    refine ⟨.tuple #[.slice none 0 0, .int .i64 2, .int .i64 (x.2.1 : Nat)], ?_, ?_⟩
    · simp [results, Tryz.f6, go_sem, y0, y1, y2]
    · exact lexGives_nil HL.out (hB.trans (belowK_b (w := w) (Nat.le_refl _) W D _ _ (by omega) hK rfl rfl))

set_option maxHeartbeats 1000000 in
set_option maxRecDepth 1000000 in
theorem specLex_nil (w : World) : Calls Tryz.prog 5 #[.slice none 0 0] w fun e w' => LexGives w w' e (lexed ByteArray.empty) := by
  have H := hide (specCheck_nil w)
  have HR : Hid (lexed ByteArray.empty = ([], 0, 0)) := by show _ = _; decide
  have e0 : pairVal (0, 0) = .tuple #[.int .i64 0, .int .i64 0] := rfl
  rw [e0] at H
  clear e0
  go_enter Tryz.func5, Tryz.ntmps5
  go_wp2_with fail
  refine H.out.mono ?_
  rintro e w1 ⟨rfl, hb⟩
  have HB := hide hb
  clear hb H
  go_wp2
  go_loopw [7, 8] (fun out ix wr => ix = .int .i64 0 ∧ out = .slice none 0 0 ∧ Below w.heap.size w wr) (fun _ _ _ => 0)
  case atStart => exact ⟨rfl, rfl, HB.out⟩
  case round =>
    obtain ⟨rfl, rfl, hb⟩ := hrel
    go_wp2
    go_ret3
    exact lexGives_nil HR.out hb
theorem implLex_nil (w : World) (m : Int) (te1 te2 : TypeId) (pe1 pe2 : Value) (hlib : LibOk w m te1 te2 pe1 pe2) : Calls Tryz.prog 6 #[.slice none 0 0] w fun e w' => LexGives w w' e (lexed ByteArray.empty) :=
  implLex_gen none 0 ByteArray.empty w m te1 te2 pe1 pe2 (by decide) hlib (fun w1 _ => implCheck_nil w1) (fun W _ => toStr_nil W) (by decide)
theorem nr_cells {w : World} {g : Nat} {l : List Nat} (hl : Lo l) (h : ∀ j, j < l.length → w.cell? ⟨g, j, none⟩ = some (.int .u8 (l.getD j 0 : Nat))) : ∀ j, j < (byt l).size → w.cell? ⟨g, 0 + j, none⟩ = some (bts (byt l) j) := fun j hj => by
  rw [byt_size] at hj
  rw [Nat.zero_add, h j hj, byt_bts hl hj]
theorem specLex_nr {w : World} {B : Nat} {v : Value} {l : List Nat} (h : NR w B v l) (hl : Lo l) : Calls Tryz.prog 5 #[v] w fun e w' => LexGives w w' e (lexed (byt l)) := by
  rcases h with ⟨g, c, rfl, h1, _, h3⟩ | ⟨rfl, rfl⟩
  · have := specLex_any g 0 c (byt l) w (by rw [byt_size]; exact h1) (nr_cells hl h3)
    rw [byt_size] at this
    exact this
  · exact specLex_nil w
theorem implLex_nr {w : World} {B : Nat} {v : Value} {l : List Nat} (h : NR w B v l) (hl : Lo l) (m : Int) (te1 te2 : TypeId) (pe1 pe2 : Value) (hlib : LibOk w m te1 te2 pe1 pe2) : Calls Tryz.prog 6 #[v] w fun e w' => LexGives w w' e (lexed (byt l)) := by
  rcases h with ⟨g, c, rfl, _, _, h3⟩ | ⟨rfl, rfl⟩
  · have := implLex_any g 0 c (byt l) w m te1 te2 pe1 pe2 hlib (nr_cells hl h3)
    rw [byt_size] at this
    exact this
  · exact implLex_nil w m te1 te2 pe1 pe2 hlib
theorem lex_bad (s : ByteArray) : ∀ f p acc, (lex s f p acc).2.1 ≠ 0 → (lex s f p acc).1 = []
  | 0, p, acc, h => absurd rfl h
  | f + 1, p, acc, h => by
    rw [lex] at h ⊢
    by_cases c : p < s.size
    · rw [if_pos c] at h ⊢
      by_cases c1 : 0 < bl s p
      · rw [if_pos c1] at h ⊢; exact lex_bad s f _ _ h
      rw [if_neg c1] at h ⊢
      by_cases c2 : bl s p < 0
      · rw [if_pos c2]
      rw [if_neg c2] at h ⊢
      by_cases c3 : (tok s p).2 = 0
      · rw [if_pos c3]
      rw [if_neg c3] at h ⊢
      exact lex_bad s f _ _ h
    · rw [if_neg c] at h; exact absurd rfl h
theorem lexed_bad {s : ByteArray} (h : (lexed s).2.1 ≠ 0) : (lexed s).1 = [] := by
  unfold lexed at h ⊢
  by_cases c : 5000 < s.size
  · rw [if_pos c]
  rw [if_neg c] at h ⊢
  by_cases d : (chk s).1 = 0
  · rw [if_pos d] at h ⊢; exact lex_bad s _ _ _ h
  · rw [if_neg d]
end Go.Proofs.YthoinjddamlapaaGreatDoor
