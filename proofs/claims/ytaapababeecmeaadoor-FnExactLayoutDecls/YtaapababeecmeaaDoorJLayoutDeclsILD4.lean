/-
  The walk of cellDecls.
-/
import Derived.Test.YtaapababeecmeaaDoorJLayoutDeclsILD1
import Derived.Deep.RegionHeld3
import Derived.Deep.AppendLies
namespace Go.Proofs.YtaapababeecmeaaDoor
open Go.RowKit Go.Shelf

attribute [local go_sem] Oper.semAt_some

set_option maxRecDepth 1000000 in
set_option maxHeartbeats 4000000 in
theorem cellDecls_wall (d : Ly) (v2 v3 v4 : Value) (c : Nat) (w : World) (hm : MvOk w) (hv : IS w v2 d.cost) (hx : IS w v3 d.exits) (hok : LyOk d) (hc : c < d.cost.length) (hg1 : d.cost.getD c 0 = 0) :
    Calls Tryd.prog 37 #[lyagg d v2 v3 v4, .int .i64 c] w fun e w' => ∃ v LV, e = .returned v ∧ DcOw w' w.heap.size v LV ∧ LV.map (·.1) = cellD d c ∧ (∀ p ∈ LV, p.2 = .slice none 0 0) ∧ Below w.heap.size w w' := by
  have HV := hide hv
  have HPE : Hid (∀ W, Below w.heap.size w W → Calls Tryd.prog 30 #[lyagg d v2 v3 v4, .int .i64 c] W fun e w' => e = .returned (.int .i64 (pex d c)) ∧ Below W.heap.size W w') := fun W hb => possible_any d v2 v3 v4 c W (hm.below hb) (hv.below hb) hok.w0 hok.w1 hok.h1 hok.cl hc
  have hce : c < d.exits.length := by have := hok.cl; have := hok.el; omega
  have HBB := hide (bar_bits d c (hok.cells c hc))
  obtain ⟨a2, b2, o2, c2, rfl, ha2, hc2⟩ := hv
  obtain rfl := ha2 (by omega)
  obtain ⟨a3, b3, o3, c3, rfl, ha3, hc3⟩ := hx
  obtain rfl := ha3 (by omega)
  have hcc := hc2 c hc
  have hxc := hc3 c hce
  unfold lyagg at HPE ⊢
  have hcl : (c : Int) < (d.cost.length : Int) := by omega
  have hel : (c : Int) < (d.exits.length : Int) := by omega
  have HDA : Hid (∀ kind W, Calls Tryd.prog 38 #[.int .i64 kind, .int .i64 d.w, .int .i64 (c : Nat)] W fun e w' => e = .returned (.agg #[.int .i64 kind, .int .i64 ((c : Int) % d.w), .int .i64 ((c : Int) / d.w), .int .i64 ((c : Int) % d.w), .int .i64 ((c : Int) / d.w), .int .i64 0, .int .i64 0, .slice none 0 0, .int .i64 0]) ∧ Below W.heap.size W w') := fun kind W => declAt_any d.w kind c W hok.w0 (by
    have h1 := hok.cl
    have h2 : d.w * d.h ≤ 40 * 40 := Int.mul_le_mul hok.w1 hok.h1 (by have := hok.h0; omega) (by decide)
    omega)
  obtain ⟨W0, hW0⟩ : ∃ W, ((w.alloc (.cells #[.int .i64 d.w, .int .i64 d.h, .slice (some ⟨b2, o2, none⟩) d.cost.length c2, .slice (some ⟨b3, o3, none⟩) d.exits.length c3, v4] 30)).alloc (.cells #[.int .i64 c] 3)).alloc (.cells #[.slice none 0 0] 34) = W := ⟨_, rfl⟩
  have hB0 : Below w.heap.size w W0 := by rw [← hW0]; exact (((Below.refl _ w).alloc (Nat.le_refl _) _).alloc (by simp) _).alloc (by simp; omega) _
  have hL0 : Blk W0 w.heap.size 30 #[.int .i64 d.w, .int .i64 d.h, .slice (some ⟨b2, o2, none⟩) d.cost.length c2, .slice (some ⟨b3, o3, none⟩) d.exits.length c3, v4] := by
    rw [← hW0]; exact ((Blk.new _ _ _).alloc _).alloc _
  have hX0 : Boxed W0 (w.heap.size + 1) 3 (.int .i64 c) := by
    rw [← hW0]
    have := (Boxed.new (w.alloc (.cells #[.int .i64 d.w, .int .i64 d.h, .slice (some ⟨b2, o2, none⟩) d.cost.length c2, .slice (some ⟨b3, o3, none⟩) d.exits.length c3, v4] 30)) 3 (.int .i64 c)).alloc (.cells #[.slice none 0 0] 34)
    rwa [World.size_alloc] at this
  have hE0 : Boxed W0 (w.heap.size + 1 + 1) 34 (.slice none 0 0) := by
    rw [← hW0]
    have := Boxed.new ((w.alloc (.cells #[.int .i64 d.w, .int .i64 d.h, .slice (some ⟨b2, o2, none⟩) d.cost.length c2, .slice (some ⟨b3, o3, none⟩) d.exits.length c3, v4] 30)).alloc (.cells #[.int .i64 c] 3)) 34 (.slice none 0 0)
    rwa [World.size_alloc, World.size_alloc] at this
  have x0c := hX0.cell
  have z2 := hL0.cell 2
  simp only [List.getElem?_toArray, List.getElem?_cons_succ, List.getElem?_cons_zero] at z2
  have hcc0 := cell_kept hcc hB0
  have hxc0 := cell_kept hxc hB0
  have HC2 := hide hc2
  have HC3 := hide hc3
  have HB0 := hide hB0
  have HL0 := hide hL0
  have HX0 := hide hX0
  have HE0 := hide hE0
  have HM := hide hm
  have HOK := hide hok
  clear hB0 hL0 hX0 hE0 hm hc2 hcc hc3 hxc hok
  refine (callsIn_wide (n := 3)).1 ?_
  refine callsIn_of_wp_marks Tryd.func37 rfl trivial ?_ rfl
  simp only [Tryd.ntmps37, List.size_toArray, List.length_cons, List.length_nil, Nat.reduceAdd, Nat.reduceSub, Array.replicate_succ, Array.replicate_zero, List.push_toArray, List.append_toArray, List.nil_append, List.cons_append]
  rw [hg1] at hcc0
  obtain ⟨sx, hsx⟩ : ∃ s, bits .andNot .i64 (pex d c) (d.exits.getD c 0) = s := ⟨_, rfl⟩
  rw [hsx] at HBB
  obtain ⟨px, hpx⟩ : ∃ p, pex d c = p := ⟨_, rfl⟩
  rw [hpx] at HPE hsx
  obtain ⟨ex, hex⟩ : ∃ p, d.exits.getD c 0 = p := ⟨_, rfl⟩
  rw [hex] at hsx hxc0
  have hexq := hex
  clear hpx hex
  have z0 := HL0.out.cell 0
  have z1 := HL0.out.cell 1
  have z3 := HL0.out.cell 3
  have z4 := HL0.out.cell 4
  simp only [List.getElem?_toArray, List.getElem?_cons_succ, List.getElem?_cons_zero] at z0 z1 z3 z4
  have HXC : Hid (∀ W, Below w.heap.size w W → W.cell? ⟨b3, o3 + c, none⟩ = some (.int .i64 ex)) := fun W hb => by rw [← hexq]; exact cell_kept (HC3.out c hce) hb
  have hmx : Tryd.prog.follows .mixedOrders = true := by kernel_rfl
  have HR : Hid (∀ w5, Below W0.heap.size W0 w5 → Blk w5 w.heap.size 30 #[.int .i64 d.w, .int .i64 d.h, (.slice (some ⟨b2, o2, none⟩) d.cost.length c2), (.slice (some ⟨b3, o3, none⟩) d.exits.length c3), v4] ∧ Boxed w5 (w.heap.size + 1) 3 (.int .i64 c) ∧ Boxed w5 (w.heap.size + 1 + 1) 34 (.slice none 0 0) ∧ DcOw w5 w.heap.size (.slice none 0 0) [] ∧ Below w.heap.size w w5) := fun w5 hb5 => ⟨HL0.out.below hb5, HX0.out.kept (below_grown hb5) (by simp), HE0.out.kept (below_grown hb5) (by simp), DcOw.nil _ _, HB0.out.trans (hb5.mono HB0.out.size)⟩
  have b0c := HE0.out.cell
  have b0f := HE0.out.frozen
  obtain ⟨i0, hi, hz0, hz1, hz2⟩ := info_partsDc Tryd.infoDc
  gi_wp2_with fail
  refine wpIn_wide.2 (Code.wp_mono (Q := fun e a W1 => match e with | .normal => (∃ B5 g7 cap7, a = { tmps := #[.agg #[.int .i64 d.w, .int .i64 d.h, .slice (some ⟨b2, o2, none⟩) d.cost.length c2, .slice (some ⟨b3, o3, none⟩) d.exits.length c3, v4], .int .i64 c, .pointer (some ⟨w.heap.size, 0, none⟩), .pointer (some ⟨w.heap.size + 1, 0, none⟩), .slice none 0 0, .pointer (some ⟨w.heap.size + 1 + 1, 0, none⟩), .int .i64 0, undef, undef, undef, .pointer (some ⟨w.heap.size, 2, none⟩), .slice (some ⟨b2, o2, none⟩) d.cost.length c2, .int .i64 c, .pointer (some ⟨b2, o2 + c, none⟩), .int .i64 0, .int .i64 0, undef, undef, undef, undef, undef, undef, undef, undef, undef, undef, .bool true, .bool true, .slice none 0 0, .pointer (some ⟨w.heap.size, 0, none⟩), .int .i64 d.w, .int .i64 c, .agg #[.int .i64 8, .int .i64 ((c : Int) % d.w), .int .i64 ((c : Int) / d.w), .int .i64 ((c : Int) % d.w), .int .i64 ((c : Int) / d.w), .int .i64 0, .int .i64 0, .slice none 0 0, .int .i64 0], .slice (some ⟨B5, 0, none⟩) 1 1, .slice (some ⟨g7, 0, none⟩) 1 cap7, undef, undef, undef, undef, undef, undef, undef, undef, undef, undef, undef, undef, undef, undef, undef, undef, undef, undef, undef, undef, undef, undef, undef, undef], defers := [] } ∧ Below w.heap.size w W1 ∧ Blk W1 w.heap.size 30 #[.int .i64 d.w, .int .i64 d.h, (.slice (some ⟨b2, o2, none⟩) d.cost.length c2), (.slice (some ⟨b3, o3, none⟩) d.exits.length c3), v4] ∧ Boxed W1 (w.heap.size + 1) 3 (.int .i64 c) ∧ Boxed W1 (w.heap.size + 1 + 1) 34 (.slice (some ⟨g7, 0, none⟩) 1 cap7) ∧ DcOw W1 w.heap.size (.slice (some ⟨g7, 0, none⟩) 1 cap7) [(dAt 8 d.w c, .slice none 0 0)]) | _ => False) ?go ?reg)
  case' reg =>
    go_region_law (first
    | (go_simp; go_at_call 38; refine (HDA.out 8 _).mono ?_; rintro e w5 ⟨rfl, hb5⟩; have hb5' : Below W0.heap.size W0 w5 := (Below.refl _ _).drew.trans hb5; have HB5 := hide hb5'; have y0 := cell_kept z0 hb5'; have y1 := cell_kept x0c hb5'; have y2 := cell_kept b0c hb5'; have y3 := ((HR.out w5 hb5').2.2.1.alloc (.cells #[.int .i64 8, .int .i64 ((c : Int) % d.w), .int .i64 ((c : Int) / d.w), .int .i64 ((c : Int) % d.w), .int .i64 ((c : Int) / d.w), .int .i64 0, .int .i64 0, .slice none 0 0, .int .i64 0] 59)).cell; clear hb5 hb5')
    | (refine step_append_lies (w := w5.alloc (.cells (dcc (dAt 8 d.w c) (.slice none 0 0)).toArray 59)) rfl (.tmp 28) (.tmp 33) 34 rfl w.heap.size 59 i0 _ 9 88 Tryd.underlying34 hi hz0 hz1 hz2 rfl (by decide) (.slice none 0 0) 0 [] rfl (World.ownsRow_nil _ _ _ _) ⟨w5.heap.size, 0, none⟩ 1 1 (dcc (dAt 8 d.w c) (.slice none 0 0)) rfl rfl (World.news_of_block (cs := (dcc (dAt 8 d.w c) (.slice none 0 0)).toArray) (World.alloc_heap_new w5 _)) (fun u hu => dccs_one (L := [(dAt 8 d.w c, .slice none 0 0)]) (fun p hp => by rw [List.mem_singleton.1 hp]; rfl) u (by show u ∈ _ ++ []; rw [List.append_nil]; exact hu)) (by decide) (by unfold maxLen; omega) (by omega) (HR.out _ (HB5.out.alloc HB5.out.size _)).2.2.2.2.size _ rfl ?_; intro g7 cap7 w7 hown7 hgrow7 hat7 hlt7; have HO7 : Hid (DcOw w7 w.heap.size (.slice (some ⟨g7, 0, none⟩) 1 cap7) [(dAt 8 d.w c, .slice none 0 0)]) := hown7; have HG7 : Hid ((w5.alloc (.cells (dcc (dAt 8 d.w c) (.slice none 0 0)).toArray 59)).grownBy w7 (Value.slice none 0 0).ownBlock) := hgrow7; have HS7 := hide (cdR_step (HR.out _ HB5.out).2.2.2.2.size (by omega : w.heap.size + 1 ≠ w.heap.size + 1 + 1) (HR.out _ HB5.out).1 (HR.out _ HB5.out).2.1 (HR.out _ HB5.out).2.2.1 (HR.out _ HB5.out).2.1 (HR.out _ HB5.out).2.2.2.1 HO7.out HG7.out); have ec7 := HS7.out.2.1.cell; have ef7 := HS7.out.2.1.frozen; clear hown7 hgrow7 hat7 hlt7))
    all_goals exact ⟨w5.heap.size, g7, cap7, rfl, (HR.out _ HB5.out).2.2.2.2.trans HS7.out.2.2.2, HS7.out.1.1, HS7.out.1.2.1, HS7.out.1.2.2.1, HS7.out.1.2.2.2.2⟩
  intro e a W1 hq
  cases e <;> first | exact hq.elim | skip
  obtain ⟨B5, g7, cap7, rfl, hB1, hL1, hX1, hE1, hO1⟩ := hq
  have HB1 := hide hB1
  have HL1 := hide hL1
  have HX1 := hide hX1
  have HE1 := hide hE1
  have HO1 := hide hO1
  clear hB1 hL1 hX1 hE1 hO1 HR hcc0 b0c b0f
  have z0' := HL1.out.cell 0
  have z1' := HL1.out.cell 1
  have z2' := HL1.out.cell 2
  have z3' := HL1.out.cell 3
  have z4' := HL1.out.cell 4
  simp only [List.getElem?_toArray, List.getElem?_cons_succ, List.getElem?_cons_zero] at z0' z1' z2' z3' z4'
  have x0c' := HX1.out.cell
  have hxc1 : W1.cell? ⟨b3, o3 + c, none⟩ = some (.int .i64 ex) := HXC.out W1 HB1.out
  gi_wp2_with fail
  refine wpIn_wide.2 ?_
  go_region_held3 (fun w' => w'.cell? ⟨w.heap.size, 0, none⟩ = some (.int .i64 d.w) ∧ w'.cell? ⟨w.heap.size, 1, none⟩ = some (.int .i64 d.h) ∧ w'.cell? ⟨w.heap.size, 2, none⟩ = some (.slice (some ⟨b2, o2, none⟩) d.cost.length c2) ∧ w'.cell? ⟨w.heap.size, 3, none⟩ = some (.slice (some ⟨b3, o3, none⟩) d.exits.length c3) ∧ w'.cell? ⟨w.heap.size, 4, none⟩ = some v4 ∧ w'.cell? ⟨w.heap.size + 1, 0, none⟩ = some (.int .i64 c) ∧ w'.cell? ⟨b3, o3 + c, none⟩ = some (.int .i64 ex)) (go_keep) (first
    | (go_at_call 30; refine (HPE.out _ HB1.out.drew).mono ?_; rintro e w2 ⟨rfl, hb2⟩; have hb2' : Below W1.heap.size W1 w2 := (Below.refl _ _).drew.trans hb2; have HB2 := hide hb2'; have y0 := cell_kept z0' hb2'; have y1 := cell_kept z1' hb2'; have y2 := cell_kept z2' hb2'; have y3 := cell_kept z3' hb2'; have y4 := cell_kept z4' hb2'; have yx := cell_kept x0c' hb2'; have ye := cell_kept hxc1 hb2'; clear hb2 hb2')
    | (go_at_call 51; refine (callsIn_wide.1 (waysIn_in 3 _ _)).mono ?_; rintro e w3 ⟨rfl, rfl⟩))
  have HPR : Hid (CdR d (.slice (some ⟨b2, o2, none⟩) d.cost.length c2) (.slice (some ⟨b3, o3, none⟩) d.exits.length c3) v4 c w w2.heap.size sx [dAt 8 d.w c] [] (w2.alloc (.cells #[.int .i64 sx] 3))) := by
    have hb3 : Below W1.heap.size W1 (w2.alloc (.cells #[.int .i64 sx] 3)) := HB2.out.alloc HB2.out.size _
    exact ⟨⟨_, _, HL1.out.below hb3, HX1.out.kept (below_grown hb3) (by simp), HE1.out.kept (below_grown hb3) (by simp), Boxed.new _ _ _, HO1.out.kept hb3, rfl, (fun p hp => by rw [List.mem_singleton.1 hp])⟩, HB1.out.trans (hb3.mono HB1.out.size)⟩
  have hBnz : w.heap.size + 1 + 1 < w2.heap.size := by have h1 := HB2.out.size; have h2 := HE1.out.lt; omega
  obtain ⟨WL, hWL⟩ : ∃ W, w2.alloc (.cells #[.int .i64 sx] 3) = W := ⟨_, rfl⟩
  have hWLz : WL.heap.size = w2.heap.size + 1 := by rw [← hWL, World.size_alloc]
  rw [hWL] at HPR ⊢
  obtain ⟨Bn, hBn⟩ : ∃ n, w2.heap.size = n := ⟨_, rfl⟩
  rw [hBn] at HPR hBnz hWLz ⊢
  have HBL := hide HPR.out.2
  have HBN : Hid (WL.cell? ⟨Bn, 0, none⟩ = some (.int .i64 sx)) := by
    obtain ⟨⟨v, LV, h1, h2, h3, h4, _⟩, _⟩ := HPR.out
    exact h4.cell
  rename_i hHeld
  clear hHeld hWL hBn HB2 y0 y1 y2 y3 y4 yx ye hW0
  gi_wp2_with fail
  have hTW : w.heap.size ≤ WL.heap.size := by omega
  have hTW2 : Bn < WL.heap.size := by omega
  obtain ⟨hP0, hP1, hP2, hP3⟩ := HBB.out
  refine wpIn_rangeFunc_ownG rfl (by omega) (gf := 63) (lb := #[.pointer (some ⟨Bn, 0, none⟩)]) rfl trivial (enters_of Tryd.func63 (by kernel_rfl) rfl)
    (ways_stops (3 - 1) (by omega) Bn sx (barw d c) hP0 hP1 hP2 hP3 WL w HBN.out HBL.out) kpB_t (kpB_b hTW hTW2) (Below.refl _ _) (fun _ => rfl)
    (CdR d (.slice (some ⟨b2, o2, none⟩) d.cost.length c2) (.slice (some ⟨b3, o3, none⟩) d.exits.length c3) v4 c w Bn sx [dAt 8 d.w c]) (fun _ _ _ => False) (cdR_own d _ _ v4 c w Bn sx _ _ hTW) (fun _ _ _ _ _ h _ _ => h) HPR.out
    (fun x => { tmps := #[.agg #[.int .i64 d.w, .int .i64 d.h, .slice (some ⟨b2, o2, none⟩) d.cost.length c2, .slice (some ⟨b3, o3, none⟩) d.exits.length c3, v4], .int .i64 c, .pointer (some ⟨w.heap.size, 0, none⟩), .pointer (some ⟨w.heap.size + 1, 0, none⟩), .slice none 0 0, .pointer (some ⟨w.heap.size + 1 + 1, 0, none⟩), .int .i64 0, undef, .int .i64 (x.1 : Nat), undef, .pointer (some ⟨w.heap.size, 2, none⟩), .slice (some ⟨b2, o2, none⟩) d.cost.length c2, .int .i64 c, .pointer (some ⟨b2, o2 + c, none⟩), .int .i64 0, .int .i64 0, undef, undef, undef, undef, undef, undef, undef, undef, undef, undef, .bool true, .bool true, .slice none 0 0, .pointer (some ⟨w.heap.size, 0, none⟩), .int .i64 d.w, .int .i64 c, .agg #[.int .i64 8, .int .i64 ((c : Int) % d.w), .int .i64 ((c : Int) / d.w), .int .i64 ((c : Int) % d.w), .int .i64 ((c : Int) / d.w), .int .i64 0, .int .i64 0, .slice none 0 0, .int .i64 0], .slice (some ⟨B5, 0, none⟩) 1 1, .slice (some ⟨g7, 0, none⟩) 1 cap7, undef, undef, .agg #[.int .i64 d.w, .int .i64 d.h, .slice (some ⟨b2, o2, none⟩) d.cost.length c2, .slice (some ⟨b3, o3, none⟩) d.exits.length c3, v4], .int .i64 c, .int .i64 px, .pointer (some ⟨w.heap.size, 3, none⟩), .slice (some ⟨b3, o3, none⟩) d.exits.length c3, .int .i64 c, .pointer (some ⟨b3, o3 + c, none⟩), .int .i64 ex, .int .i64 sx, .func (.func 63) #[] #[.pointer (some ⟨Bn, 0, none⟩)], .int .i64 (x.1 : Nat), undef, undef, undef, undef, undef, undef, undef, undef, undef, undef, undef], defers := [] }) ?assign ?body ?done ?stop
  case assign =>
    intro l x W K hK
    dsimp only [encW]
    gi_wp2
    exact hK
  case body =>
    intro l pre x W _ hl
    rw [bars_wall d c hg1] at hl
    exact absurd hl (Nat.not_lt_zero _)
  case done =>
    rintro D ys W hD rfl ⟨⟨v, LV, hL, hX, hE, hN, hO, hLV, hnil⟩, hB⟩ hK
    obtain ⟨va, vc, rfl⟩ := hO.slice
    have ec := hE.cell
    have HB := hide hB
    have HKD := hide hK
    have HO := hide hO
    have HLV := hide (And.intro hLV hnil)
    clear hL hX hE hN hB hK hO hLV hnil
    gi_wp2
    refine ⟨by simp, .inl ⟨_, _, rfl, run_takeDeferred HKD.out, ?_⟩⟩
    refine ⟨_, results_tmp rfl _ _ _, ?_⟩
    first
      | refine ⟨_, LV, rfl, World.ownsRow.kept HO.out (grownBy_putObj' W D _) ?_, ?_, HLV.out.2, HB.out.trans (belowK_b (w := w) (Nat.le_refl _) W D _ _ (by omega) HKD.out rfl rfl)⟩
      | refine ⟨_, rfl, LV, World.ownsRow.kept HO.out (grownBy_putObj' W D _) ?_, ?_, (fun a b h => HLV.out.2 (a, b) h), HB.out.trans (belowK_b (w := w) (Nat.le_refl _) W D _ _ (by omega) HKD.out rfl rfl)⟩
    · exact ownBlock_ne HO.out HKD.out rfl
    · rw [HLV.out.1]
      rw [bars_wall d c hg1]; unfold cellD; rw [if_pos hg1]; rfl
  case stop =>
    rintro D cc pre W _ _ h _
    exact h.elim
end Go.Proofs.YtaapababeecmeaaDoor
