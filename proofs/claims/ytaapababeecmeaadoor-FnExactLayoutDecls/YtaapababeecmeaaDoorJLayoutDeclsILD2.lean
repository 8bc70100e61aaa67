/-
  The walk of cellDecls.
-/
import Derived.Test.YtaapababeecmeaaDoorJLayoutDeclsILD1
import Derived.Deep.RegionHeld3
namespace Go.Proofs.YtaapababeecmeaaDoor
open Go.RowKit Go.Shelf

attribute [local go_sem] Oper.semAt_some

set_option maxRecDepth 1000000 in
set_option maxHeartbeats 4000000 in
theorem cellDecls_one (d : Ly) (v2 v3 v4 : Value) (c : Nat) (w : World) (hm : MvOk w) (hv : IS w v2 d.cost) (hx : IS w v3 d.exits) (hok : LyOk d) (hc : c < d.cost.length) (hg1 : d.cost.getD c 0 = 1) :
    Calls Tryd.prog 37 #[lyagg d v2 v3 v4, .int .i64 c] w fun e w' => ∃ v LV, e = .returned v ∧ DcOw w' w.heap.size v LV ∧ LV.map (·.1) = cellD d c ∧ (∀ p ∈ LV, p.2 = .slice none 0 0) ∧ Below w.heap.size w w' := by
  have HV := hide hv
  have HPE : Hid (∀ W, Below w.heap.size w W → Calls Tryd.prog 30 #[lyagg d v2 v3 v4, .int .i64 c] W fun e w' => e = .returned (.int .i64 (pex d c)) ∧ Below W.heap.size W w') := fun W hb => possible_any d v2 v3 v4 c W (hm.below hb) (hv.below hb) hok.w0 hok.w1 hok.h1 hok.cl hc
  have hce : c < d.exits.length := by have := hok.cl; have := hok.el; omega
  have HBB := hide (bar_bits d c (hok.cells c hc))
  obtain ⟨a2, b2, o2, c2, rfl, ha2, hc2⟩ := hv
  obtain rfl := ha2 (by omega)
  obtain ⟨a3, b3, o3, c3, rfl, ha3, hc3⟩ := hx
  obtain rfl := ha3 (by omega)
  have hcc := hc2 c hc
  have hxc := hc3 c hce
  unfold lyagg at HPE ⊢
  have hcl : (c : Int) < (d.cost.length : Int) := by omega
  have hel : (c : Int) < (d.exits.length : Int) := by omega
  have HDA : Hid (∀ kind W, Calls Tryd.prog 38 #[.int .i64 kind, .int .i64 d.w, .int .i64 (c : Nat)] W fun e w' => e = .returned (.agg #[.int .i64 kind, .int .i64 ((c : Int) % d.w), .int .i64 ((c : Int) / d.w), .int .i64 ((c : Int) % d.w), .int .i64 ((c : Int) / d.w), .int .i64 0, .int .i64 0, .slice none 0 0, .int .i64 0]) ∧ Below W.heap.size W w') := fun kind W => declAt_any d.w kind c W hok.w0 (by
    have h1 := hok.cl
    have h2 : d.w * d.h ≤ 40 * 40 := Int.mul_le_mul hok.w1 hok.h1 (by have := hok.h0; omega) (by decide)
    omega)
  obtain ⟨W0, hW0⟩ : ∃ W, ((w.alloc (.cells #[.int .i64 d.w, .int .i64 d.h, .slice (some ⟨b2, o2, none⟩) d.cost.length c2, .slice (some ⟨b3, o3, none⟩) d.exits.length c3, v4] 30)).alloc (.cells #[.int .i64 c] 3)).alloc (.cells #[.slice none 0 0] 34) = W := ⟨_, rfl⟩
  have hB0 : Below w.heap.size w W0 := by rw [← hW0]; exact (((Below.refl _ w).alloc (Nat.le_refl _) _).alloc (by simp) _).alloc (by simp; omega) _
  have hL0 : Blk W0 w.heap.size 30 #[.int .i64 d.w, .int .i64 d.h, .slice (some ⟨b2, o2, none⟩) d.cost.length c2, .slice (some ⟨b3, o3, none⟩) d.exits.length c3, v4] := by
    rw [← hW0]; exact ((Blk.new _ _ _).alloc _).alloc _
  have hX0 : Boxed W0 (w.heap.size + 1) 3 (.int .i64 c) := by
    rw [← hW0]
    have := (Boxed.new (w.alloc (.cells #[.int .i64 d.w, .int .i64 d.h, .slice (some ⟨b2, o2, none⟩) d.cost.length c2, .slice (some ⟨b3, o3, none⟩) d.exits.length c3, v4] 30)) 3 (.int .i64 c)).alloc (.cells #[.slice none 0 0] 34)
    rwa [World.size_alloc] at this
  have hE0 : Boxed W0 (w.heap.size + 1 + 1) 34 (.slice none 0 0) := by
    rw [← hW0]
    have := Boxed.new ((w.alloc (.cells #[.int .i64 d.w, .int .i64 d.h, .slice (some ⟨b2, o2, none⟩) d.cost.length c2, .slice (some ⟨b3, o3, none⟩) d.exits.length c3, v4] 30)).alloc (.cells #[.int .i64 c] 3)) 34 (.slice none 0 0)
    rwa [World.size_alloc, World.size_alloc] at this
  have x0c := hX0.cell
  have z2 := hL0.cell 2
  simp only [List.getElem?_toArray, List.getElem?_cons_succ, List.getElem?_cons_zero] at z2
  have hcc0 := cell_kept hcc hB0
  have hxc0 := cell_kept hxc hB0
  have HC2 := hide hc2
  have HC3 := hide hc3
  have HB0 := hide hB0
  have HL0 := hide hL0
  have HX0 := hide hX0
  have HE0 := hide hE0
  have HM := hide hm
  have HOK := hide hok
  clear hB0 hL0 hX0 hE0 hm hc2 hcc hc3 hxc hok
  refine (callsIn_wide (n := 3)).1 ?_
  refine callsIn_of_wp_marks Tryd.func37 rfl trivial ?_ rfl
  simp only [Tryd.ntmps37, List.size_toArray, List.length_cons, List.length_nil, Nat.reduceAdd, Nat.reduceSub, Array.replicate_succ, Array.replicate_zero, List.push_toArray, List.append_toArray, List.nil_append, List.cons_append]
  rw [hg1] at hcc0
  obtain ⟨sx, hsx⟩ : ∃ s, bits .andNot .i64 (pex d c) (d.exits.getD c 0) = s := ⟨_, rfl⟩
  rw [hsx] at HBB
  obtain ⟨px, hpx⟩ : ∃ p, pex d c = p := ⟨_, rfl⟩
  rw [hpx] at HPE hsx
  obtain ⟨ex, hex⟩ : ∃ p, d.exits.getD c 0 = p := ⟨_, rfl⟩
  rw [hex] at hsx hxc0
  clear hpx hex
  have z0 := HL0.out.cell 0
  have z1 := HL0.out.cell 1
  have z3 := HL0.out.cell 3
  have z4 := HL0.out.cell 4
  simp only [List.getElem?_toArray, List.getElem?_cons_succ, List.getElem?_cons_zero] at z0 z1 z3 z4
  have hmx : Tryd.prog.follows .mixedOrders = true := by kernel_rfl
  gi_wp2_with fail
  refine wpIn_wide.2 ?_
  go_region_held3 (fun w' => w'.cell? ⟨w.heap.size, 0, none⟩ = some (.int .i64 d.w) ∧ w'.cell? ⟨w.heap.size, 1, none⟩ = some (.int .i64 d.h) ∧ w'.cell? ⟨w.heap.size, 2, none⟩ = some (.slice (some ⟨b2, o2, none⟩) d.cost.length c2) ∧ w'.cell? ⟨w.heap.size, 3, none⟩ = some (.slice (some ⟨b3, o3, none⟩) d.exits.length c3) ∧ w'.cell? ⟨w.heap.size, 4, none⟩ = some v4 ∧ w'.cell? ⟨w.heap.size + 1, 0, none⟩ = some (.int .i64 c) ∧ w'.cell? ⟨b3, o3 + c, none⟩ = some (.int .i64 ex)) (go_keep) (first
    | (go_at_call 30; refine (HPE.out _ HB0.out.drew).mono ?_; rintro e w2 ⟨rfl, hb2⟩; have hb2' : Below W0.heap.size W0 w2 := (Below.refl _ _).drew.trans hb2; have HB2 := hide hb2'; have y0 := cell_kept z0 hb2'; have y1 := cell_kept z1 hb2'; have y2 := cell_kept z2 hb2'; have y3 := cell_kept z3 hb2'; have y4 := cell_kept z4 hb2'; have yx := cell_kept x0c hb2'; have ye := cell_kept hxc0 hb2'; clear hb2 hb2')
    | (go_at_call 51; refine (callsIn_wide.1 (waysIn_in 3 _ _)).mono ?_; rintro e w3 ⟨rfl, rfl⟩))
  have HPR : Hid (CdR d (.slice (some ⟨b2, o2, none⟩) d.cost.length c2) (.slice (some ⟨b3, o3, none⟩) d.exits.length c3) v4 c w w2.heap.size sx [] [] (w2.alloc (.cells #[.int .i64 sx] 3))) := by
    have hb3 : Below W0.heap.size W0 (w2.alloc (.cells #[.int .i64 sx] 3)) := HB2.out.alloc HB2.out.size _
    exact ⟨⟨_, _, HL0.out.below hb3, HX0.out.kept (below_grown hb3) (by simp), HE0.out.kept (below_grown hb3) (by simp), Boxed.new _ _ _, (DcOw.nil _ _).kept hb3, rfl, (fun p hp => by cases hp)⟩, HB0.out.trans (hb3.mono HB0.out.size)⟩
  have hBnz : w.heap.size + 1 + 1 < w2.heap.size := by have h1 := HB2.out.size; have h2 := HE0.out.lt; omega
  obtain ⟨WL, hWL⟩ : ∃ W, w2.alloc (.cells #[.int .i64 sx] 3) = W := ⟨_, rfl⟩
  have hWLz : WL.heap.size = w2.heap.size + 1 := by rw [← hWL, World.size_alloc]
  rw [hWL] at HPR ⊢
  obtain ⟨Bn, hBn⟩ : ∃ n, w2.heap.size = n := ⟨_, rfl⟩
  rw [hBn] at HPR hBnz hWLz ⊢
  have HBL := hide HPR.out.2
  have HBN : Hid (WL.cell? ⟨Bn, 0, none⟩ = some (.int .i64 sx)) := by
    obtain ⟨⟨v, LV, h1, h2, h3, h4, _⟩, _⟩ := HPR.out
    exact h4.cell
  rename_i hHeld
  clear hHeld hWL hBn HB2 y0 y1 y2 y3 y4 yx ye hW0
  gi_wp2_with fail
  have hTW : w.heap.size ≤ WL.heap.size := by omega
  have hTW2 : Bn < WL.heap.size := by omega
  obtain ⟨hP0, hP1, hP2, hP3⟩ := HBB.out
  refine wpIn_rangeFunc_ownG rfl (by omega) (gf := 63) (lb := #[.pointer (some ⟨Bn, 0, none⟩)]) rfl trivial (enters_of Tryd.func63 (by kernel_rfl) rfl)
    (ways_stops (3 - 1) (by omega) Bn sx (barw d c) hP0 hP1 hP2 hP3 WL w HBN.out HBL.out) kpB_t (kpB_b hTW hTW2) (Below.refl _ _) (fun _ => rfl)
    (CdR d (.slice (some ⟨b2, o2, none⟩) d.cost.length c2) (.slice (some ⟨b3, o3, none⟩) d.exits.length c3) v4 c w Bn sx []) (fun _ _ _ => False) (cdR_own d _ _ v4 c w Bn sx _ _ hTW) (fun _ _ _ _ _ h _ _ => h) HPR.out
    (fun x => { tmps := #[.agg #[.int .i64 d.w, .int .i64 d.h, .slice (some ⟨b2, o2, none⟩) d.cost.length c2, .slice (some ⟨b3, o3, none⟩) d.exits.length c3, v4], .int .i64 c, .pointer (some ⟨w.heap.size, 0, none⟩), .pointer (some ⟨w.heap.size + 1, 0, none⟩), .slice none 0 0, .pointer (some ⟨w.heap.size + 1 + 1, 0, none⟩), .int .i64 1, undef, .int .i64 (x.1 : Nat), undef, .pointer (some ⟨w.heap.size, 2, none⟩), .slice (some ⟨b2, o2, none⟩) d.cost.length c2, .int .i64 c, .pointer (some ⟨b2, o2 + c, none⟩), .int .i64 1, .int .i64 1, undef, undef, undef, undef, undef, undef, undef, undef, undef, undef, .bool false, .bool false, undef, undef, undef, undef, undef, undef, undef, .bool true, .bool true, .agg #[.int .i64 d.w, .int .i64 d.h, .slice (some ⟨b2, o2, none⟩) d.cost.length c2, .slice (some ⟨b3, o3, none⟩) d.exits.length c3, v4], .int .i64 c, .int .i64 px, .pointer (some ⟨w.heap.size, 3, none⟩), .slice (some ⟨b3, o3, none⟩) d.exits.length c3, .int .i64 c, .pointer (some ⟨b3, o3 + c, none⟩), .int .i64 ex, .int .i64 sx, .func (.func 63) #[] #[.pointer (some ⟨Bn, 0, none⟩)], .int .i64 (x.1 : Nat), undef, undef, undef, undef, undef, undef, undef, undef, undef, undef, undef], defers := [] }) ?assign ?body ?done ?stop
  case assign =>
    intro l x W K hK
    dsimp only [encW]
    gi_wp2
    exact hK
  case body =>
    rintro l pre x W ⟨⟨v, LV, hL, hX, hE, hN, hO, hLV, hnil⟩, hB⟩ hlt
    have hLl : LV.length ≤ 100 := by
      have h1 := congrArg List.length hLV
      have h2 := wyr_le (barw d c)
      rw [List.length_map, List.length_append, barsL_length] at h1
      have h3 : ([] : List Dc).length ≤ 1 := by simp
      omega
    have z0 := hL.cell 0
    simp only [List.getElem?_toArray, List.getElem?_cons_zero] at z0
    have xc := hX.cell
    have HLL := hide hLl
    have HK := hide (And.intro hLV hnil)
    have HR := hide (fun w5 (hb5 : Below W.heap.size W w5) => (⟨hL.below hb5, hX.kept (below_grown hb5) (by simp), hE.kept (below_grown hb5) (by simp), hN.kept (below_grown hb5) (by simp), hO.kept hb5, hB.trans (hb5.mono hB.size), KeepsOthers.of_grownBy (below_grown hb5) (fun j o e => by cases e), hb5.mono hB.size⟩ : Blk w5 _ _ _ ∧ Boxed w5 _ _ _ ∧ Boxed w5 _ _ _ ∧ Boxed w5 _ _ _ ∧ DcOw w5 _ _ _ ∧ Below w.heap.size w w5 ∧ KeepsOthers W w5 ∧ Below w.heap.size W w5))
    have HN := hide hN.cell
    have HSZ := hide hB.size
    obtain ⟨va, vc, rfl⟩ := hO.slice
    obtain ⟨A6, hA6⟩ : ∃ A : Array Value, #[.int .i64 12, .int .i64 ((c : Int) % d.w), .int .i64 ((c : Int) / d.w), .int .i64 ((c : Int) % d.w), .int .i64 ((c : Int) / d.w), .int .i64 (x.1 : Nat), .int .i64 0, .slice none 0 0, .int .i64 0] = A := ⟨_, rfl⟩
    have HA6 := hide hA6
    have HR6 : Hid (∀ w5 : World, Below W.heap.size W w5 → Below W.heap.size W (w5.alloc (.cells A6 59))) := fun w5 h5 => h5.alloc h5.size _
    clear hA6
    clear hlt hLl hL hX hE hN hO hLV hnil hB
    gi_wp2_with (first
      | (refine ⟨trivial, ?_⟩; gi_at_call 38; refine (CallsIn.inRound l (callsIn_wide.2 (HDA.out 12 _))).mono ?_; rintro e w5 ⟨rfl, hb5⟩; have e5 := (HR.out w5 hb5).2.2.1.cell; have e6 := ((HR.out w5 hb5).2.2.1.alloc (.cells #[.int .i64 12, .int .i64 ((c : Int) % d.w), .int .i64 ((c : Int) / d.w), .int .i64 ((c : Int) % d.w), .int .i64 ((c : Int) / d.w), .int .i64 (x.1 : Nat), .int .i64 0, .slice none 0 0, .int .i64 0] 59)).cell; have HB5 := hide hb5; clear hb5 z0 xc)
      | (gi_at_builtin; refine wpIn_app1Dc (W := w5.alloc (.cells #[.int .i64 12, .int .i64 ((c : Int) % d.w), .int .i64 ((c : Int) / d.w), .int .i64 ((c : Int) % d.w), .int .i64 ((c : Int) / d.w), .int .i64 (x.1 : Nat), .int .i64 0, .slice none 0 0, .int .i64 0] 59)) rfl (.tmp 54) (.tmp 56) rfl w.heap.size (.slice va LV.length vc) LV rfl (HR.out _ (HB5.out.alloc HB5.out.size _)).2.2.2.2.1 { dAt 12 d.w c with dir := (x.1 : Int) } (.slice none 0 0) (w5.heap.size + 1) rfl (World.size_alloc _ _) rfl (by have := HLL.out; omega) (HR.out _ (HB5.out.alloc HB5.out.size _)).2.2.2.2.2.1.size ?_; intro v7 w7 l7 hl7 hO7 hg7; obtain ⟨va7, vc7, rfl⟩ := hO7.out.slice; have HS7 := hide (cdR_step (HR.out _ (HB5.out.alloc HB5.out.size _)).2.2.2.2.2.1.size (by omega : Bn ≠ w.heap.size + 1 + 1) (HR.out _ (HB5.out.alloc HB5.out.size _)).1 (HR.out _ (HB5.out.alloc HB5.out.size _)).2.1 (HR.out _ (HB5.out.alloc HB5.out.size _)).2.2.1 (HR.out _ (HB5.out.alloc HB5.out.size _)).2.2.2.1 (HR.out _ (HB5.out.alloc HB5.out.size _)).2.2.2.2.1 hO7.out hg7.out); have ec7 := HS7.out.2.1.cell; have ef7 := HS7.out.2.1.frozen; clear e5 e6))
    obtain ⟨⟨q1, q2, q3, q4, q5⟩, _, q6, q7⟩ := HS7.out
    obtain ⟨_, _, _, _, _, r1, r2, r3⟩ := HR.out _ (HB5.out.alloc HB5.out.size (.cells #[.int .i64 12, .int .i64 ((c : Int) % d.w), .int .i64 ((c : Int) / d.w), .int .i64 ((c : Int) % d.w), .int .i64 ((c : Int) / d.w), .int .i64 (x.1 : Nat), .int .i64 0, .slice none 0 0, .int .i64 0] 59))
    refine ⟨(r2.trans q6).from _, ⟨r3.trans q7, q4.cell.trans HN.out.symm⟩, ⟨_, l7, q1, q2, q3, q4, q5, ?_, ?_⟩, r1.trans q7⟩
    · rw [hl7.out, List.map_append, HK.out.1, barsL_snoc, List.append_assoc]
      rfl
    · intro p hp
      rw [hl7.out] at hp
      rcases List.mem_append.1 hp with h | h
      · exact HK.out.2 p h
      · rw [List.mem_singleton.1 h]
  case done =>
    rintro D ys W hD rfl ⟨⟨v, LV, hL, hX, hE, hN, hO, hLV, hnil⟩, hB⟩ hK
    obtain ⟨va, vc, rfl⟩ := hO.slice
    have ec := hE.cell
    have HB := hide hB
    have HKD := hide hK
    have HO := hide hO
    have HLV := hide (And.intro hLV hnil)
    clear hL hX hE hN hB hK hO hLV hnil
    gi_wp2
    refine ⟨by simp, .inl ⟨_, _, rfl, run_takeDeferred HKD.out, ?_⟩⟩
    refine ⟨_, results_tmp rfl _ _ _, ?_⟩
    first
      | refine ⟨_, LV, rfl, World.ownsRow.kept HO.out (grownBy_putObj' W D _) ?_, ?_, HLV.out.2, HB.out.trans (belowK_b (w := w) (Nat.le_refl _) W D _ _ (by omega) HKD.out rfl rfl)⟩
      | refine ⟨_, rfl, LV, World.ownsRow.kept HO.out (grownBy_putObj' W D _) ?_, ?_, (fun a b h => HLV.out.2 (a, b) h), HB.out.trans (belowK_b (w := w) (Nat.le_refl _) W D _ _ (by omega) HKD.out rfl rfl)⟩
    · exact ownBlock_ne HO.out HKD.out rfl
    · rw [HLV.out.1]
      rw [← bars_all d c (fun j hj => (HOK.out.cells j hj).c0) (by rw [hg1]; decide)]; unfold cellD costD; rw [hg1, if_neg (by decide), if_pos rfl]
  case stop =>
    rintro D cc pre W _ _ h _
    exact h.elim
end Go.Proofs.YtaapababeecmeaaDoor
