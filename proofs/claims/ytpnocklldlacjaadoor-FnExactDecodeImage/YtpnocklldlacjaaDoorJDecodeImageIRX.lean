/-
  The walk of impl's reader: distances.
-/
import Derived.Test.YtpnocklldlacjaaDoorJDecodeImageICH
import Derived.Test.YtpnocklldlacjaaDoorJDecodeImageIRH
import Derived.RangeFuncWrites
import Derived.Maps.OwnIn
import Derived.BigRegionIn
namespace Go.Proofs.YtpnocklldlacjaaDoor
open Go.RowKit Go.Shelf

attribute [local go_sem] Oper.semAt_some

/-- Distance k of these bytes. -/
def dAtB (t : ByteArray) (k : Nat) : Int := di (fb t (2 * k) + fb t (2 * k + 1) * 256)

theorem info_parts3 : ∃ i, Tryd.prog.info? 3 = some i ∧ i.zero = some (.int .i64 0) ∧ i.size = 1 ∧ i.bytes = 8 := by
  have h := Tryd.info3
  cases hi : Tryd.prog.info? 3 with
  | none => rw [hi] at h; cases h
  | some i =>
    rw [hi] at h
    simp only [Option.map_some, Option.some.injEq, Prod.mk.injEq] at h
    exact ⟨i, rfl, h.1, h.2.1, h.2.2⟩
/-- append of one number, laid in a new block, onto a row of the call's own, in a fence. -/
theorem wpIn_app1I {F : Fence} {nF : Nat} {ops : Array Oper} {rest : List Oper} {o : Oper} {a : Act} {Q : Exit → Act → World → Prop} {W : World} (hgd : o.guard = none) (s x : Operand)
    (ho : o.op = .call { callee := .builtin .append, args := #[s, x], argTypes := #[57, 57] }) (B : Nat) (v : Value) (xs : List Int) (hs : a.eval s = v) (hown : W.ownsRow B 3 1 v xs.length (ci xs))
    (n : Int) (g0 : Nat) (hx : a.eval x = .slice (some ⟨g0, 0, none⟩) 1 1) (hg0 : W.heap.size = g0) (hlen : xs.length + 1 ≤ 100000000) (hbase : B ≤ W.heap.size)
    (h : ∀ v' w' l, Hid (l = xs ++ [n]) → Hid (w'.ownsRow B 3 1 v' l.length (ci l)) → Hid ((W.alloc (.cells #[.int .i64 n] 3)).grownBy w' v.ownBlock) → wpListIn F nF Tryd.prog ops Q rest (a.put o.dst v') w') : wpListIn F nF Tryd.prog ops Q (o :: rest) a (W.alloc (.cells #[.int .i64 n] 3)) := by
  subst hg0
  have hk := hown.alloc (.cells #[.int .i64 n] 3)
  obtain ⟨i0, hi, hz0, hz1, hz2⟩ := info_parts3
  refine wpListIn_append_own_at _ hgd s x 57 ho B 3 i0 _ 1 8 Tryd.underlying57 hi hz0 hz1 hz2 rfl (by decide) v xs.length (ci xs) hs hk ⟨W.heap.size, 0, none⟩ 1 1 (ci [n]) hx rfl (fun j y hj => ?_) (fun y hy => ?_) (by unfold maxLen; omega) (by omega) (by rw [World.size_alloc]; omega) (fun v' w' h1 h2 _ _ => ?_)
  · match j, hj with
    | 0, hj =>
      have e : (⟨W.heap.size, 0, none⟩ : Addr).add 0 = ⟨W.heap.size, 0, none⟩ := by unfold Addr.add; split <;> simp_all
      rw [e, (Blk.new _ _ _).cell 0, ← hj]
      rfl
  · rw [List.mem_singleton.1 (show y ∈ [Value.int .i64 n] from hy)]
    rfl
  · refine h v' w' (xs ++ [n]) rfl ?_ h2
    show World.ownsRow _ _ _ _ _ _ _
    have e : ci (xs ++ [n]) = ci xs ++ ci [n] := by unfold ci; rw [List.map_append]
    rw [List.length_append, e]
    exact h1
/-- What a round finds. -/
def RxI (w1 : World) (Bd base m : Nat) (t : ByteArray) (pre : List (Fin m)) (W : World) : Prop :=
  (∃ v, Boxed W Bd 57 v ∧ W.ownsRow base 3 1 v (pre.map fun x => dAtB t x.1).length (ci (pre.map fun x => dAtB t x.1))) ∧ Wrs [Bd] w1 W ∧ base ≤ W.heap.size
theorem rxI_own (w1 : World) (Bd base m : Nat) (t : ByteArray) (B : Nat) (hB : w1.heap.size ≤ B) : OwnFrom B (RxI w1 Bd base m t) := by
  rintro pre X Y row ⟨⟨v, h1, h2⟩, h3, h4z⟩ hg hr
  refine ⟨⟨v, box_kept h1 hg (fun r e => (hr r e).2), World.ownsRow.kept h2 hg ?_⟩, ?_, Nat.le_trans h4z hg.size⟩
  · cases hv : v.ownBlock with
    | none => exact .inl rfl
    | some k =>
      refine .inr fun e => ?_
      obtain ⟨o, ho, hc⟩ := (hr k e.symm).2
      rcases h2.2 with ⟨h4, _⟩ | ⟨k', cap, cur, h4, _, h5, _⟩
      · rw [h4] at hv
        simp [Value.ownBlock] at hv
      · rw [h4] at hv
        simp only [Value.ownBlock, Option.some.injEq] at hv
        subst hv
        rw [h5] at ho
        injection ho with ho
        subst ho
        cases hc
  · exact ⟨hg.os.trans h3.os, hg.tape.trans h3.tape, hg.output.trans h3.output, Nat.le_trans h3.size hg.size, fun k hk hb => (hg.block k (Nat.lt_of_lt_of_le hk h3.size) (fun e => by have := (hr k e.symm).1; omega)).trans (h3.blk k hk hb)⟩

set_option maxRecDepth 1000000 in
set_option maxHeartbeats 4000000 in
theorem rdist_any {w : World} {g b o c C : Nat} {a : Addr} {s : ByteArray} {st : Nat × Bool} (hC : C ≤ 1600) (h : Rz w g b o c a s st) :
    Calls Tryd.prog 72 #[.pointer (some ⟨g, 0, none⟩), .int .i64 C] w fun e w' => ∃ v m, e = .returned v ∧ (rb (fb s) s.size st (2 * C)).1.size = 2 * m ∧ w'.ownsRow w.heap.size 3 1 v m (ci ((List.range m).map (dAtB (rb (fb s) s.size st (2 * C)).1))) ∧ Rz w' g b o c a s (rb (fb s) s.size st (2 * C)).2 ∧ Wrs [g] w w' := by
  obtain ⟨m, hm⟩ : ∃ m, (rb (fb s) s.size st (2 * C)).1.size = 2 * m := by
    unfold rb
    split
    · exact ⟨0, rfl⟩
    · exact ⟨C, by show (byt _).size = _; rw [byt_size]; simp⟩
  have hmC : m ≤ 1600 := by
    have := rb_len (s := s) (st := st) (n := 2 * C)
    omega
  have HTK := hide (fun V (hV : Rz V g b o c a s st) => hV.take (n := 2 * C) (by omega))
  obtain ⟨t, ht⟩ : ∃ t, (rb (fb s) s.size st (2 * C)).1 = t := ⟨_, rfl⟩
  obtain ⟨sa, hsa⟩ : ∃ t, (rb (fb s) s.size st (2 * C)).2 = t := ⟨_, rfl⟩
  rw [ht] at hm
  simp only [ht, hsa] at HTK ⊢
  have e2 : ((2 * C : Nat) : Int) = 2 * (C : Int) := by push_cast; rfl
  rw [e2] at HTK
  clear e2
  have HM := hide hm
  have HRW := hide h
  have hgl := h.lt
  obtain ⟨Bd, hBd⟩ : ∃ B, w.heap.size = B := ⟨_, rfl⟩
  obtain ⟨w0, hw0⟩ : ∃ W, w.alloc (.cells #[.slice none 0 0] 57) = W := ⟨_, rfl⟩
  have hb0 : Below w.heap.size w w0 := by rw [← hw0]; exact (Below.refl _ _).alloc (Nat.le_refl _) _
  have HX0 : Hid (Boxed w0 Bd 57 (.slice none 0 0)) := by rw [← hw0, ← hBd]; exact Boxed.new _ _ _
  have HR0 := hide (h.below hb0)
  have HW0 : Hid (Wrs [g] w w0) := Wrs.of_below hb0
  have hs0 : Bd + 1 = w0.heap.size := by rw [← hw0, World.size_alloc, hBd]
  have HWW := hide hw0
  have HBD := hide hBd
  clear ht hsa hm h hb0 hw0 hBd
  refine (callsIn_wide (n := 3)).1 ?_
  refine callsIn_of_wp_marks Tryd.func72 rfl trivial ?_ rfl
  simp only [Tryd.ntmps72, List.size_toArray, List.length_cons, List.length_nil, Nat.reduceAdd, Nat.reduceSub, Array.replicate_succ, Array.replicate_zero, List.push_toArray, List.append_toArray, List.nil_append, List.cons_append]
  gi_wp2_with fail
  rw [HWW.out, HBD.out]
  refine ⟨trivial, (callsIn_wide.2 (HTK.out _ HR0.out)).mono ?_⟩
  rintro e w1 ⟨v1, rfl, hbs, hcp, hr1, hw1⟩
  have hBg : Bd ≠ g := by have := HBD.out; omega
  have HR1 := hide hr1
  have HW1 : Hid (Wrs [g] w w1) := HW0.out.trans hw1
  have HX1 : Hid (Boxed w1 Bd 57 (.slice none 0 0)) := (hw1.blk Bd (by omega) (by simp; exact hBg)).trans HX0.out
  have hs1 : Bd < w1.heap.size := by have := hw1.size; omega
  obtain ⟨a1, b1, o1, c1, rfl, ha1, hc1⟩ := hbs
  rw [HM.out] at ha1 hcp ⊢
  have hcp1 : 2 * m ≤ c1 := hcp
  have HCT : Hid (∀ j, j < 2 * m → w1.cell? ⟨b1, o1 + j, none⟩ = some (.int .u8 (fb t j : Nat))) := fun j hj => hc1 j (by rw [HM.out]; exact hj)
  clear hr1 hw1 hcp hc1 HR0 HW0 HX0 HTK
  gi_wp2_with fail
  refine ⟨trivial, (chunk_in _ a1 (2 * m) c1 w1).mono ?_⟩
  rintro e w2 ⟨rfl, rfl⟩
  obtain ⟨B1, hB1⟩ : ∃ B, w1.heap.size = B := ⟨_, rfl⟩
  obtain ⟨WL, hWL⟩ : ∃ W, (w1.alloc (.cells #[.slice a1 (2 * m) c1] 37)).alloc (.cells #[.int .i64 2] 3) = W := ⟨_, rfl⟩
  have hbL : Below w1.heap.size w1 WL := by rw [← hWL]; exact ((Below.refl _ _).alloc (Nat.le_refl _) _).alloc (by rw [World.size_alloc]; omega) _
  have hsL : WL.heap.size = B1 + 1 + 1 := by rw [← hWL, World.size_alloc, World.size_alloc, hB1]
  have HC1 : Hid (WL.cell? ⟨B1, 0, none⟩ = some (.slice a1 (2 * m) c1)) := by
    rw [← hWL, ← hB1]
    exact ((Blk.new _ _ _).alloc _).cell 0
  have HC2 : Hid (WL.cell? ⟨B1 + 1, 0, none⟩ = some (.int .i64 2)) := by
    have h := (Blk.new (w1.alloc (.cells #[.slice a1 (2 * m) c1] 37)) 3 #[.int .i64 2]).cell 0
    rw [World.size_alloc, hWL, hB1] at h
    exact h
  have HXL : Hid (Boxed WL Bd 57 (.slice none 0 0)) := Blk.below HX1.out hbL
  have HBL : Hid (Below Bd w1 WL) := hbL.mono (by omega)
  rw [hWL, hB1]
  have HWL := hide hWL
  have HB1 := hide hB1
  clear hWL hbL
  gi_wp2_with fail
  have hbB : 0 < m → b1 ≠ Bd := fun hm0 e => by
    have h1 := HCT.out 0 (by omega)
    have h2 := Blk.cell (cs := #[.slice none 0 0]) HX1.out (o1 + 0)
    rw [e, h2] at h1
    revert h1
    match o1 with
    | 0 => intro h1; cases h1
    | o + 1 => intro h1; simp at h1
  have HWB : Hid (Wrs [Bd] w1 WL) := Wrs.of_below (by rw [← HWL.out]; exact ((Below.refl _ _).alloc (Nat.le_refl _) _).alloc (by rw [World.size_alloc]; omega) _)
  have hBB : w1.heap.size ≤ WL.heap.size := by have := HB1.out; omega
  refine wpIn_rangeFunc_ownG rfl (by omega) (gf := 90) (lb := #[.pointer (some ⟨B1, 0, none⟩), .pointer (some ⟨B1 + 1, 0, none⟩)]) rfl trivial (enters_of Tryd.func90 (by kernel_rfl) rfl)
    (chunk_stops (3 - 1) (by omega) B1 (B1 + 1) b1 o1 c1 m a1 hmC (fun q => ha1 (by omega)) hcp1 WL WL 0 (Nat.zero_le _) HC1.out HC2.out (Below.refl _ _)) kpC_t (kpC_b (Nat.zero_le _) (by omega) (by omega)) (Below.refl _ _) (fun _ => rfl)
    (RxI w1 Bd WL.heap.size m t) (fun _ _ _ => False) (rxI_own w1 Bd WL.heap.size m t WL.heap.size hBB) (fun _ _ _ _ _ h _ _ => h) ⟨⟨_, HXL.out, World.ownsRow_nil _ _ _ _⟩, HWB.out, Nat.le_refl _⟩
    (fun x => { tmps := #[.pointer (some ⟨g, 0, none⟩), .int .i64 C, undef, undef, .slice none 0 0, .pointer (some ⟨Bd, 0, none⟩), .slice (some ⟨b1, o1 + 2 * x.1, none⟩) 2 2, undef, .pointer (some ⟨g, 0, none⟩), .int .i64 C, .int .i64 (2 * C), .slice a1 (2 * m) c1, .func (.func 90) #[] #[.pointer (some ⟨B1, 0, none⟩), .pointer (some ⟨B1 + 1, 0, none⟩)], .slice (some ⟨b1, o1 + 2 * x.1, none⟩) 2 2, undef, undef, undef, undef, undef, undef, undef, undef, undef, undef, undef, undef, undef, undef, undef, undef, undef], defers := [] }) ?assign ?body ?done ?stop
  case assign =>
    intro l x W K hK
    dsimp only [encP]
    gi_wp2
    exact hK
  case stop =>
    rintro D cc pre W _ _ h _
    exact h.elim
  case body =>
    rintro l pre x W ⟨⟨v, hX, hO⟩, hWr, hSz⟩ hlt
    have hxm := x.2
    have HSW := hide hSz
    have hb1 : b1 < w1.heap.size := World.block_lt_of_cell? _ _ (HCT.out 0 (by omega))
    have hkc : ∀ j, j < 2 * m → W.cell? ⟨b1, o1 + j, none⟩ = some (.int .u8 (fb t j : Nat)) := fun j hj =>
      (World.cell?_of_block (w := w1) (a := ⟨b1, o1 + j, none⟩) (hWr.blk b1 hb1 (by simp; exact hbB (by omega)))).trans (HCT.out j hj)
    have f0 := hkc (2 * x.1) (by omega)
    have f1 := hkc (2 * x.1 + 1) (by omega)
    obtain ⟨LV, hLV⟩ : ∃ L, pre.map (fun x => dAtB t x.1) = L := ⟨_, rfl⟩
    rw [hLV] at hO
    have hLl : LV.length ≤ 1600 := by rw [← hLV, List.length_map]; omega
    have HLV := hide hLV
    have HXW := hide hX
    have HOW := hide hO
    have HWR := hide hWr
    obtain ⟨y0, hy0⟩ : ∃ y, fb t (2 * x.1) = y := ⟨_, rfl⟩
    obtain ⟨y1, hy1⟩ : ∃ y, fb t (2 * x.1 + 1) = y := ⟨_, rfl⟩
    have hy08 : y0 < 256 := by rw [← hy0]; exact fb_lt _ _
    have hy18 : y1 < 256 := by rw [← hy1]; exact fb_lt _ _
    rw [hy0] at f0
    rw [hy1, ← Nat.add_assoc] at f1
    have HDV : Hid (dAtB t x.1 = di (y0 + y1 * 256)) := by show _ = _; unfold dAtB; rw [hy0, hy1]
    obtain ⟨p, hp⟩ : ∃ p, o1 + 2 * x.1 = p := ⟨_, rfl⟩
    rw [hp] at f0 f1 ⊢
    obtain ⟨av, cv', rfl⟩ : ∃ a c, v = .slice a LV.length c := by
      obtain ⟨a, c, h⟩ := (own_irk hO).slice
      exact ⟨a, c, h⟩
    have xc := hX.cell
    have xf := hX.frozen
    clear hkc hX hO hWr hSz hLV hy0 hy1 hp
    have hmx : Tryd.prog.follows .mixedOrders = true := by kernel_rfl
    have HVL : Hid (bits .or .i64 (IntKind.i64.wrap (y0 : Int)) (IntKind.i64.wrap (IntKind.i64.wrap (y1 : Int) * 256)) = ((y0 + y1 * 256 : Nat) : Int)) := by
      show _ = _
      have h := or_shl (k := 1) (v := y0) (y := y1) (by omega) (by omega) hy18
      rw [show IntKind.i64.wrap (y0 : Int) = (y0 : Int) by rw [IntKind.wrap_i64]; omega, show IntKind.i64.wrap (y1 : Int) = (y1 : Int) by rw [IntKind.wrap_i64]; omega]
      rw [show IntKind.i64.wrap ((y1 : Int) * 256) = wrap64 ((y1 : Int) * 2 ^ (8 * 1)) by rw [IntKind.wrap_i64]; unfold wrap64; omega]
      exact h
    gi_wp2
    refine wpIn_mono (Q := fun e a' w' => e = .normal ∧ a' = { tmps := #[.pointer (some ⟨g, 0, none⟩), .int .i64 C, undef, undef, .slice none 0 0, .pointer (some ⟨Bd, 0, none⟩), .slice (some ⟨b1, p, none⟩) 2 2, .int .i64 (bits .or .i64 (IntKind.i64.wrap (y0 : Int)) (IntKind.i64.wrap (IntKind.i64.wrap (y1 : Int) * 256))), .pointer (some ⟨g, 0, none⟩), .int .i64 C, .int .i64 (2 * C), .slice a1 (2 * m) c1, .func (.func 90) #[] #[.pointer (some ⟨B1, 0, none⟩), .pointer (some ⟨B1 + 1, 0, none⟩)], .slice (some ⟨b1, p, none⟩) 2 2, .slice (some ⟨b1, p, none⟩) 2 2, .pointer (some ⟨b1, p, none⟩), .int .u8 y0, .int .i64 (IntKind.i64.wrap (y0 : Int)), .slice (some ⟨b1, p, none⟩) 2 2, .pointer (some ⟨b1, p + 1, none⟩), .int .u8 y1, .int .i64 (IntKind.i64.wrap (y1 : Int)), .int .i64 (IntKind.i64.wrap (IntKind.i64.wrap (y1 : Int) * 256)), .int .i64 (bits .or .i64 (IntKind.i64.wrap (y0 : Int)) (IntKind.i64.wrap (IntKind.i64.wrap (y1 : Int) * 256))), undef, undef, undef, undef, undef, undef, undef], defers := [] } ∧ w' = W.drew) ?reg ?cont
    case reg =>
      gi_region_o
      all_goals exact ⟨rfl, rfl, rfl⟩
    case cont =>
      rintro e a' w' ⟨rfl, rfl, rfl⟩
      rw [HVL.out]
      have HDN : Hid (dAtB t x.1 = di (y0 + y1 * 256)) := HDV.out
      obtain ⟨N, hN⟩ : ∃ N, y0 + y1 * 256 = N := ⟨_, rfl⟩
      have hN6 : N < 65536 := by omega
      rw [hN] at HDN ⊢
      have HKD : Hid (KeepsOthers W W.drew) := KeepsOthers.drew _
      have xcd : W.drew.cell? ⟨Bd, 0, none⟩ = some (.slice av LV.length cv') := xc
      have HXD : Hid (Blk W.drew Bd 57 #[.slice av LV.length cv']) := HXW.out
      have HOD : Hid (W.drew.ownsRow WL.heap.size 3 1 (.slice av LV.length cv') LV.length (ci LV)) := HOW.out.drew
      have HWD : Hid (Wrs [Bd] w1 W.drew) := ⟨HWR.out.os, HWR.out.tape, HWR.out.output, HWR.out.size, HWR.out.blk⟩
      have HC1D : Hid (W.drew.cell? ⟨B1, 0, none⟩ = W.cell? ⟨B1, 0, none⟩ ∧ W.drew.cell? ⟨B1 + 1, 0, none⟩ = W.cell? ⟨B1 + 1, 0, none⟩) := ⟨rfl, rfl⟩
      have HBD0 : Hid (Below 0 W W.drew) := (Below.refl _ _).drew
      have HSD : Hid (WL.heap.size ≤ W.drew.heap.size) := HSW.out
      obtain ⟨W1, hW1⟩ : ∃ V, W.drew = V := ⟨_, rfl⟩
      rw [hW1] at HKD xcd HXD HOD HWD HC1D HBD0 HSD ⊢
      have xcf := HXD.out.frozen 0
      clear xc xf hN hW1
      by_cases q5 : N = 65535
      case' pos =>
        have s5 : ((N : Int) == 65535) = true := by rw [beq_iff_eq]; omega
        have HVH : Hid ((-1 : Int) = dAtB t x.1) := by show _ = _; rw [HDN.out]; unfold di; rw [if_pos q5]
      case' neg =>
        have s5 : ((N : Int) == 65535) = false := by rw [beq_eq_false_iff_ne]; omega
        have HVH : Hid ((N : Int) = dAtB t x.1) := by show _ = _; rw [HDN.out]; unfold di; rw [if_neg q5]
      all_goals
        clear q5
        gi_wp2_with (gi_at_builtin; rw [HVH.out]; refine wpIn_app1I (W := W1) rfl (.tmp 26) (.tmp 28) rfl WL.heap.size (.slice av LV.length cv') LV rfl HOD.out (dAtB t x.1) W1.heap.size rfl rfl (by omega) HSD.out ?_; intro v7 w7 l7 hl7 hO7 hg7; obtain ⟨a7, c7, rfl⟩ := (own_irk hO7.out).slice; have HX7 := hide (app_typed (HXD.out.alloc _) (by decide) (HOD.out.alloc _) hg7.out); have e7 := HX7.out.cell 0; have f7 := HX7.out.frozen 0; simp only [List.getElem?_toArray, List.getElem?_cons_zero] at e7; clear xcd xcf)
        have hb7 : Below WL.heap.size W1 w7 := ((Below.refl _ W1).alloc HSD.out _).grown hg7.out (by rw [World.size_alloc]; have := HSD.out; omega) (fun k hk => (HOD.out.lt k hk).1)
        have hck : ∀ k, k < WL.heap.size → k ≠ Bd → (w7.setCell ⟨Bd, 0, none⟩ (.slice a7 l7.length c7)).cell? ⟨k, 0, none⟩ = W1.cell? ⟨k, 0, none⟩ := fun k hk hne =>
          (World.cell?_of_block (w := w7) (a := ⟨k, 0, none⟩) (Below.heap_setCell _ _ _ _ (by show k ≠ Bd; exact hne))).trans (hb7.cell (p := ⟨k, 0, none⟩) hk)
        refine ⟨(((HKD.out.trans (KeepsOthers.alloc _ _)).trans (KeepsOthers.of_grownBy hg7.out (fun j o hj ho => ?_))).trans (KeepsOthers.setCell _ _ _)).from _, ⟨HBD0.out.trans ((hb7.mono (Nat.zero_le _)).setCell (Nat.zero_le _) _), (hck B1 (by omega) (by omega)).trans HC1D.out.1, (hck (B1 + 1) (by omega) (by omega)).trans HC1D.out.2⟩, ⟨_, HX7.out.set 0 _, ?_⟩, ?_, ?_⟩
        · rcases (HOD.out.alloc (.cells #[.int .i64 (dAtB t x.1)] 3)).2 with ⟨h1, _⟩ | ⟨k', cap, cur, h1, _, h2, _⟩
          · rw [h1] at hj
            simp [Value.ownBlock] at hj
          · rw [h1] at hj
            simp only [Value.ownBlock, Option.some.injEq] at hj
            subst hj
            rw [h2] at ho
            injection ho with ho
            subst ho
            rfl
        · have e : (pre ++ [x]).map (fun x => dAtB t x.1) = l7 := by rw [hl7.out, List.map_append, HLV.out]; rfl
          rw [e]
          exact own_typed hO7.out fun k cur q => set_typed HX7.out q (by decide)
        · exact (wrs_far (HWD.out.trans (Wrs.of_below ((Below.refl _ _).alloc (Nat.le_refl _) _))) hBB (HOD.out.alloc _) hg7.out).set (List.mem_singleton.2 rfl) _
        · rw [World.size_setCell]
          have := hb7.size
          have := HSD.out
          omega
  case done =>
    rintro D ys W hD rfl ⟨⟨v, hX, hO⟩, hWr, hSz⟩ hK
    obtain ⟨av, cv', rfl⟩ := (own_irk hO).slice
    have xc := hX.cell
    have HXW := hide hX
    have HOW := hide hO
    have HWR := hide hWr
    have HKD := hide hK
    clear hX hO hWr hK hSz
    gi_wp2
    refine ⟨by simp, .inl ⟨_, _, rfl, run_takeDeferred HKD.out, ?_⟩⟩
    refine ⟨_, results_tmp rfl _ _ _, ?_⟩
    have hBW := HBD.out
    have hkp : ∀ k, k < Bd → (W.putObj D (.deferred none)).heap[k]? = w1.heap[k]? := fun k hk =>
      (World.putObj_heap_other (by omega)).trans (HWR.out.blk k (by omega) (by simp; omega))
    have hwr : Wrs [g] w (W.putObj D (.deferred none)) := by
      have hp := grownBy_putObj' W D (.deferred none)
      exact ⟨hp.os.trans (HWR.out.os.trans HW1.out.os), hp.tape.trans (HWR.out.tape.trans HW1.out.tape), hp.output.trans (HWR.out.output.trans HW1.out.output), Nat.le_trans HW1.out.size (Nat.le_trans HWR.out.size hp.size), fun k hk hb => (hkp k (by omega)).trans (HW1.out.blk k hk hb)⟩
    have hfm : (fr m m).map (fun x => dAtB t x.1) = (List.range m).map (dAtB t) := fr_map (dAtB t) m (Nat.le_refl _)
    refine ⟨_, m, rfl, HM.out, ?_, HRW.out.wrs ?_ hwr, hwr⟩
    · have h := own_base (B' := w.heap.size) HOW.out (by omega)
      rw [hfm, List.length_map, List.length_range] at h
      have hfl : (fr m m).length = m := fr_len m (Nat.le_refl _)
      refine World.ownsRow.kept (v := .slice av (fr m m).length cv') ?_ (grownBy_putObj' W D _) ?_
      · rw [hfl]
        exact h
      · cases hv : (Value.slice av (fr m m).length cv').ownBlock with
        | none => exact .inl rfl
        | some k =>
          refine .inr fun e => ?_
          injection e with e
          subst e
          rcases HOW.out.2 with ⟨h1, _⟩ | ⟨k', cap, cur, h1, _, h2, _⟩
          · injection h1 with h1 _ _
            rw [h1] at hv
            simp [Value.ownBlock] at hv
          · injection h1 with h1 _ _
            rw [h1] at hv
            simp only [Value.ownBlock, Option.some.injEq] at hv
            subst hv
            rw [HKD.out] at h2
            cases h2
    · obtain ⟨r1, a', r2, r3⟩ := HR1.out.ri
      exact ⟨r1, a', (hkp g (by omega)).trans r2, r3⟩
end Go.Proofs.YtpnocklldlacjaaDoor
