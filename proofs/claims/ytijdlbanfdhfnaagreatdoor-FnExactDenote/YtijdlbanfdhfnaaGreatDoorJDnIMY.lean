/-
  Impl's layout: what the floor has come to.
-/
import Derived.Test.YtijdlbanfdhfnaaGreatDoorJDnIL2
import Derived.Test.YtijdlbanfdhfnaaGreatDoorJDnSAP
import Derived.Test.YtijdlbanfdhfnaaGreatDoorJDnKRS
import Derived.Test.YtijdlbanfdhfnaaGreatDoorJDnIMM
import Derived.BigRegion
import Derived.Deep.RegionHeld3
namespace Go.Proofs.YtijdlbanfdhfnaaGreatDoor
open Go.RowKit

/-- A layout under way in the block Lb; its targets lie elsewhere. -/
structure LyJ (w : World) (Lb : Nat) (W H : Int) (v2 v3 v4 : Value) (C E : List Int) : Prop where
  blk : Blk w Lb 27 #[.int .i64 W, .int .i64 H, v2, v3, v4]
  o2 : Ow w (Lb + 1) v2 C
  o3 : Ow w (Lb + 1) v3 E
  ap : Apt v2 v3
theorem LyJ.below {w w' : World} {Lb : Nat} {W H : Int} {v2 v3 v4 : Value} {C E : List Int} (h : LyJ w Lb W H v2 v3 v4 C E) (hb : Below w.heap.size w w') : LyJ w' Lb W H v2 v3 v4 C E :=
  ⟨h.blk.below hb, h.o2.below hb, h.o3.below hb, h.ap⟩
theorem LyJ.app2 {w w' : World} {Lb : Nat} {W H : Int} {v2 v3 v4 v' : Value} {C E C' : List Int} (h : LyJ w Lb W H v2 v3 v4 C E) (a : Ap w w' (Lb + 1) v2 v' C') : LyJ (w'.setCell ⟨Lb, 2, none⟩ v') Lb W H v' v3 v4 C' E := by
  have hb : Blk w' Lb 27 _ := app_typed h.blk (by decide) h.o2 a.gr
  exact ⟨hb.set 2 v', a.own.other hb (by decide), (h.o3.apart a.gr h.ap.symm).other hb (by decide), (h.ap.symm.new h.o3 a.at').symm⟩
theorem LyJ.app3 {w w' : World} {Lb : Nat} {W H : Int} {v2 v3 v4 v' : Value} {C E E' : List Int} (h : LyJ w Lb W H v2 v3 v4 C E) (a : Ap w w' (Lb + 1) v3 v' E') : LyJ (w'.setCell ⟨Lb, 3, none⟩ v') Lb W H v2 v' v4 C E' := by
  have hb : Blk w' Lb 27 _ := app_typed h.blk (by decide) h.o3 a.gr
  exact ⟨hb.set 3 v', (h.o2.apart a.gr h.ap).other hb (by decide), a.own.other hb (by decide), h.ap.new h.o2 a.at'⟩
theorem cel_five {w : World} {M g : Nat} {t T : TypeId} {cs cs0 : Array Value} {fr : Nat × Nat} (hM : Blk w M T cs0) (h : w.heap[g]? = some (.cells cs t fr)) (ht : t ≠ T) (a0 a1 a2 a3 a4 : Value) : (((((w.setCell ⟨M, 0, none⟩ a0).setCell ⟨M, 1, none⟩ a1).setCell ⟨M, 2, none⟩ a2).setCell ⟨M, 3, none⟩ a3).setCell ⟨M, 4, none⟩ a4).heap[g]? = some (.cells cs t fr) :=
  cel_set ((((hM.set 0 a0).set 1 a1).set 2 a2).set 3 a3) (cel_set (((hM.set 0 a0).set 1 a1).set 2 a2) (cel_set ((hM.set 0 a0).set 1 a1) (cel_set (hM.set 0 a0) (cel_set hM h ht) ht) ht) ht) ht
/-- The targets were put in order. -/
def SrtQ (F : Nat) (f : Flo) (vt : Value) (ns : List (Tg × Value)) (V : World) (e : Ending) (V' : World) : Prop :=
  e = .returned (.tuple #[]) ∧ ∃ ns', ns'.Perm ns ∧ ns'.map Prod.fst = srtT [] f.tgs ∧ TgOw V' (F + 1) vt ns' ∧ V.grownBy V' vt.ownBlock
/-- What layout leaves. -/
def LayQ (w : World) (F : Nat) (f : Flo) (vt : Value) (ns : List (Tg × Value)) (e : Ending) (w' : World) : Prop :=
  ∃ v2 v3 ns' B, e = .returned (lyagg (lyOf f) v2 v3 vt) ∧ ns'.Perm ns ∧ ns'.map Prod.fst = srtT [] f.tgs ∧ TgOw w' (F + 1) vt ns' ∧ (∀ p ∈ ns', TgNf w' p) ∧ w.heap.size ≤ B ∧ Ow w' B v2 (lyOf f).cost ∧ Ow w' B v3 (lyOf f).exits ∧ Apt v2 v3 ∧ Below (F + 1) w w'

set_option maxHeartbeats 8000000 in
set_option maxRecDepth 1000000 in
theorem layout_any (F cb cc M mn : Nat) (f : Flo) (vt : Value) (ns : List (Tg × Value)) (w : World) (hf : FloOk f) (hm : FlI w F cb cc M mn f vt ns) (hmv : MvOk w)
    (hs : ∀ V, Below w.heap.size w V → Calls Tryz.prog 59 #[vt, .func (.func 60) #[] #[]] V (SrtQ F f vt ns V)) :
    Calls Tryz.prog 29 #[.pointer (some ⟨F, 0, none⟩)] w (LayQ w F f vt ns) := by
  have HM := hide hm
  have HFO := hide hf
  have HMV := hide hmv
  have HS := hide hs
  obtain ⟨at3, ct3, hvt⟩ := hm.tg.slice
  obtain ⟨n, hn⟩ : ∃ n, f.w * f.h = n := ⟨_, rfl⟩
  have HX : Hid (∀ V, Below w.heap.size w V → V.cell? ⟨F, 0, none⟩ = some (.int .i64 (f.w : Nat)) ∧ V.cell? ⟨F, 1, none⟩ = some (.int .i64 (f.h : Nat)) ∧ V.cell? ⟨F, 2, none⟩ = some (.slice (some ⟨cb, 0, none⟩) n cc) ∧ V.cell? ⟨F, 3, none⟩ = some (.slice at3 ns.length ct3)) := fun V hV => by
    have h := (HM.out.below hV).blk
    rw [hvt, hn] at h
    refine ⟨?_, ?_, ?_, ?_⟩
    · have := h.cell 0; simpa using this
    · have := h.cell 1; simpa using this
    · have := h.cell 2; simpa using this
    · have := h.cell 3; simpa using this
  obtain ⟨W1, hW1⟩ : ∃ W, w.alloc (.cells #[.int .i64 0, .int .i64 0, .slice none 0 0, .slice none 0 0, .slice none 0 0] 27) = W := ⟨_, rfl⟩
  have hB1 : Below w.heap.size w W1 := by rw [← hW1]; exact (Below.refl _ _).alloc (Nat.le_refl _) _
  have HB1 := hide hB1
  have HR1 : Hid (Blk W1 w.heap.size 27 #[.int .i64 0, .int .i64 0, .slice none 0 0, .slice none 0 0, .slice none 0 0]) := by rw [← hW1]; exact Blk.new _ _ _
  have HS1 : Hid (W1.heap.size = w.heap.size + 1) := by show _ = _; rw [← hW1, World.size_alloc]
  obtain ⟨x0, x1, x2, x3⟩ := HX.out W1 hB1
  obtain ⟨y0, y1, y2, y3⟩ := HX.out (W1.alloc (.cells #[.int .i64 0, .int .i64 0, .slice none 0 0, .slice none 0 0, .slice none 0 0] 27)) (hB1.alloc hB1.size _)
  have hW := hW1
  clear hf hm hmv hs hW1 hB1
  go_enter Tryz.func29, Tryz.ntmps29
  go_wp2_with fail
  clear hW
  go_region
  clear x0 x1 x2 x3 y0 y1 y2 y3
  obtain ⟨Lb, hLb⟩ : ∃ b, W1.heap.size = b := ⟨_, rfl⟩
  have HLB : Hid (Lb = w.heap.size + 1) := by show _ = _; rw [← hLb]; exact HS1.out
  obtain ⟨W2, hW2⟩ : ∃ W, (W1.alloc (.cells #[.int .i64 (f.w : Nat), .int .i64 (f.h : Nat), .slice none 0 0, .slice none 0 0, .slice at3 ns.length ct3] 27)).drew = W := ⟨_, rfl⟩
  have HB2 : Hid (Below w.heap.size w W2) := by rw [← hW2]; exact (HB1.out.alloc HB1.out.size _).drew
  have HR2 : Hid (Blk W2 w.heap.size 27 #[.int .i64 0, .int .i64 0, .slice none 0 0, .slice none 0 0, .slice none 0 0]) := by rw [← hW2]; exact HR1.out.alloc _
  have HL2 : Hid (LyJ W2 Lb (f.w : Nat) (f.h : Nat) (.slice none 0 0) (.slice none 0 0) (.slice at3 ns.length ct3) [] []) := by
    rw [← hW2, ← hLb]
    exact ⟨Blk.new W1 _ _, Ow.nil _ _, Ow.nil _ _, Apt.nil _⟩
  rw [hW2, hLb]
  have hnb : n ≤ 1600 := by rw [← hn]; exact Nat.mul_le_mul HFO.out.w1 HFO.out.h1
  have HN := hide hn
  have HVT := hide hvt
  obtain ⟨x0, x1, x2, x3⟩ := HX.out W2 HB2.out
  clear hLb hW2 HB1 HR1 HS1 hn hvt
  go_wp2
  clear x0 x1 x2 x3
  go_loopw [26] (fun cx wr => ∃ (c : Nat) (v2 : Value), c ≤ n ∧ cx = .int .i64 c ∧ LyJ wr Lb (f.w : Nat) (f.h : Nat) v2 (.slice none 0 0) (.slice at3 ns.length ct3) ((List.range c).map (csF f)) [] ∧ Blk wr w.heap.size 27 #[.int .i64 0, .int .i64 0, .slice none 0 0, .slice none 0 0, .slice none 0 0] ∧ Below w.heap.size w wr) (fun cx _ => n - (intOf cx).toNat)
  case atStart => exact ⟨0, _, Nat.zero_le _, rfl, HL2.out, HR2.out, HB2.out⟩
  case round =>
    clear HL2 HR2 HB2
    obtain ⟨c, v2, hc, rfl, hl, hr, hb⟩ := hrel
    rename World => V
    obtain ⟨a2, c2, hv2, _, _⟩ := hl.o2.slc
    simp only [List.length_map, List.length_range] at hv2
    subst hv2
    have HL := hide hl
    have HR := hide hr
    have HB := hide hb
    obtain ⟨x0, x1, x2, x3⟩ := HX.out V hb
    by_cases hlt : c < n
    · have hlti : (c : Int) < (n : Int) := by omega
      have hcn : c < f.w * f.h := by have := HN.out; rw [this]; exact hlt
      have hmV := (HM.out.below hb).ce
      have g0 : V.cell? ⟨cb, c * 4, none⟩ = some (.bool (f.wall c)) := hmV.cell (i := 0) hcn (by decide)
      have g1 : V.cell? ⟨cb, c * 4 + 1, none⟩ = some (.int .i64 (f.cost c)) := hmV.cell (i := 1) hcn (by decide)
      have g2 : V.cell? ⟨cb, c * 4 + 2, none⟩ = some (.int .i64 (smW (f.ways c))) := hmV.cell (i := 2) hcn (by decide)
      have g3 : V.cell? ⟨cb, c * 4 + 3, none⟩ = some (.bool (tkB f.tgs c)) := hmV.cell (i := 3) hcn (by decide)
      have l2 := hl.blk.cell 2
      simp only [List.getElem?_toArray, List.getElem?_cons_succ, List.getElem?_cons_zero] at l2
      obtain ⟨b1, hb1⟩ : ∃ b, f.wall c = b := ⟨_, rfl⟩
      obtain ⟨co, hco⟩ : ∃ x, f.cost c = x := ⟨_, rfl⟩
      obtain ⟨sw, hsw⟩ : ∃ x, smW (f.ways c) = x := ⟨_, rfl⟩
      obtain ⟨tk, htk⟩ : ∃ x, tkB f.tgs c = x := ⟨_, rfl⟩
      have HCS : Hid (csF f c = if b1 = true then 0 else co) := by show _ = _; unfold csF; rw [hb1, hco]
      rw [hb1] at g0
      rw [hco] at g1
      rw [hsw] at g2
      rw [htk] at g3
      have hLV := hl.blk.lt
      clear hl hr hb hmV hb1 hco hsw htk hcn
      cases b1
      case true =>
        have HCS2 : Hid (csF f c = 0) := HCS.out
        have hA : Below V.heap.size V ((V.alloc (.cells #[.bool true, .int .i64 0, .int .i64 sw, .bool tk] 63)).alloc (.cells #[.int .i64 0] 3)) := ((Below.refl _ _).alloc (Nat.le_refl _) _).alloc (by simp) _
        have HAB := hide hA
        have HA : Hid (LyJ ((V.alloc (.cells #[.bool true, .int .i64 0, .int .i64 sw, .bool tk] 63)).alloc (.cells #[.int .i64 0] 3)) Lb (f.w : Nat) (f.h : Nat) (.slice a2 c c2) (.slice none 0 0) (.slice at3 ns.length ct3) ((List.range c).map (csF f)) []) := HL.out.below hA
        have HN5 : Hid (((V.alloc (.cells #[.bool true, .int .i64 0, .int .i64 sw, .bool tk] 63)).alloc (.cells #[.int .i64 0] 3)).cell? ⟨V.heap.size + 1, 0, none⟩ = some (.int .i64 0)) := by have h := (blk_two V (.cells #[.bool true, .int .i64 0, .int .i64 sw, .bool tk] 63) 3 #[.int .i64 0]).cell 0; exact h
        clear hA
        go_wp2_with (at_builtin; refine wp_app1 rfl _ _ rfl (Lb + 1) _ ((List.range c).map (csF f)) rfl HA.out.o2 _ 1 0 rfl HN5.out (by simp; omega) HA.out.blk.lt ?_; intro v6 w6 hap0; have hap : Ap ((V.alloc (.cells #[.bool true, .int .i64 0, .int .i64 sw, .bool tk] 63)).alloc (.cells #[.int .i64 0] 3)) w6 (Lb + 1) (.slice a2 c c2) v6 ((List.range (c + 1)).map (csF f)) := (by rw [List.range_succ, List.map_append]; show Ap _ _ _ _ _ (_ ++ [csF f c]); rw [HCS2.out]; exact hap0); have hbk6 := app_typed HA.out.blk (by decide) HA.out.o2 hap.gr; obtain ⟨a6, c6, rfl, _, _⟩ := hap.own.slc; have hL6 := HA.out.app2 hap; have hB6 : Below (Lb + 1) V w6 := (HAB.out.mono (by omega)).grown hap.gr HA.out.blk.lt (fun k hk => (HA.out.o2.lt k hk).1); simp only [List.length_map, List.length_range] at hL6; have k6 := hbk6.cell 2; have k6f := hbk6.frozen 2; simp only [List.getElem?_toArray, List.getElem?_cons_succ, List.getElem?_cons_zero] at k6; have HL6 := hide hL6; have HB6 := hide hB6; clear hap hap0 hbk6 hL6 hB6)
        go_roundw
        case rel =>
          have h1 := HLB.out
          exact ⟨c + 1, _, by omega, by go_num, HL6.out, Blk.other ((HB6.out.block _ (by omega)).trans HR.out) _ _ (by omega), (HB.out.trans (HB6.out.mono (by omega))).setCell (p := ⟨Lb, 2, none⟩) (by show w.heap.size ≤ Lb; omega) _⟩
        case measure => simp [intOf]; omega
      case false =>
        have HCS2 : Hid (csF f c = co) := HCS.out
        have hA : Below V.heap.size V ((V.alloc (.cells #[.bool false, .int .i64 co, .int .i64 sw, .bool tk] 63)).alloc (.cells #[.int .i64 co] 3)) := ((Below.refl _ _).alloc (Nat.le_refl _) _).alloc (by simp) _
        have HAB := hide hA
        have HA : Hid (LyJ ((V.alloc (.cells #[.bool false, .int .i64 co, .int .i64 sw, .bool tk] 63)).alloc (.cells #[.int .i64 co] 3)) Lb (f.w : Nat) (f.h : Nat) (.slice a2 c c2) (.slice none 0 0) (.slice at3 ns.length ct3) ((List.range c).map (csF f)) []) := HL.out.below hA
        have HN5 : Hid (((V.alloc (.cells #[.bool false, .int .i64 co, .int .i64 sw, .bool tk] 63)).alloc (.cells #[.int .i64 co] 3)).cell? ⟨V.heap.size + 1, 0, none⟩ = some (.int .i64 co)) := by have h := (blk_two V (.cells #[.bool false, .int .i64 co, .int .i64 sw, .bool tk] 63) 3 #[.int .i64 co]).cell 0; exact h
        clear hA
        go_wp2_with (at_builtin; refine wp_app1 rfl _ _ rfl (Lb + 1) _ ((List.range c).map (csF f)) rfl HA.out.o2 _ 1 co rfl HN5.out (by simp; omega) HA.out.blk.lt ?_; intro v6 w6 hap0; have hap : Ap ((V.alloc (.cells #[.bool false, .int .i64 co, .int .i64 sw, .bool tk] 63)).alloc (.cells #[.int .i64 co] 3)) w6 (Lb + 1) (.slice a2 c c2) v6 ((List.range (c + 1)).map (csF f)) := (by rw [List.range_succ, List.map_append]; show Ap _ _ _ _ _ (_ ++ [csF f c]); rw [HCS2.out]; exact hap0); have hbk6 := app_typed HA.out.blk (by decide) HA.out.o2 hap.gr; obtain ⟨a6, c6, rfl, _, _⟩ := hap.own.slc; have hL6 := HA.out.app2 hap; have hB6 : Below (Lb + 1) V w6 := (HAB.out.mono (by omega)).grown hap.gr HA.out.blk.lt (fun k hk => (HA.out.o2.lt k hk).1); simp only [List.length_map, List.length_range] at hL6; have k6 := hbk6.cell 2; have k6f := hbk6.frozen 2; simp only [List.getElem?_toArray, List.getElem?_cons_succ, List.getElem?_cons_zero] at k6; have HL6 := hide hL6; have HB6 := hide hB6; clear hap hap0 hbk6 hL6 hB6)
        go_roundw
        case rel =>
          have h1 := HLB.out
          exact ⟨c + 1, _, by omega, by go_num, HL6.out, Blk.other ((HB6.out.block _ (by omega)).trans HR.out) _ _ (by omega), (HB.out.trans (HB6.out.mono (by omega))).setCell (p := ⟨Lb, 2, none⟩) (by show w.heap.size ≤ Lb; omega) _⟩
        case measure => simp [intOf]; omega
    · obtain rfl : c = n := by omega
      have hge : ¬ (c : Int) < (c : Int) := by omega
      clear hl hr hb hlt
      go_wp2
      clear x0 x1 x2 x3
      go_loopw [46] (fun cx wr => ∃ (k : Nat) (v3 : Value), k ≤ c ∧ cx = .int .i64 k ∧ LyJ wr Lb (f.w : Nat) (f.h : Nat) (.slice a2 c c2) v3 (.slice at3 ns.length ct3) ((List.range c).map (csF f)) ((List.range k).map (exF f)) ∧ Blk wr w.heap.size 27 #[.int .i64 0, .int .i64 0, .slice none 0 0, .slice none 0 0, .slice none 0 0] ∧ Below w.heap.size w wr) (fun cx _ => c - (intOf cx).toNat)
      case atStart => exact ⟨0, _, Nat.zero_le _, rfl, HL.out, HR.out, HB.out⟩
      case round =>
        clear HL HR HB
        obtain ⟨k, v3, hk, rfl, hl, hr, hb⟩ := hrel
        rename World => V
        obtain ⟨a3, c3, hv3, _, _⟩ := hl.o3.slc
        simp only [List.length_map, List.length_range] at hv3
        subst hv3
        have HL := hide hl
        have HR := hide hr
        have HB := hide hb
        obtain ⟨x0, x1, x2, x3⟩ := HX.out V hb
        by_cases hlt : k < c
        · have hlti : (k : Int) < (c : Int) := by omega
          have hcn : k < f.w * f.h := by have := HN.out; rw [this]; exact hlt
          have hmV := (HM.out.below hb).ce
          have g0 : V.cell? ⟨cb, k * 4, none⟩ = some (.bool (f.wall k)) := hmV.cell (i := 0) hcn (by decide)
          have g1 : V.cell? ⟨cb, k * 4 + 1, none⟩ = some (.int .i64 (f.cost k)) := hmV.cell (i := 1) hcn (by decide)
          have g2 : V.cell? ⟨cb, k * 4 + 2, none⟩ = some (.int .i64 (smW (f.ways k))) := hmV.cell (i := 2) hcn (by decide)
          have g3 : V.cell? ⟨cb, k * 4 + 3, none⟩ = some (.bool (tkB f.tgs k)) := hmV.cell (i := 3) hcn (by decide)
          have hpx := ways_pex HFO.out hcn [] []
          obtain ⟨px, hpxe⟩ : ∃ x, pex ⟨f.w, f.h, (List.range (f.w * f.h)).map (csF f), [], []⟩ k = x := ⟨_, rfl⟩
          obtain ⟨b1, hb1⟩ : ∃ b, f.wall k = b := ⟨_, rfl⟩
          obtain ⟨co, hco⟩ : ∃ x, f.cost k = x := ⟨_, rfl⟩
          obtain ⟨sw, hsw⟩ : ∃ x, smW (f.ways k) = x := ⟨_, rfl⟩
          obtain ⟨tk, htk⟩ : ∃ x, tkB f.tgs k = x := ⟨_, rfl⟩
          obtain ⟨ex, hex⟩ : ∃ x, exF f k = x := ⟨_, rfl⟩
          rw [hpxe, hsw, hex] at hpx
          rw [hb1] at g0
          rw [hco] at g1
          rw [hsw] at g2
          rw [htk] at g3
          have HEX := hide hex
          have HPX : Hid (∀ U, Below w.heap.size w U → IS U (.slice a2 c c2) ((List.range c).map (csF f)) → Calls Tryz.prog 58 #[.agg #[.int .i64 (f.w : Nat), .int .i64 (f.h : Nat), .slice a2 c c2, .slice a3 k c3, .slice at3 ns.length ct3], .int .i64 k] U fun e w' => e = .returned (.int .i64 px) ∧ Below U.heap.size U w') := fun U hU hI => by
            have h := possible_any ⟨f.w, f.h, (List.range (f.w * f.h)).map (csF f), [], []⟩ (.slice a2 c c2) (.slice a3 k c3) (.slice at3 ns.length ct3) k U (HMV.out.below hU) (by rw [HN.out]; exact hI) (by have := HFO.out.w0; show (1 : Int) ≤ (f.w : Nat); omega) (by have := HFO.out.w1; show ((f.w : Nat) : Int) ≤ 40; omega) (by have := HFO.out.h1; show ((f.h : Nat) : Int) ≤ 40; omega) (by show (((List.range (f.w * f.h)).map (csF f)).length : Int) = ((f.w : Nat) : Int) * ((f.h : Nat) : Int); simp) (by show k < ((List.range (f.w * f.h)).map (csF f)).length; simp; exact hcn)
            rw [hpxe] at h
            exact h
          obtain ⟨V1, hV1⟩ : ∃ W, V.alloc (.cells #[.bool b1, .int .i64 co, .int .i64 sw, .bool tk] 63) = W := ⟨_, rfl⟩
          have hA1 : Below V.heap.size V V1 := by rw [← hV1]; exact (Below.refl _ _).alloc (Nat.le_refl _) _
          have HB1 : Hid (Below w.heap.size w V1) := HB.out.trans (hA1.mono HB.out.size)
          have HL1 := hide (HL.out.below hA1)
          have HR1 := hide (HR.out.below hA1)
          have hGB : Blk V1 V.heap.size 63 #[.bool b1, .int .i64 co, .int .i64 sw, .bool tk] := by rw [← hV1]; exact Blk.new _ _ _
          have l0 := HL1.out.blk.cell 0
          have l1 := HL1.out.blk.cell 1
          have l2 := HL1.out.blk.cell 2
          have l3 := HL1.out.blk.cell 3
          have l4 := HL1.out.blk.cell 4
          have m2 := hGB.cell 2
          simp only [List.getElem?_toArray, List.getElem?_cons_succ, List.getElem?_cons_zero] at l0 l1 l2 l3 l4 m2
          have hLV := hl.blk.lt
          have hW := hV1
          clear hl hr hb hmV hb1 hco hsw htk hcn hex hpxe hV1 hA1 HB HL HR hGB
          go_wp2_with fail
          clear hW g0 g1 g2 g3
          go_region_law (first
            | (go_simp; go_at_call 58; refine (HPX.out _ (below_drewN HB1.out 1) (HL1.out.o2.rd.below (below_drewN (Below.refl _ _) 1))).mono ?_; rintro e w8 ⟨rfl, hb8⟩; have hb8' : Below V1.heap.size V1 w8 := (below_drewN (Below.refl _ V1) 1).trans hb8; have t3 := cell_kept l3 hb8'; have t2 := cell_kept m2 hb8'; have hA8 := (Below.refl _ w8).alloc (Nat.le_refl _) (.cells #[.int .i64 ex] 3); have t3b := cell_kept t3 hA8; have t2b := cell_kept t2 hA8; have HB8 : Hid (Below V1.heap.size V1 (w8.alloc (.cells #[.int .i64 ex] 3))) := hb8'.trans (hA8.mono hb8'.size); have HA8 := hide (HL1.out.below HB8.out); have HN8 : Hid ((w8.alloc (.cells #[.int .i64 ex] 3)).cell? ⟨w8.heap.size, 0, none⟩ = some (.int .i64 ex)) := (Blk.new w8 3 #[.int .i64 ex]).cell 0; clear hb8 hb8' hA8)
            | (refine step_app1 rfl (.tmp 52) (.tmp 59) rfl (Lb + 1) (.slice a3 k c3) ((List.range k).map (exF f)) rfl HA8.out.o3 w8.heap.size 1 ex rfl HN8.out (by simp; omega) HA8.out.blk.lt ?_; intro v9 w9 hap0; have hap : Ap (w8.alloc (.cells #[.int .i64 ex] 3)) w9 (Lb + 1) (.slice a3 k c3) v9 ((List.range (k + 1)).map (exF f)) := (by rw [List.range_succ, List.map_append]; show Ap _ _ _ _ _ (_ ++ [exF f k]); rw [HEX.out]; exact hap0); have hbk9 := app_typed HA8.out.blk (by decide) HA8.out.o3 hap.gr; obtain ⟨a9, c9, rfl, _, _⟩ := hap.own.slc; have hL9 := HA8.out.app3 hap; have hB9 : Below (Lb + 1) V1 w9 := (HB8.out.mono HL1.out.blk.lt).grown hap.gr HA8.out.blk.lt (fun k hk => (HA8.out.o3.lt k hk).1); simp only [List.length_map, List.length_range] at hL9; have k9 := hbk9.cell 3; have k9f := hbk9.frozen 3; simp only [List.getElem?_toArray, List.getElem?_cons_succ, List.getElem?_cons_zero] at k9; have HL9 := hide hL9; have HB9 := hide hB9; clear hap hap0 hbk9 hL9 hB9))
          all_goals
            go_wp2
            go_roundw
            case rel =>
              have h1 := HLB.out
              exact ⟨k + 1, _, by omega, by go_num, HL9.out, Blk.other ((HB9.out.block _ (by omega)).trans HR1.out) _ _ (by omega), (HB1.out.trans (HB9.out.mono (by omega))).setCell (p := ⟨Lb, 3, none⟩) (by show w.heap.size ≤ Lb; omega) _⟩
            case measure => simp [intOf]; omega
        · obtain rfl : k = c := by omega
          have hge2 : ¬ (k : Int) < (k : Int) := by omega
          have l0 := hl.blk.cell 0
          have l1 := hl.blk.cell 1
          have l2 := hl.blk.cell 2
          have l3 := hl.blk.cell 3
          have l4 := hl.blk.cell 4
          simp only [List.getElem?_toArray, List.getElem?_cons_succ, List.getElem?_cons_zero] at l0 l1 l2 l3 l4
          have HSV := hide (HS.out V hb)
          rw [HVT.out] at HSV
          clear hl hr hb hlt
          go_wp2_with (go_at_call 59; refine HSV.out.mono ?_; rintro e V5 ⟨rfl, ns', hp5, hm5, ho5, hg5⟩; have ho0 := (HM.out.below HB.out).tg; rw [HVT.out] at ho0; have hL5 := app_typed HL.out.blk (by decide) ho0 hg5; have hR5 := app_typed HR.out (by decide) ho0 hg5; have j0 := hL5.cell 0; have j1 := hL5.cell 1; have j2 := hL5.cell 2; have j3 := hL5.cell 3; have j4 := hL5.cell 4; have r0 := hR5.cell 0; have r1 := hR5.cell 1; have r2 := hR5.cell 2; have r3 := hR5.cell 3; have r4 := hR5.cell 4; have q0 := hR5.frozen 0; have q1 := hR5.frozen 1; have q2 := hR5.frozen 2; have q3 := hR5.frozen 3; have q4 := hR5.frozen 4; simp only [List.getElem?_toArray, List.getElem?_cons_succ, List.getElem?_cons_zero] at j0 j1 j2 j3 j4 r0 r1 r2 r3 r4; have HP5 := hide hp5; have HM5 := hide hm5; have HO5 := hide ho5; have HG5 := hide hg5; have HO0 := hide ho0; have HR5 := hide hR5; clear hp5 hm5 ho5 hg5 ho0 hL5 hR5)
          refine bodyPost_ret (results_row rfl _ _ _ w.heap.size 27 _ (0, 0) rfl (Blk.five HR5.out _ _ _ _ _) Tryz.underlying27 (by kernel_rfl)) rfl ?_
          have o2 := own_typed HL.out.o2 fun _ _ q => app_typed q (by decide) HO0.out HG5.out
          have o3 := own_typed HL.out.o3 fun _ _ q => app_typed q (by decide) HO0.out HG5.out
          have hFw := HM.out.blk.lt
          refine ⟨.slice a2 k c2, .slice a3 k c3, ns', Lb + 1, ?_, HP5.out, HM5.out, ?_, fun p hp => ?_, by have := HLB.out; omega, ?_, ?_, HL.out.ap, ?_⟩
          · rw [HVT.out]; rfl
          · rw [HVT.out]
            exact own_typed HO5.out fun _ _ q => typed_five HR5.out q (by decide) _ _ _ _ _
          · have h1 := (HM.out.below HB.out).tn p (HP5.out.mem_iff.1 hp)
            exact h1.keep fun q => cel_five HR5.out (cel_app q (by decide) HO0.out HG5.out) (by decide) _ _ _ _ _
          · show Ow _ _ _ ((List.range (f.w * f.h)).map (csF f))
            rw [HN.out]
            exact own_typed o2 fun _ _ q => typed_five HR5.out q (by decide) _ _ _ _ _
          · show Ow _ _ _ ((List.range (f.w * f.h)).map (exF f))
            rw [HN.out]
            exact own_typed o3 fun _ _ q => typed_five HR5.out q (by decide) _ _ _ _ _
          · exact below_five ((HB.out.mono (by omega)).grown HG5.out (by have := HB.out.size; omega) (fun g hg => (World.ownsRow.lt HO0.out g hg).1)) (by omega) _ _ _ _ _
end Go.Proofs.YtijdlbanfdhfnaaGreatDoor
