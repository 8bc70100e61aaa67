/-
  The walk of impl.FindTarget.
-/
import Derived.Test.YteicpjbeihabnaaDoorJFindTargetITD
import Derived.Test.YteicpjbeihabnaaDoorJFindTargetFT
import Derived.Test.YteicpjbeihabnaaDoorJFindTargetBE
import Derived.BigQuiet
import Derived.Deep.QuietTactic
import Derived.Deep.RegionWith
namespace Go.Proofs.YteicpjbeihabnaaDoor
open Go.RowKit

set_option maxHeartbeats 1000000 in
set_option maxRecDepth 1000000 in
theorem hasName_any (a : Option Addr) (c : Nat) (kd ce : Int) (nm s : ByteArray) (v : Value) (B : Nat) (w : World) (hB : w.cell? ⟨B, 0, none⟩ = some v) (hv : BS w v s) (hn : BS w (.slice a nm.size c) nm) :
    Calls Tryd.prog 45 #[.agg #[.slice a nm.size c, .int .i64 kd, .int .i64 ce], .pointer (some ⟨B, 0, none⟩)] w fun e w' => Ans (nm = s) e ∧ Below w.heap.size w w' := by
  obtain ⟨W1, hW1⟩ : ∃ W, w.alloc (.cells #[.slice a nm.size c, .int .i64 kd, .int .i64 ce] 66) = W := ⟨_, rfl⟩
  have hb1 : Below w.heap.size w W1 := by rw [← hW1]; exact (Below.refl _ _).alloc (Nat.le_refl _) _
  have hT1 : Blk W1 w.heap.size 66 #[.slice a nm.size c, .int .i64 kd, .int .i64 ce] := by rw [← hW1]; exact Blk.new _ _ _
  have z2 := cell_kept hB hb1
  have x0 := hT1.cell 0
  simp only [List.getElem?_toArray, List.getElem?_cons_zero] at x0
  have HE := hide (bytesEqual_any _ _ _ _ W1 (hn.below hb1) (hv.below hb1))
  obtain ⟨av, cv, rfl⟩ := hv.slice
  have HB1 := hide hb1
  have hW := hW1
  clear hb1 hT1 hB hv hn hW1
  go_enter Tryd.func45, Tryd.ntmps45
  go_wp2_with fail
  refine HE.out.mono ?_
  rintro e w2 ⟨⟨b, rfl, hi⟩, rfl⟩
  have HI := hide hi
  clear hi
  go_wp2
  go_ret
  exact ⟨⟨b, rfl, HI.out⟩, HB1.out⟩

set_option maxHeartbeats 2000000 in
set_option maxRecDepth 1000000 in
theorem indexName_any (v u : Value) (L : List Tg) (s : ByteArray) (B : Nat) (w : World) (hB : w.cell? ⟨B, 0, none⟩ = some u) (hu : BS w u s) (hl : L.length ≤ 1048576) (h : TgS w v L) :
    Calls Tryd.prog 44 #[v, .func (.func 45) #[] #[.pointer (some ⟨B, 0, none⟩)]] w fun e w' => e = .returned (.int .i64 (ftL L s 0)) ∧ Below w.heap.size w w' := by
  obtain ⟨a, b, o, c, rfl, ha, hc⟩ := h
  have HC := hide hc
  have HBK := hide hB
  have HV := hide hu
  obtain ⟨R, hR⟩ : ∃ R, ftL L s 0 = R := ⟨_, rfl⟩
  rw [hR]
  have HR := hide hR
  clear hc hB hu hR
  go_enter Tryd.func44, Tryd.ntmps44
  go_wp2
  go_loopw [8] (fun ix wr => ∃ k : Nat, k ≤ L.length ∧ ix = .int .i64 k ∧ ftL (L.drop k) s k = R ∧ Below w.heap.size w wr) (fun ix _ => L.length - (intOf ix).toNat)
  case atStart => exact ⟨0, Nat.zero_le _, rfl, HR.out, Below.refl _ _⟩
  case round =>
    obtain ⟨k, hk, rfl, hne, hbl⟩ := hrel
    have HNE := hide hne
    have HB := hide hbl
    clear hne
    by_cases hlt : k < L.length
    · have hlti : (k : Int) < (L.length : Int) := by omega
      obtain rfl := ha (by omega)
      obtain ⟨v0, hnc, hnv⟩ := HC.out k hlt
      have HST := hide (ftL_at (s := s) hlt (k : Int))
      obtain ⟨t, ht⟩ : ∃ t, L.getD k .zero = t := ⟨_, rfl⟩
      rw [ht] at hnc hnv HST
      obtain ⟨g0, g1, g2⟩ := hnc.below hbl
      have hbn := hnv.name.below hbl
      obtain ⟨av, cv, hv⟩ := hnv.name.slice
      subst hv
      have HW := hide (hasName_any av cv t.kind t.cell t.name s u B wr (cell_kept HBK.out hbl) (HV.out.below hbl) hbn)
      obtain ⟨nm, kd, ce⟩ := t
      simp only at g0 g1 g2 HW HST
      clear hnc hnv ht hbl hbn
      go_wp2_with fail
      refine HW.out.mono ?_
      rintro e w5 ⟨⟨q, rfl, hq⟩, hb5⟩
      have HQ := hide hq
      have HB5 : Hid (Below w.heap.size w w5) := HB.out.trans (hb5.mono HB.out.size)
      clear hb5 hq
      cases q with
      | true =>
        have HK : Hid (R = k) := by show _ = _; rw [← HNE.out, HST.out, if_pos (HQ.out.1 rfl)]
        go_wp2
        go_ret
        exact ⟨by rw [HK.out]; rfl, HB5.out⟩
      | false =>
        have HK : Hid (ftL (L.drop (k + 1)) s ((k + 1 : Nat) : Int) = R) := by
          show _ = _
          rw [← HNE.out, HST.out, if_neg (fun h => by have := HQ.out.2 h; cases this)]
          rfl
        go_wp2
        go_roundw
        case rel => exact ⟨k + 1, by omega, by go_num, HK.out, HB5.out⟩
        case measure => simp [intOf]; omega
    · have hge : ¬ (k : Int) < (L.length : Int) := by omega
      have HK : Hid (R = -1) := by
        show _ = _
        rw [← HNE.out, List.drop_eq_nil_of_le (by omega)]
        rfl
      clear hbl
      go_wp2
      go_ret
      exact ⟨by rw [HK.out]; rfl, HB.out⟩

set_option maxHeartbeats 4000000 in
set_option maxRecDepth 1000000 in
theorem implFind_any (d : Tb) (v2 v3 v4 : Value) (s : ByteArray) (u : Value) (w : World) (hb : TbB d) (_hs : s.size ≤ 1048576) (hd : TbL d) (hmv : MvOk w) (hT : Lib.Utf8Tabs 2 3 w) (h : TbV w d v2 v3 v4) (hu : BS w u s) :
    Calls Tryd.prog 13 #[tbagg d v2 v3 v4, u] w fun e w' => e = .returned (.int .i64 (ftF d s)) ∧ Below w.heap.size w w' := by
  have HVT := hide (fun V (hV : Below w.heap.size w V) => implTables_any d v2 v3 v4 V hb hd (hmv.below hV) (Utf8Tabs_below hT hV) (h.below hV))
  have HIX := hide (fun V (B : Nat) (hV : Below w.heap.size w V) (hB : V.cell? ⟨B, 0, none⟩ = some u) => indexName_any v2 u d.targets s B V hB (hu.below hV) hb.targets.len (h.targets.below hV))
  obtain ⟨a2, c2, rfl⟩ := h.targets.slice
  obtain ⟨a3, c3, rfl⟩ := h.dist.slice
  obtain ⟨a4, c4, rfl⟩ := h.hop.slice
  obtain ⟨au, cu, rfl⟩ := hu.slice
  clear h hb hu hd hmv hT
  unfold tbagg at HVT ⊢
  obtain ⟨X, Y, T, Ds, Hs⟩ := d
  simp only at HVT HIX ⊢
  obtain ⟨W0, hW0⟩ : ∃ W, (w.alloc (.cells #[.int .i64 X, .int .i64 Y, .slice a2 T.length c2, .slice a3 Ds.length c3, .slice a4 Hs.length c4] 31)).alloc (.cells #[.slice au s.size cu] 26) = W := ⟨_, rfl⟩
  have hB0 : Below w.heap.size w W0 := by rw [← hW0]; exact ((Below.refl _ _).alloc (Nat.le_refl _) _).alloc (by simp) _
  have hA0 : Blk W0 w.heap.size 31 #[.int .i64 X, .int .i64 Y, .slice a2 T.length c2, .slice a3 Ds.length c3, .slice a4 Hs.length c4] := by rw [← hW0]; exact (Blk.new _ _ _).alloc _
  have hA1 : Blk W0 (w.heap.size + 1) 26 #[.slice au s.size cu] := by
    rw [← hW0]
    have e : (w.alloc (.cells #[.int .i64 X, .int .i64 Y, .slice a2 T.length c2, .slice a3 Ds.length c3, .slice a4 Hs.length c4] 31)).heap.size = w.heap.size + 1 := by simp
    rw [← e]
    exact Blk.new _ _ _
  have z0 := hA0.cell 0
  have z1 := hA0.cell 1
  have z2 := hA0.cell 2
  have z3 := hA0.cell 3
  have z4 := hA0.cell 4
  have zn := hA1.cell 0
  simp only [List.getElem?_toArray, List.getElem?_cons_succ, List.getElem?_cons_zero] at z0 z1 z2 z3 z4 zn
  have HB := hide hB0
  have HTC := hide (HVT.out W0 hB0)
  have hW := hW0
  clear hW0 hB0 hA0 hA1 HVT
  go_enter Tryd.func13, Tryd.ntmps13
  go_wp2_with fail
  refine HTC.out.mono ?_
  rintro e w1 ⟨⟨tb, rfl, hti⟩, hb1⟩
  have HTI := hide hti
  have HB1 : Hid (Below w.heap.size w w1) := HB.out.trans (hb1.mono HB.out.size)
  have y2 := cell_kept z2 hb1
  have yn := cell_kept zn hb1
  clear hti hb1 z0 z1 z2 z3 z4 zn hW HTC
  cases tb with
  | false =>
    have HR : Hid (¬ TbOk ⟨X, Y, T, Ds, Hs⟩) := fun h => by have := HTI.out.2 h; cases this
    go_wp2
    go_ret
    exact ⟨by rw [ftF_no HR.out]; rfl, HB1.out⟩
  | true =>
  have HOK := hide (HTI.out.1 rfl)
  have HE : Hid (ftF ⟨X, Y, T, Ds, Hs⟩ s = ftL T s 0) := ftF_yes HOK.out
  have HX1 := hide (HIX.out w1 (w.heap.size + 1) HB1.out yn)
  go_wp2_with fail
  refine HX1.out.mono ?_
  rintro e w2 ⟨rfl, hb2⟩
  have HB2 : Hid (Below w.heap.size w w2) := HB1.out.trans (hb2.mono HB1.out.size)
  clear hb2
  go_wp2
  go_ret
  exact ⟨by rw [HE.out]; rfl, HB2.out⟩
end Go.Proofs.YteicpjbeihabnaaDoor
