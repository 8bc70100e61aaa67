/-
  The walk of validTable.
  DERIVED: THE SHELF's CONTRACTS AT THIS DUMP, IN PLAIN WORDS (tools/lay-plain.mjs out of 'TrydShelf.lean', which tools/lay-shelf.mjs wrote): THE SAME DECLARATIONS UNDER THE SAME NAMES: 'import', 'namespace', 'open', 'def', 'theorem' AND NOTHING ELSE: no command of the shelf's: FOR A HAND-IN. Each laying: the table of numbers ('.._ren') and one theorem, a field a fact of the dump's own or the kernel's comparison; each contract: ONE APPLICATION.
-/
import Derived.Test.YtcfnmkfnfkgmmaaDoorJfITB
import Derived.Shelf.Unicode.DecodeSlow
import Derived.Shelf.Unicode.DecodeAny
import Derived.Test.YtcfnmkfnfkgmmaaDoorProg
namespace Go.Proofs.YtcfnmkfnfkgmmaaDoor
open Go.RowKit

set_option maxHeartbeats 4000000 in
set_option maxRecDepth 1000000 in
theorem validTable_any (d : Tb) (v2 v3 v4 : Value) (i : Nat) (w : World) (hb : TbB d) (h : TbV w d v2 v3 v4) (hx0 : 1 ≤ d.w) (hx1 : d.w ≤ 40) (hy0 : 1 ≤ d.h) (hy1 : d.h ≤ 40) (hi : i < d.targets.length) (hid : i < d.dist.length) (hih : i < d.hop.length) (hmv : MvOk w) :
    Calls Tryd.prog 70 #[tbagg d v2 v3 v4, .int .i64 i] w fun e w' => Ans (RowOk d.w d.h (d.targets.getD i .zero).cell (d.dist.getD i []) (d.hop.getD i [])) e ∧ Below w.heap.size w w' := by
  have HVS := hide (fun (c : Nat) V (hV : Below w.heap.size w V) hdl hpl hc => validStep_any d v2 v3 v4 i c V hb (h.below hV) hx0 hx1 hy0 hy1 hi hid hih (hmv.below hV) hdl hpl hc)
  have hl2 := hb.targets.len
  have hl3 := hb.dist.len
  have hl4 := hb.hop.len
  have hle3 := hb.dist.each i hid
  have hle4 := hb.hop.each i hih
  obtain ⟨a2, b2, o2, c2, rfl, ha2, hc2⟩ := h.targets
  obtain ⟨a3, b3, o3, c3, rfl, ha3, hc3⟩ := h.dist
  obtain ⟨a4, b4, o4, c4, rfl, ha4, hc4⟩ := h.hop
  obtain rfl := ha2 (by omega)
  obtain rfl := ha3 (by omega)
  obtain rfl := ha4 (by omega)
  obtain ⟨_, ht0, _⟩ := hc2 i hi
  have ht := ht0.cell
  obtain ⟨u3, hu3, hI3⟩ := hc3 i hid
  obtain ⟨u4, hu4, hI4⟩ := hc4 i hih
  obtain ⟨t, hT⟩ : ∃ t, (d.targets.getD i .zero).cell = t := ⟨_, rfl⟩
  obtain ⟨D, hD⟩ : ∃ D, d.dist.getD i [] = D := ⟨_, rfl⟩
  obtain ⟨P, hP⟩ : ∃ P, d.hop.getD i [] = P := ⟨_, rfl⟩
  rw [hT] at ht
  rw [hD] at hI3 hle3
  rw [hP] at hI4 hle4
  rw [hT, hD, hP]
  simp only [hT, hD, hP] at HVS
  clear hT hD hP hc2 hc3 hc4 h hb ht0 ha2 ha3 ha4
  obtain ⟨aD, bD, oD, cD, rfl, hAD, hCD⟩ := hI3
  obtain ⟨aP, bP, oP, cP, rfl, hAP, hCP⟩ := hI4
  unfold tbagg at HVS ⊢
  obtain ⟨X, Y, T, Ds, Hs⟩ := d
  simp only at hx0 hx1 hy0 hy1 hi hid hih hl2 hl3 hl4 HVS ⊢
  obtain ⟨W0, hW0⟩ : ∃ W, w.alloc (.cells #[.int .i64 X, .int .i64 Y, .slice (some ⟨b2, o2, none⟩) T.length c2, .slice (some ⟨b3, o3, none⟩) Ds.length c3, .slice (some ⟨b4, o4, none⟩) Hs.length c4] 31) = W := ⟨_, rfl⟩
  have hB0 : Below w.heap.size w W0 := by rw [← hW0]; exact (Below.refl _ _).alloc (Nat.le_refl _) _
  have hA0 : Blk W0 w.heap.size 31 #[.int .i64 X, .int .i64 Y, .slice (some ⟨b2, o2, none⟩) T.length c2, .slice (some ⟨b3, o3, none⟩) Ds.length c3, .slice (some ⟨b4, o4, none⟩) Hs.length c4] := by rw [← hW0]; exact Blk.new _ _ _
  have z0 := hA0.cell 0
  have z1 := hA0.cell 1
  have z2 := hA0.cell 2
  have z3 := hA0.cell 3
  have z4 := hA0.cell 4
  simp only [List.getElem?_toArray, List.getElem?_cons_succ, List.getElem?_cons_zero] at z0 z1 z2 z3 z4
  have y2 := cell_kept ht hB0
  have y3 := cell_kept hu3 hB0
  have y4 := cell_kept hu4 hB0
  have HW := hide hW0
  have HB := hide hB0
  have HBD : Hid (∀ V, Below W0.heap.size W0 V → ∀ p, Below w.heap.size w (V.drewN p)) := fun V hV p => below_drewN (hB0.trans (hV.mono hB0.size)) p
  clear hW0 hB0 hA0 ht hu3 hu4 hCD hCP
  have hn0 : 0 < X * Y := Int.mul_pos (by omega) (by omega)
  have hn1 : X * Y ≤ 1600 := by
    have : X * Y ≤ 40 * 40 := Int.mul_le_mul (by omega) (by omega) (by omega) (by omega)
    omega
  obtain ⟨n, hn⟩ : ∃ n : Nat, X * Y = n := ⟨(X * Y).toNat, by omega⟩
  have HN := hide hn
  have hnb : (n : Int) ≤ 1600 := by omega
  have hnp : 0 < n := by omega
  have hii : (i : Int) < (T.length : Int) := by omega
  have hidi : (i : Int) < (Ds.length : Int) := by omega
  have hihi : (i : Int) < (Hs.length : Int) := by omega
  clear hn0 hn1 hx0 hx1 hy0 hy1 hi hid hih hmv
  by_cases q5 : ¬ (D.length : Int) = (n : Int)
  · have t5 : ((D.length : Int) != (n : Int)) = true := by rw [bne_iff_ne]; exact q5
    have HR : Hid (¬ RowOk X Y t D P) := fun h => q5 (by rw [← HN.out]; exact h.dl)
    have hW := HW.out
    clear q5
    go_enter Tryd.func70, Tryd.ntmps70
    go_wp2
    go_ret
    exact ⟨Ans.no HR.out, HB.out⟩
  have t5 : ((D.length : Int) != (n : Int)) = false := by rw [bne_eq_false_iff_eq]; omega
  have HQ5 : Hid (D.length = n) := by show _ = _; omega
  clear q5
  by_cases q6 : ¬ (P.length : Int) = (n : Int)
  · have t6 : ((P.length : Int) != (n : Int)) = true := by rw [bne_iff_ne]; exact q6
    have HR : Hid (¬ RowOk X Y t D P) := fun h => q6 (by rw [← HN.out]; exact h.pl)
    have hW := HW.out
    clear q6
    go_enter Tryd.func70, Tryd.ntmps70
    go_wp2
    go_ret
    exact ⟨Ans.no HR.out, HB.out⟩
  have t6 : ((P.length : Int) != (n : Int)) = false := by rw [bne_eq_false_iff_eq]; omega
  have HQ6 : Hid (P.length = n) := by show _ = _; omega
  have HVT := hide (fun (c : Nat) V (hV : Below w.heap.size w V) (hc : c < n) => HVS.out c V hV (by rw [HN.out, HQ5.out]) (by rw [HN.out, HQ6.out]) (by rw [HN.out]; omega))
  clear q6 HVS
  obtain rfl := hAD (by have := HQ5.out; omega)
  obtain rfl := hAP (by have := HQ6.out; omega)
  have hW := HW.out
  go_enter Tryd.func70, Tryd.ntmps70
  go_wp2
  clear t5 t6 hn hW hAD hAP y2 y3 y4
  go_loopw [31] (fun ix wr => ∃ k : Nat, k ≤ n ∧ ix = .int .i64 k ∧ (∀ c, c < k → StepOk X Y t D P c) ∧ Below W0.heap.size W0 wr) (fun ix _ => n - (intOf ix).toNat)
  case atStart => exact ⟨0, Nat.zero_le _, rfl, fun _ h => absurd h (Nat.not_lt_zero _), Below.refl _ _⟩
  case round =>
    obtain ⟨k, hk, rfl, hst, hbw⟩ := hrel
    rename World => V
    have HST := hide hst
    have x0 := cell_kept z0 hbw
    have x1 := cell_kept z1 hbw
    have x2 := cell_kept z2 hbw
    have x3 := cell_kept z3 hbw
    have x4 := cell_kept z4 hbw
    have HBV := hide hbw
    have HBE := hide (HBD.out V hbw 0)
    clear hst hbw z0 z1 z2 z3 z4
    by_cases hlt : k < n
    · have hlti : (k : Int) < (n : Int) := by omega
      have HKN : Hid ((k : Int) < X * Y) := by show _ < _; rw [HN.out]; exact hlti
      have HNX : Hid (StepOk X Y t D P k → ∀ c, c < k + 1 → StepOk X Y t D P c) := fun h c hc => by
        by_cases e : c = k
        · rw [e]; exact h
        · exact HST.out c (by omega)
      have HNO : Hid (¬ StepOk X Y t D P k → ¬ RowOk X Y t D P) := fun h h2 => h (h2.each k HKN.out)
      have HCA := hide (HVT.out k V HBE.out hlt)
      clear HST
      go_wp2_with fail
      refine HCA.out.mono ?_
      rintro e w5 ⟨⟨b1, rfl, hi1⟩, hb5⟩
      have HB5 : Hid (Below W0.heap.size W0 w5) := HBV.out.trans (hb5.mono HBV.out.size)
      have HE5 := hide (HBD.out w5 HB5.out 0)
      have HI1 := hide hi1
      clear hb5 hi1
      cases b1 with
      | false =>
        have HR := hide (HNO.out (fun h => by have := HI1.out.2 h; cases this))
        go_wp2
        go_ret
        exact ⟨Ans.no HR.out, HE5.out⟩
      | true =>
        have HOK := hide (HNX.out (HI1.out.1 rfl))
        go_wp2
        go_roundw
        case rel => exact ⟨k + 1, by omega, by go_num, HOK.out, HB5.out⟩
        case measure => simp [intOf]; omega
    · have hge : ¬ (k : Int) < (n : Int) := by omega
      have HOK : Hid (RowOk X Y t D P) := ⟨by rw [HN.out, HQ5.out], by rw [HN.out, HQ6.out], fun c hc => HST.out c (by rw [HN.out] at hc; omega)⟩
      go_wp2
      go_ret
      exact ⟨Ans.yes HOK.out, HBE.out⟩
end Go.Proofs.YtcfnmkfnfkgmmaaDoor

namespace Go.Proofs
open Go.Shelf
def Tryd.lays260_ren : Go.Shelf.Ren := ⟨fun | 260 => 96 | n => n, fun | 9 => 9 | 21 => 21 | 3 => 3 | 4 => 4 | 5 => 5 | 119 => 117 | 0 => 0 | 46 => 118 | 139 => 121 | 138 => 120 | n => n, fun | 3 => 2 | 4 => 3 | n => n⟩
theorem Tryd.lays260 : Go.Proofs.Lays.n260 Tryd.prog Tryd.lays260_ren := {
  mixed := by kernel_rfl
  f260 := Tryd.func96.trans (congrArg some (by kernel_rfl))
  t0 := Tryd.underlying0
  a0 := Tryd.isAgg0
  z0 := Tryd.sizeOf0
  v0 := Tryd.zeroValue0
  t3 := Tryd.underlying3
  a3 := Tryd.isAgg3
  z3 := Tryd.sizeOf3
  v3 := Tryd.zeroValue3
  t4 := Tryd.underlying4
  a4 := Tryd.isAgg4
  z4 := Tryd.sizeOf4
  v4 := Tryd.zeroValue4
  t5 := Tryd.underlying5
  a5 := Tryd.isAgg5
  z5 := Tryd.sizeOf5
  v5 := Tryd.zeroValue5
  t9 := Tryd.underlying9
  a9 := Tryd.isAgg9
  z9 := Tryd.sizeOf9
  v9 := Tryd.zeroValue9
  t21 := Tryd.underlying21
  a21 := Tryd.isAgg21
  z21 := Tryd.sizeOf21
  v21 := Tryd.zeroValue21
  t46 := Tryd.underlying118
  a46 := Tryd.isAgg118
  z46 := Tryd.sizeOf118
  v46 := Tryd.zeroValue118
  t119 := Tryd.underlying117
  a119 := Tryd.isAgg117
  z119 := Tryd.sizeOf117
  t138 := Tryd.underlying120
  a138 := Tryd.isAgg120
  z138 := Tryd.sizeOf120
  v138 := Tryd.zeroValue120
  t139 := Tryd.underlying121
  a139 := Tryd.isAgg121
  z139 := Tryd.sizeOf121
  v139 := Tryd.zeroValue121
  g3 := by kernel_rfl
  g4 := by kernel_rfl }
open Go.RowKit Go.Lib in
theorem Tryd.utf8_decodeRuneInStringSlow (s : ByteArray) (w : World) (hT : Lib.Utf8Tabs 2 3 w) :
    Calls Tryd.prog 96 #[.string s] w fun e w' => e = .returned (.tuple #[.int .i32 (Lib.decodeGo s).1, .int .i64 (Lib.decodeGo s).2]) ∧ Below w.heap.size w w' := Any.utf8_decodeRuneInStringSlow Tryd.lays260 s w hT
def Tryd.lays197_ren : Go.Shelf.Ren := ⟨fun | 197 => 95 | 260 => 96 | n => n, fun | 9 => 9 | 21 => 21 | 3 => 3 | 4 => 4 | 5 => 5 | 105 => 115 | 119 => 117 | 0 => 0 | 46 => 118 | 139 => 121 | 138 => 120 | n => n, fun | 3 => 2 | 4 => 3 | n => n⟩
theorem Tryd.lays197 : Go.Proofs.Lays.n197 Tryd.prog Tryd.lays197_ren := {
  mixed := by kernel_rfl
  f197 := Tryd.func95.trans (congrArg some (by kernel_rfl))
  f260 := Tryd.func96.trans (congrArg some (by kernel_rfl))
  t0 := Tryd.underlying0
  a0 := Tryd.isAgg0
  z0 := Tryd.sizeOf0
  v0 := Tryd.zeroValue0
  t3 := Tryd.underlying3
  a3 := Tryd.isAgg3
  z3 := Tryd.sizeOf3
  v3 := Tryd.zeroValue3
  t4 := Tryd.underlying4
  a4 := Tryd.isAgg4
  z4 := Tryd.sizeOf4
  v4 := Tryd.zeroValue4
  t5 := Tryd.underlying5
  a5 := Tryd.isAgg5
  z5 := Tryd.sizeOf5
  v5 := Tryd.zeroValue5
  t9 := Tryd.underlying9
  a9 := Tryd.isAgg9
  z9 := Tryd.sizeOf9
  v9 := Tryd.zeroValue9
  t21 := Tryd.underlying21
  a21 := Tryd.isAgg21
  z21 := Tryd.sizeOf21
  v21 := Tryd.zeroValue21
  t46 := Tryd.underlying118
  a46 := Tryd.isAgg118
  z46 := Tryd.sizeOf118
  v46 := Tryd.zeroValue118
  t105 := Tryd.underlying115
  a105 := Tryd.isAgg115
  z105 := Tryd.sizeOf115
  v105 := Tryd.zeroValue115
  t119 := Tryd.underlying117
  a119 := Tryd.isAgg117
  z119 := Tryd.sizeOf117
  t138 := Tryd.underlying120
  a138 := Tryd.isAgg120
  z138 := Tryd.sizeOf120
  v138 := Tryd.zeroValue120
  t139 := Tryd.underlying121
  a139 := Tryd.isAgg121
  z139 := Tryd.sizeOf121
  v139 := Tryd.zeroValue121
  g3 := by kernel_rfl
  g4 := by kernel_rfl }
open Go.RowKit Go.Lib in
/-- **unicode/utf8.DecodeRuneInString AT EVERY STRING.** (LAID: no walk: one application.) -/
theorem Tryd.utf8_DecodeRuneInString (s : ByteArray) (w : World) (hT : Lib.Utf8Tabs 2 3 w) :
    Calls Tryd.prog 95 #[.string s] w fun e w' => e = .returned (.tuple #[.int .i32 (Lib.decodeGo s).1, .int .i64 (Lib.decodeGo s).2]) ∧ Below w.heap.size w w' := Any.utf8_DecodeRuneInString Tryd.lays197 s w hT
end Go.Proofs
