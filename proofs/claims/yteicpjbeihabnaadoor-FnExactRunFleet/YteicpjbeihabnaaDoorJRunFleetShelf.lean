/-
  DERIVED: THE SHELF's CONTRACTS AT THIS DUMP, IN PLAIN WORDS (tools/lay-plain.mjs out of 'TrydShelf.lean', which tools/lay-shelf.mjs wrote): THE SAME DECLARATIONS UNDER THE SAME NAMES: 'import', 'namespace', 'open', 'def', 'theorem' AND NOTHING ELSE: no command of the shelf's: FOR A HAND-IN. Each laying: the table of numbers ('.._ren') and one theorem, a field a fact of the dump's own or the kernel's comparison; each contract: ONE APPLICATION.
  Plain facts on a range over a string: where it stands, what it leaves alone.
  The walks of impl.isBroken and impl.CheckText.
-/
import Derived.Shelf.Unicode.DecodeSlow
import Derived.Shelf.Unicode.DecodeAny
import Derived.Test.YteicpjbeihabnaaDoorProg
import Derived.Below
import Derived.Lib.OthersKept
import Derived.Test.YteicpjbeihabnaaDoorJRunFleetK
namespace Go.Proofs
open Go.Shelf
def Tryd.lays260_ren : Go.Shelf.Ren := ⟨fun | 260 => 96 | n => n, fun | 9 => 9 | 21 => 21 | 3 => 3 | 4 => 4 | 5 => 5 | 119 => 117 | 0 => 0 | 46 => 118 | 139 => 121 | 138 => 120 | n => n, fun | 3 => 2 | 4 => 3 | n => n⟩
theorem Tryd.lays260 : Go.Proofs.Lays.n260 Tryd.prog Tryd.lays260_ren := {
  mixed := by kernel_rfl
  f260 := Tryd.func96.trans (congrArg some (by kernel_rfl))
  t0 := Tryd.underlying0
  a0 := Tryd.isAgg0
  z0 := Tryd.sizeOf0
  v0 := Tryd.zeroValue0
  t3 := Tryd.underlying3
  a3 := Tryd.isAgg3
  z3 := Tryd.sizeOf3
  v3 := Tryd.zeroValue3
  t4 := Tryd.underlying4
  a4 := Tryd.isAgg4
  z4 := Tryd.sizeOf4
  v4 := Tryd.zeroValue4
  t5 := Tryd.underlying5
  a5 := Tryd.isAgg5
  z5 := Tryd.sizeOf5
  v5 := Tryd.zeroValue5
  t9 := Tryd.underlying9
  a9 := Tryd.isAgg9
  z9 := Tryd.sizeOf9
  v9 := Tryd.zeroValue9
  t21 := Tryd.underlying21
  a21 := Tryd.isAgg21
  z21 := Tryd.sizeOf21
  v21 := Tryd.zeroValue21
  t46 := Tryd.underlying118
  a46 := Tryd.isAgg118
  z46 := Tryd.sizeOf118
  v46 := Tryd.zeroValue118
  t119 := Tryd.underlying117
  a119 := Tryd.isAgg117
  z119 := Tryd.sizeOf117
  t138 := Tryd.underlying120
  a138 := Tryd.isAgg120
  z138 := Tryd.sizeOf120
  v138 := Tryd.zeroValue120
  t139 := Tryd.underlying121
  a139 := Tryd.isAgg121
  z139 := Tryd.sizeOf121
  v139 := Tryd.zeroValue121
  g3 := by kernel_rfl
  g4 := by kernel_rfl }
open Go.RowKit Go.Lib in
theorem Tryd.utf8_decodeRuneInStringSlow (s : ByteArray) (w : World) (hT : Lib.Utf8Tabs 2 3 w) :
    Calls Tryd.prog 96 #[.string s] w fun e w' => e = .returned (.tuple #[.int .i32 (Lib.decodeGo s).1, .int .i64 (Lib.decodeGo s).2]) ∧ Below w.heap.size w w' := Any.utf8_decodeRuneInStringSlow Tryd.lays260 s w hT
def Tryd.lays197_ren : Go.Shelf.Ren := ⟨fun | 197 => 95 | 260 => 96 | n => n, fun | 9 => 9 | 21 => 21 | 3 => 3 | 4 => 4 | 5 => 5 | 105 => 115 | 119 => 117 | 0 => 0 | 46 => 118 | 139 => 121 | 138 => 120 | n => n, fun | 3 => 2 | 4 => 3 | n => n⟩
theorem Tryd.lays197 : Go.Proofs.Lays.n197 Tryd.prog Tryd.lays197_ren := {
  mixed := by kernel_rfl
  f197 := Tryd.func95.trans (congrArg some (by kernel_rfl))
  f260 := Tryd.func96.trans (congrArg some (by kernel_rfl))
  t0 := Tryd.underlying0
  a0 := Tryd.isAgg0
  z0 := Tryd.sizeOf0
  v0 := Tryd.zeroValue0
  t3 := Tryd.underlying3
  a3 := Tryd.isAgg3
  z3 := Tryd.sizeOf3
  v3 := Tryd.zeroValue3
  t4 := Tryd.underlying4
  a4 := Tryd.isAgg4
  z4 := Tryd.sizeOf4
  v4 := Tryd.zeroValue4
  t5 := Tryd.underlying5
  a5 := Tryd.isAgg5
  z5 := Tryd.sizeOf5
  v5 := Tryd.zeroValue5
  t9 := Tryd.underlying9
  a9 := Tryd.isAgg9
  z9 := Tryd.sizeOf9
  v9 := Tryd.zeroValue9
  t21 := Tryd.underlying21
  a21 := Tryd.isAgg21
  z21 := Tryd.sizeOf21
  v21 := Tryd.zeroValue21
  t46 := Tryd.underlying118
  a46 := Tryd.isAgg118
  z46 := Tryd.sizeOf118
  v46 := Tryd.zeroValue118
  t105 := Tryd.underlying115
  a105 := Tryd.isAgg115
  z105 := Tryd.sizeOf115
  v105 := Tryd.zeroValue115
  t119 := Tryd.underlying117
  a119 := Tryd.isAgg117
  z119 := Tryd.sizeOf117
  t138 := Tryd.underlying120
  a138 := Tryd.isAgg120
  z138 := Tryd.sizeOf120
  v138 := Tryd.zeroValue120
  t139 := Tryd.underlying121
  a139 := Tryd.isAgg121
  z139 := Tryd.sizeOf121
  v139 := Tryd.zeroValue121
  g3 := by kernel_rfl
  g4 := by kernel_rfl }
open Go.RowKit Go.Lib in
/-- **unicode/utf8.DecodeRuneInString AT EVERY STRING.** (LAID: no walk: one application.) -/
theorem Tryd.utf8_DecodeRuneInString (s : ByteArray) (w : World) (hT : Lib.Utf8Tabs 2 3 w) :
    Calls Tryd.prog 95 #[.string s] w fun e w' => e = .returned (.tuple #[.int .i32 (Lib.decodeGo s).1, .int .i64 (Lib.decodeGo s).2]) ∧ Below w.heap.size w w' := Any.utf8_DecodeRuneInString Tryd.lays197 s w hT
end Go.Proofs

namespace Go.Proofs.YteicpjbeihabnaaDoor
open Go.RowKit

theorem iterPos_of {wn : World} {k : Nat} {s : ByteArray} {p : Nat} (h : wn.heap[k]? = some (.stringIter s p)) : wn.iterPos k = p := by simp [World.iterPos, h]
theorem below_iterAt {B : Nat} {a w : World} (h : Below B a w) {k : Nat} (hk : B ≤ k) (s : ByteArray) (p : Nat) : Below B a (w.iterAt k s p) :=
  h.trans ⟨rfl, rfl, rfl, by simp [World.iterAt], fun j hj => by simp only [World.iterAt]; rw [Array.getElem?_setIfInBounds_ne (by omega)]⟩
end Go.Proofs.YteicpjbeihabnaaDoor

namespace Go.Proofs.YteicpjbeihabnaaDoor
open Go.RowKit

theorem chr_dec {s : ByteArray} {p : Nat} (h : (chr s p).1 ≠ 0) : Utf8.decode s p = ((chr s p).2, (chr s p).1) := by
  unfold chr at h ⊢
  by_cases c : (Utf8.decode s p).1 = 65533 ∧ (Utf8.decode s p).2 = 1
  · rw [if_pos c] at h; exact absurd rfl h
  · rw [if_neg c]

theorem decode_extract (s : ByteArray) (i : Nat) (h : i < s.size) : Lib.decodeGo (s.extract i s.size) = Utf8.decode s i := by
  have hz : (s.extract i s.size).size = s.size - i := by rw [ByteArray.size_extract]; omega
  unfold Lib.decodeGo
  rw [if_neg (by omega), Lib.decode_at, Lib.decode_at, get!_extract, get!_extract, get!_extract, get!_extract, hz]
  simp

set_option maxHeartbeats 400000 in
set_option maxRecDepth 1000000 in
theorem broken_any (s : ByteArray) (w : World) (hT : Lib.Utf8Tabs 2 3 w) :
    Calls Tryd.prog 92 #[.string s] w fun e w' => e = .returned (.bool (((Lib.decodeGo s).2 : Int) == 1)) ∧ Below w.heap.size w w' := by
  have H := hide (Tryd.utf8_DecodeRuneInString s w hT)
  go_enter Tryd.func92, Tryd.ntmps92
  go_wp2_with (go_at_call 95; refine H.out.mono ?_; rintro e w1 ⟨rfl, hb1⟩)
  go_ret
  exact ⟨rfl, hb1⟩

theorem width_pos (s : ByteArray) (pos : Nat) (h : pos < s.size) : 1 ≤ (Utf8.decode s pos).2 := by
  by_cases ha : (s[pos]'h).toNat < 128
  · rw [decode_ascii s pos h ha]
    exact Nat.le_refl _
  · exact (decode_high s pos h (by omega)).2

set_option maxHeartbeats 400000 in
set_option maxRecDepth 1000000 in
theorem implCheck_val (v : Value) (s : ByteArray) (w : World) (hs : s.size ≤ 1048576) (hT : Lib.Utf8Tabs 2 3 w) (hcv : (convert 26 9 v).run Tryd.prog w = .ok (.string s) w) :
    Calls Tryd.prog 89 #[v] w fun e w' => e = .returned (pairVal (chk s)) ∧ Below w.heap.size w w' := by
  have HT := hide hT
  clear hT
  go_enter Tryd.func89, Tryd.ntmps89
  go_wp2
  clear hcv
  go_loopw [5] (fun _ wr => ∃ p f : Nat, wr.heap[w.heap.size]? = some (.stringIter s p) ∧ p ≤ s.size + 4 ∧ s.size < p + f ∧ chkAt s f p = chk s ∧ Below w.heap.size w wr) (fun _ wr => s.size - wr.iterPos w.heap.size)
  case atStart => exact ⟨0, s.size + 1, World.iter_heap w s 0, by omega, by omega, rfl, (Below.refl _ _).alloc (Nat.le_refl _) _⟩
  case round =>
    obtain ⟨p, f, hit, hp, hf, hk, hbl⟩ := hrel
    have HK := hide hk
    clear hk
    have hpos := iterPos_of hit
    have HPOS := hide hpos
    clear hpos
    by_cases hlt : p < s.size
    · have hnx : ∀ ty, (Instr.next (.pointer (some ⟨w.heap.size, 0, none⟩)) true ty).run Tryd.prog wr = _ := fun ty => Lib.run_next_any_at wr w.heap.size s p ty hit hlt
      have hit2 := Lib.iterAt_heap wr w.heap.size s p (p + (Utf8.decode s p).2) hit
      have hb2 := below_iterAt hbl (Nat.le_refl _) s (p + (Utf8.decode s p).2)
      have hdx := decode_extract s p hlt
      have hcr : chr s p = pick (Utf8.decode s p) := rfl
      have hdl := decode_le s p
      have hwd := width_pos s p hlt
      obtain ⟨r, d, hd⟩ : ∃ r d, Utf8.decode s p = (r, d) := ⟨_, _, rfl⟩
      rw [hd] at hnx hit2 hb2 hdx hcr hdl hwd
      simp only at hnx hit2 hb2 hdl hwd
      generalize wr.iterAt w.heap.size s (p + d) = wn at *
      clear hd
      by_cases hr : r = 65533
      · have hrb : ((r : Int) == 65533) = true := by rw [beq_iff_eq]; omega
        have H9 := broken_any (s.extract p s.size) wn (Utf8Tabs_below HT.out hb2)
        rw [hdx] at H9
        simp only at H9
        have HR : Hid (r = 65533) := hr
        clear hr hdx
        have HIT := hide hit2
        have HB2 := hide hb2
        have hwn : w.heap.size < wn.heap.size := (Array.getElem?_eq_some_iff.1 hit2).1
        clear hit hit2 hb2
        by_cases hd1 : d = 1
        · have hdb : ((d : Int) == 1) = true := by rw [beq_iff_eq]; omega
          rw [hdb] at H9
          have H9' := hide H9
          have HZ : Hid (chk s = (2, p)) := by
            show _ = _
            rw [← HK.out]
            refine chkAt_bad hlt hf ?_
            rw [hcr]; unfold pick; rw [if_pos ⟨HR.out, hd1⟩]
          clear H9 hcr hd1 hdb
          go_wp2_with (go_at_call 92; refine H9'.out.mono ?_; rintro e w1 ⟨rfl, hb1⟩)
          go_ret2
          exact ⟨by rw [pairVal_of HZ.out]; rfl, HB2.out.trans (hb1.mono (by omega))⟩
        · have hdb : ((d : Int) == 1) = false := by rw [beq_eq_false_iff_ne]; omega
          rw [hdb] at H9
          have H9' := hide H9
          have HC : Hid (chr s p = (d, r)) := by show _ = _; rw [hcr]; unfold pick; rw [if_neg (fun g => hd1 g.2)]
          obtain ⟨g, hg, hgk⟩ := chkAt_good hlt hf (by rw [HC.out]; show d ≠ 0; omega)
          have HG : Hid (chkAt s g (p + d) = chk s) := by show _ = _; rw [← HK.out, hgk, HC.out]
          have hd4 : d ≤ 4 := by have := chr_le s p; rw [HC.out] at this; exact this
          have hg1 : f ≤ g + 1 := by omega
          clear H9 hcr hd1 hdb hgk hg
          go_wp2_with (go_at_call 92; refine H9'.out.mono ?_; rintro e w1 ⟨rfl, hb1⟩)
          go_roundw
          case rel => exact ⟨p + d, g, (hb1.block _ hwn).trans HIT.out, by omega, by omega, HG.out, HB2.out.trans (hb1.mono (by omega))⟩
          case measure => rw [iterPos_of ((hb1.block _ hwn).trans HIT.out), HPOS.out]; omega
      · have hrb : ((r : Int) == 65533) = false := by rw [beq_eq_false_iff_ne]; omega
        have HC : Hid (chr s p = (d, r)) := by show _ = _; rw [hcr]; unfold pick; rw [if_neg (fun g => hr g.1)]
        obtain ⟨g, hg, hgk⟩ := chkAt_good hlt hf (by rw [HC.out]; show d ≠ 0; omega)
        have HG : Hid (chkAt s g (p + d) = chk s) := by show _ = _; rw [← HK.out, hgk, HC.out]
        have hd4 : d ≤ 4 := by have := chr_le s p; rw [HC.out] at this; exact this
        have HIT := hide hit2
        have HB2 := hide hb2
        have hg1 : f ≤ g + 1 := by omega
        clear hr hcr hgk hdx hit hit2 hb2 hg
        go_wp2
        go_roundw
        case rel => exact ⟨p + d, g, HIT.out, by omega, by omega, HG.out, HB2.out⟩
        case measure => rw [iterPos_of HIT.out, HPOS.out]; omega
    · have hnx : ∀ ty, (Instr.next (.pointer (some ⟨w.heap.size, 0, none⟩)) true ty).run Tryd.prog wr = _ := fun ty => Lib.run_next_end_at wr w.heap.size s p ty hit hlt
      have HZ : Hid (chk s = (0, 0)) := by rw [← HK.out]; exact chkAt_end hlt
      clear hit
      go_wp2
      go_ret2
      exact ⟨by rw [pairVal_of HZ.out]; rfl, hbl⟩

theorem implCheck_any (b off cap : Nat) (s : ByteArray) (w : World) (hs : s.size ≤ 1048576) (hT : Lib.Utf8Tabs 2 3 w) (hc : ∀ j, j < s.size → w.cell? ⟨b, off + j, none⟩ = some (bts s j)) :
    Calls Tryd.prog 89 #[.slice (some ⟨b, off, none⟩) s.size cap] w fun e w' => e = .returned (pairVal (chk s)) ∧ Below w.heap.size w w' :=
  implCheck_val _ s w hs hT (toStr_run s w b off cap hc)
end Go.Proofs.YteicpjbeihabnaaDoor
