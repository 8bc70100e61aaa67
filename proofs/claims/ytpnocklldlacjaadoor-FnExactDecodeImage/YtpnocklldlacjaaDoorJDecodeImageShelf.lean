/-
  DERIVED: THE SHELF's CONTRACTS AT THIS DUMP, IN PLAIN WORDS (tools/lay-plain.mjs out of 'TrydShelf.lean', which tools/lay-shelf.mjs wrote): THE SAME DECLARATIONS UNDER THE SAME NAMES: 'import', 'namespace', 'open', 'def', 'theorem' AND NOTHING ELSE: no command of the shelf's: FOR A HAND-IN. Each laying: the table of numbers ('.._ren') and one theorem, a field a fact of the dump's own or the kernel's comparison; each contract: ONE APPLICATION.
  Plain facts on a range over a string: where it stands, what it leaves alone.
  The walks of impl.isBroken and impl.CheckText.
  The walk of isShortText.
  The walk of bytes.Compare.
-/
import Derived.Shelf.Unicode.Decode
import Derived.Shelf.Unicode.DecodeSlow
import Derived.Shelf.Unicode.DecodeAny
import Derived.Test.YtpnocklldlacjaaDoorProg
import Derived.Below
import Derived.Lib.OthersKept
import Derived.Test.YtpnocklldlacjaaDoorJDecodeImageK
import Derived.Test.YtpnocklldlacjaaDoorJDecodeImageIN0
import Derived.Lib.BytesEntry
import Derived.Lib.Bytealg
import Derived.Laws.Externs
namespace Go.Proofs
open Go.Shelf
def Tryd.lays260_ren : Go.Shelf.Ren := ⟨fun | 260 => 94 | n => n, fun | 9 => 9 | 21 => 21 | 3 => 3 | 4 => 4 | 5 => 5 | 119 => 132 | 0 => 0 | 46 => 95 | 139 => 135 | 138 => 134 | n => n, fun | 3 => 3 | 4 => 4 | n => n⟩
theorem Tryd.lays260 : Go.Proofs.Lays.n260 Tryd.prog Tryd.lays260_ren := {
  mixed := by kernel_rfl
  f260 := Tryd.func94.trans (congrArg some (by kernel_rfl))
  t0 := Tryd.underlying0
  a0 := Tryd.isAgg0
  z0 := Tryd.sizeOf0
  v0 := Tryd.zeroValue0
  t3 := Tryd.underlying3
  a3 := Tryd.isAgg3
  z3 := Tryd.sizeOf3
  v3 := Tryd.zeroValue3
  t4 := Tryd.underlying4
  a4 := Tryd.isAgg4
  z4 := Tryd.sizeOf4
  v4 := Tryd.zeroValue4
  t5 := Tryd.underlying5
  a5 := Tryd.isAgg5
  z5 := Tryd.sizeOf5
  v5 := Tryd.zeroValue5
  t9 := Tryd.underlying9
  a9 := Tryd.isAgg9
  z9 := Tryd.sizeOf9
  v9 := Tryd.zeroValue9
  t21 := Tryd.underlying21
  a21 := Tryd.isAgg21
  z21 := Tryd.sizeOf21
  v21 := Tryd.zeroValue21
  t46 := Tryd.underlying95
  a46 := Tryd.isAgg95
  z46 := Tryd.sizeOf95
  v46 := Tryd.zeroValue95
  t119 := Tryd.underlying132
  a119 := Tryd.isAgg132
  z119 := Tryd.sizeOf132
  t138 := Tryd.underlying134
  a138 := Tryd.isAgg134
  z138 := Tryd.sizeOf134
  v138 := Tryd.zeroValue134
  t139 := Tryd.underlying135
  a139 := Tryd.isAgg135
  z139 := Tryd.sizeOf135
  v139 := Tryd.zeroValue135
  g3 := by kernel_rfl
  g4 := by kernel_rfl }
open Go.RowKit Go.Lib in
theorem Tryd.utf8_decodeRuneInStringSlow (s : ByteArray) (w : World) (hT : Lib.Utf8Tabs 3 4 w) :
    Calls Tryd.prog 94 #[.string s] w fun e w' => e = .returned (.tuple #[.int .i32 (Lib.decodeGo s).1, .int .i64 (Lib.decodeGo s).2]) ∧ Below w.heap.size w w' := Any.utf8_decodeRuneInStringSlow Tryd.lays260 s w hT
def Tryd.lays197_ren : Go.Shelf.Ren := ⟨fun | 197 => 93 | 260 => 94 | n => n, fun | 9 => 9 | 21 => 21 | 3 => 3 | 4 => 4 | 5 => 5 | 105 => 130 | 119 => 132 | 0 => 0 | 46 => 95 | 139 => 135 | 138 => 134 | n => n, fun | 3 => 3 | 4 => 4 | n => n⟩
theorem Tryd.lays197 : Go.Proofs.Lays.n197 Tryd.prog Tryd.lays197_ren := {
  mixed := by kernel_rfl
  f197 := Tryd.func93.trans (congrArg some (by kernel_rfl))
  f260 := Tryd.func94.trans (congrArg some (by kernel_rfl))
  t0 := Tryd.underlying0
  a0 := Tryd.isAgg0
  z0 := Tryd.sizeOf0
  v0 := Tryd.zeroValue0
  t3 := Tryd.underlying3
  a3 := Tryd.isAgg3
  z3 := Tryd.sizeOf3
  v3 := Tryd.zeroValue3
  t4 := Tryd.underlying4
  a4 := Tryd.isAgg4
  z4 := Tryd.sizeOf4
  v4 := Tryd.zeroValue4
  t5 := Tryd.underlying5
  a5 := Tryd.isAgg5
  z5 := Tryd.sizeOf5
  v5 := Tryd.zeroValue5
  t9 := Tryd.underlying9
  a9 := Tryd.isAgg9
  z9 := Tryd.sizeOf9
  v9 := Tryd.zeroValue9
  t21 := Tryd.underlying21
  a21 := Tryd.isAgg21
  z21 := Tryd.sizeOf21
  v21 := Tryd.zeroValue21
  t46 := Tryd.underlying95
  a46 := Tryd.isAgg95
  z46 := Tryd.sizeOf95
  v46 := Tryd.zeroValue95
  t105 := Tryd.underlying130
  a105 := Tryd.isAgg130
  z105 := Tryd.sizeOf130
  v105 := Tryd.zeroValue130
  t119 := Tryd.underlying132
  a119 := Tryd.isAgg132
  z119 := Tryd.sizeOf132
  t138 := Tryd.underlying134
  a138 := Tryd.isAgg134
  z138 := Tryd.sizeOf134
  v138 := Tryd.zeroValue134
  t139 := Tryd.underlying135
  a139 := Tryd.isAgg135
  z139 := Tryd.sizeOf135
  v139 := Tryd.zeroValue135
  g3 := by kernel_rfl
  g4 := by kernel_rfl }
open Go.RowKit Go.Lib in
/-- **unicode/utf8.DecodeRuneInString AT EVERY STRING.** (LAID: no walk: one application.) -/
theorem Tryd.utf8_DecodeRuneInString (s : ByteArray) (w : World) (hT : Lib.Utf8Tabs 3 4 w) :
    Calls Tryd.prog 93 #[.string s] w fun e w' => e = .returned (.tuple #[.int .i32 (Lib.decodeGo s).1, .int .i64 (Lib.decodeGo s).2]) ∧ Below w.heap.size w w' := Any.utf8_DecodeRuneInString Tryd.lays197 s w hT
end Go.Proofs

namespace Go.Proofs.YtpnocklldlacjaaDoor
open Go.RowKit

theorem iterPos_of {wn : World} {k : Nat} {s : ByteArray} {p : Nat} (h : wn.heap[k]? = some (.stringIter s p)) : wn.iterPos k = p := by simp [World.iterPos, h]
theorem below_iterAt {B : Nat} {a w : World} (h : Below B a w) {k : Nat} (hk : B ≤ k) (s : ByteArray) (p : Nat) : Below B a (w.iterAt k s p) :=
  h.trans ⟨rfl, rfl, rfl, by simp [World.iterAt], fun j hj => by simp only [World.iterAt]; rw [Array.getElem?_setIfInBounds_ne (by omega)]⟩
end Go.Proofs.YtpnocklldlacjaaDoor

namespace Go.Proofs.YtpnocklldlacjaaDoor
open Go.RowKit

theorem chr_dec {s : ByteArray} {p : Nat} (h : (chr s p).1 ≠ 0) : Utf8.decode s p = ((chr s p).2, (chr s p).1) := by
  unfold chr at h ⊢
  by_cases c : (Utf8.decode s p).1 = 65533 ∧ (Utf8.decode s p).2 = 1
  · rw [if_pos c] at h; exact absurd rfl h
  · rw [if_neg c]

theorem decode_extract (s : ByteArray) (i : Nat) (h : i < s.size) : Lib.decodeGo (s.extract i s.size) = Utf8.decode s i := by
  have hz : (s.extract i s.size).size = s.size - i := by rw [ByteArray.size_extract]; omega
  unfold Lib.decodeGo
  rw [if_neg (by omega), Lib.decode_at, Lib.decode_at, get!_extract, get!_extract, get!_extract, get!_extract, hz]
  simp

set_option maxHeartbeats 400000 in
set_option maxRecDepth 1000000 in
theorem broken_any (s : ByteArray) (w : World) (hT : Lib.Utf8Tabs 3 4 w) :
    Calls Tryd.prog 87 #[.string s] w fun e w' => e = .returned (.bool (((Lib.decodeGo s).2 : Int) == 1)) ∧ Below w.heap.size w w' := by
  have H := hide (Tryd.utf8_DecodeRuneInString s w hT)
  go_enter Tryd.func87, Tryd.ntmps87
  go_wp2_with (go_at_call 93; refine H.out.mono ?_; rintro e w1 ⟨rfl, hb1⟩)
  go_ret
  exact ⟨rfl, hb1⟩

theorem width_pos (s : ByteArray) (pos : Nat) (h : pos < s.size) : 1 ≤ (Utf8.decode s pos).2 := by
  by_cases ha : (s[pos]'h).toNat < 128
  · rw [decode_ascii s pos h ha]
    exact Nat.le_refl _
  · exact (decode_high s pos h (by omega)).2

set_option maxHeartbeats 400000 in
set_option maxRecDepth 1000000 in
theorem implCheck_val (v : Value) (s : ByteArray) (w : World) (hs : s.size ≤ 1048576) (hT : Lib.Utf8Tabs 3 4 w) (hcv : (convert 37 9 v).run Tryd.prog w = .ok (.string s) w) :
    Calls Tryd.prog 78 #[v] w fun e w' => e = .returned (pairVal (chk s)) ∧ Below w.heap.size w w' := by
  have HT := hide hT
  clear hT
  go_enter Tryd.func78, Tryd.ntmps78
  go_wp2
  clear hcv
  go_loopw [5] (fun _ wr => ∃ p f : Nat, wr.heap[w.heap.size]? = some (.stringIter s p) ∧ p ≤ s.size + 4 ∧ s.size < p + f ∧ chkAt s f p = chk s ∧ Below w.heap.size w wr) (fun _ wr => s.size - wr.iterPos w.heap.size)
  case atStart => exact ⟨0, s.size + 1, World.iter_heap w s 0, by omega, by omega, rfl, (Below.refl _ _).alloc (Nat.le_refl _) _⟩
  case round =>
    obtain ⟨p, f, hit, hp, hf, hk, hbl⟩ := hrel
    have HK := hide hk
    clear hk
    have hpos := iterPos_of hit
    have HPOS := hide hpos
    clear hpos
    by_cases hlt : p < s.size
    · have hnx : ∀ ty, (Instr.next (.pointer (some ⟨w.heap.size, 0, none⟩)) true ty).run Tryd.prog wr = _ := fun ty => Lib.run_next_any_at wr w.heap.size s p ty hit hlt
      have hit2 := Lib.iterAt_heap wr w.heap.size s p (p + (Utf8.decode s p).2) hit
      have hb2 := below_iterAt hbl (Nat.le_refl _) s (p + (Utf8.decode s p).2)
      have hdx := decode_extract s p hlt
      have hcr : chr s p = pick (Utf8.decode s p) := rfl
      have hdl := decode_le s p
      have hwd := width_pos s p hlt
      obtain ⟨r, d, hd⟩ : ∃ r d, Utf8.decode s p = (r, d) := ⟨_, _, rfl⟩
      rw [hd] at hnx hit2 hb2 hdx hcr hdl hwd
      simp only at hnx hit2 hb2 hdl hwd
      generalize wr.iterAt w.heap.size s (p + d) = wn at *
      clear hd
      by_cases hr : r = 65533
      · have hrb : ((r : Int) == 65533) = true := by rw [beq_iff_eq]; omega
        have H9 := broken_any (s.extract p s.size) wn (Utf8Tabs_below HT.out hb2)
        rw [hdx] at H9
        simp only at H9
        have HR : Hid (r = 65533) := hr
        clear hr hdx
        have HIT := hide hit2
        have HB2 := hide hb2
        have hwn : w.heap.size < wn.heap.size := (Array.getElem?_eq_some_iff.1 hit2).1
        clear hit hit2 hb2
        by_cases hd1 : d = 1
        · have hdb : ((d : Int) == 1) = true := by rw [beq_iff_eq]; omega
          rw [hdb] at H9
          have H9' := hide H9
          have HZ : Hid (chk s = (2, p)) := by
            show _ = _
            rw [← HK.out]
            refine chkAt_bad hlt hf ?_
            rw [hcr]; unfold pick; rw [if_pos ⟨HR.out, hd1⟩]
          clear H9 hcr hd1 hdb
          go_wp2_with (go_at_call 87; refine H9'.out.mono ?_; rintro e w1 ⟨rfl, hb1⟩)
          go_ret2
          exact ⟨by rw [pairVal_of HZ.out]; rfl, HB2.out.trans (hb1.mono (by omega))⟩
        · have hdb : ((d : Int) == 1) = false := by rw [beq_eq_false_iff_ne]; omega
          rw [hdb] at H9
          have H9' := hide H9
          have HC : Hid (chr s p = (d, r)) := by show _ = _; rw [hcr]; unfold pick; rw [if_neg (fun g => hd1 g.2)]
          obtain ⟨g, hg, hgk⟩ := chkAt_good hlt hf (by rw [HC.out]; show d ≠ 0; omega)
          have HG : Hid (chkAt s g (p + d) = chk s) := by show _ = _; rw [← HK.out, hgk, HC.out]
          have hd4 : d ≤ 4 := by have := chr_le s p; rw [HC.out] at this; exact this
          have hg1 : f ≤ g + 1 := by omega
          clear H9 hcr hd1 hdb hgk hg
          go_wp2_with (go_at_call 87; refine H9'.out.mono ?_; rintro e w1 ⟨rfl, hb1⟩)
          go_roundw
          case rel => exact ⟨p + d, g, (hb1.block _ hwn).trans HIT.out, by omega, by omega, HG.out, HB2.out.trans (hb1.mono (by omega))⟩
          case measure => rw [iterPos_of ((hb1.block _ hwn).trans HIT.out), HPOS.out]; omega
      · have hrb : ((r : Int) == 65533) = false := by rw [beq_eq_false_iff_ne]; omega
        have HC : Hid (chr s p = (d, r)) := by show _ = _; rw [hcr]; unfold pick; rw [if_neg (fun g => hr g.1)]
        obtain ⟨g, hg, hgk⟩ := chkAt_good hlt hf (by rw [HC.out]; show d ≠ 0; omega)
        have HG : Hid (chkAt s g (p + d) = chk s) := by show _ = _; rw [← HK.out, hgk, HC.out]
        have hd4 : d ≤ 4 := by have := chr_le s p; rw [HC.out] at this; exact this
        have HIT := hide hit2
        have HB2 := hide hb2
        have hg1 : f ≤ g + 1 := by omega
        clear hr hcr hgk hdx hit hit2 hb2 hg
        go_wp2
        go_roundw
        case rel => exact ⟨p + d, g, HIT.out, by omega, by omega, HG.out, HB2.out⟩
        case measure => rw [iterPos_of HIT.out, HPOS.out]; omega
    · have hnx : ∀ ty, (Instr.next (.pointer (some ⟨w.heap.size, 0, none⟩)) true ty).run Tryd.prog wr = _ := fun ty => Lib.run_next_end_at wr w.heap.size s p ty hit hlt
      have HZ : Hid (chk s = (0, 0)) := by rw [← HK.out]; exact chkAt_end hlt
      clear hit
      go_wp2
      go_ret2
      exact ⟨by rw [pairVal_of HZ.out]; rfl, hbl⟩

theorem implCheck_any (b off cap : Nat) (s : ByteArray) (w : World) (hs : s.size ≤ 1048576) (hT : Lib.Utf8Tabs 3 4 w) (hc : ∀ j, j < s.size → w.cell? ⟨b, off + j, none⟩ = some (bts s j)) :
    Calls Tryd.prog 78 #[.slice (some ⟨b, off, none⟩) s.size cap] w fun e w' => e = .returned (pairVal (chk s)) ∧ Below w.heap.size w w' :=
  implCheck_val _ s w hs hT (toStr_run s w b off cap hc)
end Go.Proofs.YtpnocklldlacjaaDoor

namespace Go.Proofs.YtpnocklldlacjaaDoor
open Go.RowKit

theorem implCheck_bs {w : World} {v : Value} {s : ByteArray} (hs : s.size ≤ 1048576) (hT : Lib.Utf8Tabs 3 4 w) (h : BS w v s) :
    Calls Tryd.prog 78 #[v] w fun e w' => e = .returned (pairVal (chk s)) ∧ Below w.heap.size w w' := implCheck_val v s w hs hT (toStr_bs h)

/-- Whether a text is short and well-formed. -/
def shortT (s : ByteArray) : Bool := decide (s.size ≤ 60) && decide ((chk s).1 = 0)
set_option maxHeartbeats 1000000 in
set_option maxRecDepth 1000000 in
theorem isShort_any (v : Value) (s : ByteArray) (w : World) (hl : s.size ≤ 1048576) (hT : Lib.Utf8Tabs 3 4 w) (h : BS w v s) :
    Calls Tryd.prog 56 #[v] w fun e w' => e = .returned (.bool (shortT s)) ∧ Below w.heap.size w w' := by
  have HB := hide h
  have HT := hide hT
  obtain ⟨a, b, o, c, rfl, _, _⟩ := h
  clear hT
  by_cases h60 : s.size ≤ 60
  · have d1 : decide ((60 : Int) < (s.size : Int)) = false := decide_eq_false (by omega)
    obtain ⟨A, D, hAD⟩ : ∃ A D, chk s = (A, D) := ⟨_, _, rfl⟩
    have HN : Hid (shortT s = ((A : Int) == 0)) := by
      show _ = _
      unfold shortT
      rw [decide_eq_true h60, Bool.true_and, hAD]
      show decide (A = 0) = _
      by_cases h : A = 0
      · subst h; rfl
      · rw [decide_eq_false h]; symm; rw [beq_eq_false_iff_ne]; omega
    have HAD := hide hAD
    clear hAD h60
    go_enter Tryd.func56, Tryd.ntmps56
    go_wp2_with fail
    refine (implCheck_bs hl HT.out HB.out).mono ?_
    rintro e w2 ⟨rfl, hb2⟩
    rw [pairVal_of HAD.out]
    have HB2 := hide hb2
    clear hb2
    go_wp2
    go_ret
    exact ⟨by rw [HN.out]; rfl, HB2.out⟩
  · have d1 : decide ((60 : Int) < (s.size : Int)) = true := decide_eq_true (by omega)
    have HN : Hid (shortT s = false) := by show _ = _; unfold shortT; rw [decide_eq_false h60, Bool.false_and]
    clear h60
    go_enter Tryd.func56, Tryd.ntmps56
    go_wp2
    go_ret
    exact ⟨by rw [HN.out]; rfl, Below.refl _ _⟩
end Go.Proofs.YtpnocklldlacjaaDoor

namespace Go.Proofs.YtpnocklldlacjaaDoor
open Go.RowKit

theorem bytesOf_bs {w : World} {v : Value} {s : ByteArray} (h : BS w v s) : (Extern.Bytes.bytesOf v).run Tryd.prog w = .ok s w := by
  obtain ⟨a, b, o, c, rfl, ha, hc⟩ := h
  by_cases h0 : 0 < s.size
  · obtain rfl := ha h0
    have hl := Lib.run_loadBytesX (P := Tryd.prog) w (nums s) ⟨b, o, none⟩ .empty (fun j x hj => by
      have hjl : j < (nums s).length := (List.getElem?_eq_some_iff.1 hj).1
      rw [nums_length] at hjl
      have e : (⟨b, o, none⟩ : Addr).add j = ⟨b, o + j, none⟩ := by unfold Addr.add; split <;> simp_all
      rw [e, hc j hjl, ← nums_getD s j hjl, List.getD_eq_getElem?_getD, hj]
      rfl)
    rw [nums_length] at hl
    refine (show (Extern.Bytes.bytesOf (.slice (some ⟨b, o, none⟩) s.size c)).run Tryd.prog w = (Extern.Bytes.loadBytes ⟨b, o, none⟩ s.size .empty).run Tryd.prog w from rfl).trans (hl.trans ?_)
    have hs := strOf_nums s
    congr 1
    refine Eq.trans ?_ hs
    unfold strOfNums
    congr 1
    exact Array.empty_append.trans rfl
  · have hz : s.size = 0 := by omega
    have e : s = ByteArray.empty := ext_bytes hz (fun j hj => by omega)
    subst e
    cases a <;> rfl

theorem cmp_less : ∀ (a b : List UInt8), decide (0 ≤ Lib.compareBytes a b) = !Go.Op.bytesLess a b
  | [], [] => rfl
  | [], _ :: _ => rfl
  | _ :: _, [] => rfl
  | a :: xs, b :: ys => by
    unfold Lib.compareBytes Go.Op.bytesLess
    by_cases h1 : a < b
    · simp [h1]
    · by_cases h2 : b < a
      · have h3 : (a == b) = false := by
          rw [beq_eq_false_iff_ne]; intro e; subst e; exact h1 h2
        simp [h1, h2, h3]
      · have h3 : a = b := by
          apply UInt8.toNat_inj.1
          rw [UInt8.lt_iff_toNat_lt] at h1 h2
          omega
        subst h3
        simp [h1, cmp_less xs ys]

set_option maxHeartbeats 1000000 in
set_option maxRecDepth 1000000 in
theorem bcmp_any (va vb : Value) (a b : ByteArray) (w : World) (ha : BS w va a) (hb : BS w vb b) :
    Calls Tryd.prog 57 #[va, vb] w fun e w' => e = .returned (.int .i64 (Lib.compareBytes a.data.toList b.data.toList)) ∧ w' = w := by
  have HR : Hid ((Extern.BytealgCompare.compare #[va, vb]).run Tryd.prog w = .ok (.int .i64 (Lib.compareBytes a.data.toList b.data.toList)) w) := by
    show _ = _
    change Sem.run _ (do pure (goInt (Extern.BytealgCompare.cmp (← Extern.Bytes.bytesOf va) (← Extern.Bytes.bytesOf vb)))) w = _
    simp only [Sem.run_bind, Sem.run_pure, bytesOf_bs ha, bytesOf_bs hb, Result.andThen]
    rw [Lib.cmp_eq]
    rfl
  clear ha hb
  go_enter Tryd.func57, Tryd.ntmps57
  go_wp2
  rw [run_callFunc_extern Tryd.func79 (by kernel_rfl) (by kernel_rfl) (by kernel_rfl) (e := Extern.BytealgCompare.compare) (by kernel_rfl), HR.out]
  simp only [Result.andThen]
  rw [Oper.upon_value]
  go_wp2
  go_ret
  exact ⟨rfl, rfl⟩
end Go.Proofs.YtpnocklldlacjaaDoor
