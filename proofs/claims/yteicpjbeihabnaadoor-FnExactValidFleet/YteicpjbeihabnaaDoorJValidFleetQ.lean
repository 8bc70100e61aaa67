/-
  The walks of impl.isBroken and impl.CheckText.
-/
import Derived.Test.YteicpjbeihabnaaDoorJValidFleetK
import Derived.Test.YteicpjbeihabnaaDoorJValidFleetShelf
import Derived.Test.YteicpjbeihabnaaDoorJValidFleetK
import Derived.Lib.OthersKept
import Derived.Test.YteicpjbeihabnaaDoorJValidFleetShelf
namespace Go.Proofs.YteicpjbeihabnaaDoor
open Go.RowKit

theorem chr_dec {s : ByteArray} {p : Nat} (h : (chr s p).1 ≠ 0) : Utf8.decode s p = ((chr s p).2, (chr s p).1) := by
  unfold chr at h ⊢
  by_cases c : (Utf8.decode s p).1 = 65533 ∧ (Utf8.decode s p).2 = 1
  · rw [if_pos c] at h; exact absurd rfl h
  · rw [if_neg c]

theorem decode_extract (s : ByteArray) (i : Nat) (h : i < s.size) : Lib.decodeGo (s.extract i s.size) = Utf8.decode s i := by
  have hz : (s.extract i s.size).size = s.size - i := by rw [ByteArray.size_extract]; omega
  unfold Lib.decodeGo
  rw [if_neg (by omega), Lib.decode_at, Lib.decode_at, get!_extract, get!_extract, get!_extract, get!_extract, hz]
  simp

set_option maxHeartbeats 400000 in
set_option maxRecDepth 1000000 in
theorem broken_any (s : ByteArray) (w : World) (hT : Lib.Utf8Tabs 2 3 w) :
    Calls Tryd.prog 92 #[.string s] w fun e w' => e = .returned (.bool (((Lib.decodeGo s).2 : Int) == 1)) ∧ Below w.heap.size w w' := by
  have H := hide (Tryd.utf8_DecodeRuneInString s w hT)
  go_enter Tryd.func92, Tryd.ntmps92
  go_wp2_with (go_at_call 95; refine H.out.mono ?_; rintro e w1 ⟨rfl, hb1⟩)
  go_ret
  exact ⟨rfl, hb1⟩

theorem width_pos (s : ByteArray) (pos : Nat) (h : pos < s.size) : 1 ≤ (Utf8.decode s pos).2 := by
  by_cases ha : (s[pos]'h).toNat < 128
  · rw [decode_ascii s pos h ha]
    exact Nat.le_refl _
  · exact (decode_high s pos h (by omega)).2

set_option maxHeartbeats 400000 in
set_option maxRecDepth 1000000 in
theorem implCheck_val (v : Value) (s : ByteArray) (w : World) (hs : s.size ≤ 1048576) (hT : Lib.Utf8Tabs 2 3 w) (hcv : (convert 26 9 v).run Tryd.prog w = .ok (.string s) w) :
    Calls Tryd.prog 89 #[v] w fun e w' => e = .returned (pairVal (chk s)) ∧ Below w.heap.size w w' := by
  have HT := hide hT
  clear hT
  go_enter Tryd.func89, Tryd.ntmps89
  go_wp2
  clear hcv
  go_loopw [5] (fun _ wr => ∃ p f : Nat, wr.heap[w.heap.size]? = some (.stringIter s p) ∧ p ≤ s.size + 4 ∧ s.size < p + f ∧ chkAt s f p = chk s ∧ Below w.heap.size w wr) (fun _ wr => s.size - wr.iterPos w.heap.size)
  case atStart => exact ⟨0, s.size + 1, World.iter_heap w s 0, by omega, by omega, rfl, (Below.refl _ _).alloc (Nat.le_refl _) _⟩
  case round =>
    obtain ⟨p, f, hit, hp, hf, hk, hbl⟩ := hrel
    have HK := hide hk
    clear hk
    have hpos := iterPos_of hit
    have HPOS := hide hpos
    clear hpos
    by_cases hlt : p < s.size
    · have hnx : ∀ ty, (Instr.next (.pointer (some ⟨w.heap.size, 0, none⟩)) true ty).run Tryd.prog wr = _ := fun ty => Lib.run_next_any_at wr w.heap.size s p ty hit hlt
      have hit2 := Lib.iterAt_heap wr w.heap.size s p (p + (Utf8.decode s p).2) hit
      have hb2 := below_iterAt hbl (Nat.le_refl _) s (p + (Utf8.decode s p).2)
      have hdx := decode_extract s p hlt
      have hcr : chr s p = pick (Utf8.decode s p) := rfl
      have hdl := decode_le s p
      have hwd := width_pos s p hlt
      obtain ⟨r, d, hd⟩ : ∃ r d, Utf8.decode s p = (r, d) := ⟨_, _, rfl⟩
      rw [hd] at hnx hit2 hb2 hdx hcr hdl hwd
      simp only at hnx hit2 hb2 hdl hwd
      generalize wr.iterAt w.heap.size s (p + d) = wn at *
      clear hd
      by_cases hr : r = 65533
      · have hrb : ((r : Int) == 65533) = true := by rw [beq_iff_eq]; omega
        have H9 := broken_any (s.extract p s.size) wn (Utf8Tabs_below HT.out hb2)
        rw [hdx] at H9
        simp only at H9
        have HR : Hid (r = 65533) := hr
        clear hr hdx
        have HIT := hide hit2
        have HB2 := hide hb2
        have hwn : w.heap.size < wn.heap.size := (Array.getElem?_eq_some_iff.1 hit2).1
        clear hit hit2 hb2
        by_cases hd1 : d = 1
        · have hdb : ((d : Int) == 1) = true := by rw [beq_iff_eq]; omega
          rw [hdb] at H9
          have H9' := hide H9
          have HZ : Hid (chk s = (2, p)) := by
            show _ = _
            rw [← HK.out]
            refine chkAt_bad hlt hf ?_
            rw [hcr]; unfold pick; rw [if_pos ⟨HR.out, hd1⟩]
          clear H9 hcr hd1 hdb
          go_wp2_with (go_at_call 92; refine H9'.out.mono ?_; rintro e w1 ⟨rfl, hb1⟩)
          go_ret2
          exact ⟨by rw [pairVal_of HZ.out]; rfl, HB2.out.trans (hb1.mono (by omega))⟩
        · have hdb : ((d : Int) == 1) = false := by rw [beq_eq_false_iff_ne]; omega
          rw [hdb] at H9
          have H9' := hide H9
          have HC : Hid (chr s p = (d, r)) := by show _ = _; rw [hcr]; unfold pick; rw [if_neg (fun g => hd1 g.2)]
          obtain ⟨g, hg, hgk⟩ := chkAt_good hlt hf (by rw [HC.out]; show d ≠ 0; omega)
          have HG : Hid (chkAt s g (p + d) = chk s) := by show _ = _; rw [← HK.out, hgk, HC.out]
          have hd4 : d ≤ 4 := by have := chr_le s p; rw [HC.out] at this; exact this
          have hg1 : f ≤ g + 1 := by omega
          clear H9 hcr hd1 hdb hgk hg
          go_wp2_with (go_at_call 92; refine H9'.out.mono ?_; rintro e w1 ⟨rfl, hb1⟩)
          go_roundw
          case rel => exact ⟨p + d, g, (hb1.block _ hwn).trans HIT.out, by omega, by omega, HG.out, HB2.out.trans (hb1.mono (by omega))⟩
          case measure => rw [iterPos_of ((hb1.block _ hwn).trans HIT.out), HPOS.out]; omega
      · have hrb : ((r : Int) == 65533) = false := by rw [beq_eq_false_iff_ne]; omega
        have HC : Hid (chr s p = (d, r)) := by show _ = _; rw [hcr]; unfold pick; rw [if_neg (fun g => hr g.1)]
        obtain ⟨g, hg, hgk⟩ := chkAt_good hlt hf (by rw [HC.out]; show d ≠ 0; omega)
        have HG : Hid (chkAt s g (p + d) = chk s) := by show _ = _; rw [← HK.out, hgk, HC.out]
        have hd4 : d ≤ 4 := by have := chr_le s p; rw [HC.out] at this; exact this
        have HIT := hide hit2
        have HB2 := hide hb2
        have hg1 : f ≤ g + 1 := by omega
        clear hr hcr hgk hdx hit hit2 hb2 hg
        go_wp2
        go_roundw
        case rel => exact ⟨p + d, g, HIT.out, by omega, by omega, HG.out, HB2.out⟩
        case measure => rw [iterPos_of HIT.out, HPOS.out]; omega
    · have hnx : ∀ ty, (Instr.next (.pointer (some ⟨w.heap.size, 0, none⟩)) true ty).run Tryd.prog wr = _ := fun ty => Lib.run_next_end_at wr w.heap.size s p ty hit hlt
      have HZ : Hid (chk s = (0, 0)) := by rw [← HK.out]; exact chkAt_end hlt
      clear hit
      go_wp2
      go_ret2
      exact ⟨by rw [pairVal_of HZ.out]; rfl, hbl⟩

theorem implCheck_any (b off cap : Nat) (s : ByteArray) (w : World) (hs : s.size ≤ 1048576) (hT : Lib.Utf8Tabs 2 3 w) (hc : ∀ j, j < s.size → w.cell? ⟨b, off + j, none⟩ = some (bts s j)) :
    Calls Tryd.prog 89 #[.slice (some ⟨b, off, none⟩) s.size cap] w fun e w' => e = .returned (pairVal (chk s)) ∧ Below w.heap.size w w' :=
  implCheck_val _ s w hs hT (toStr_run s w b off cap hc)
end Go.Proofs.YteicpjbeihabnaaDoor
