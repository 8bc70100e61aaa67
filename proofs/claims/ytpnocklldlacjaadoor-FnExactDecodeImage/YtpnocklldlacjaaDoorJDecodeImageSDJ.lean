/-
  spec.DecodeImage at all bytes.
  Plainly: bits of ints that are no less than 0.
  The walks of impl's reader: want, take, number.
-/
import Derived.Test.YtpnocklldlacjaaDoorJDecodeImageSDI
import Derived.Test.YtpnocklldlacjaaDoorJDecodeImageT
import Derived.Laws.BitsAllLaws
import Derived.Test.YtpnocklldlacjaaDoorJDecodeImageRDI
import Derived.BigQuiet
import Derived.BigRegion
import Derived.Deep.QuietTactic
namespace Go.Proofs.YtpnocklldlacjaaDoor
open Go.RowKit

set_option maxHeartbeats 4000000 in
set_option maxRecDepth 1000000 in
theorem specDecode_any (s : ByteArray) (u : Value) (w : World) (hs : s.size ≤ 1048576) (h : BS w u s) (hc : Cp u) :
    Calls Tryd.prog 20 #[u] w fun e w' => ∃ v2 v3 v4, e = .returned (.tuple #[tbagg (diF s) v2 v3 v4, .int .i64 (diC s)]) ∧ TbV w' (diF s) v2 v3 v4 ∧ Below w.heap.size w w' := by
  by_cases h4 : 4 ≤ s.size
  · exact specDecode_four s u w hs h hc h4
  have HNO : Hid (diF s = ⟨0, 0, [], [], []⟩ ∧ diC s = 9) := di_none (by
    show rI (fb s) s.size = none
    unfold rI
    rw [if_pos (by omega)])
  obtain ⟨a, c, rfl⟩ := h.slice
  have t4 : decide ((s.size : Int) < 4) = true := decide_eq_true (by omega)
  obtain ⟨W0, hW0⟩ : ∃ W, ((w.alloc (.cells #[.int .i64 0, .int .i64 0, .slice none 0 0, .slice none 0 0, .slice none 0 0] 30)).alloc (.cells #[.slice a s.size c, .int .i64 4, .bool false] 69)) = W := ⟨_, rfl⟩
  have HB0 : Hid (Below w.heap.size w W0) := by rw [← hW0]; exact ((Below.refl _ _).alloc (Nat.le_refl _) _).alloc (by rw [World.size_alloc]; omega) _
  have HA0 : Hid (Blk W0 w.heap.size 30 #[.int .i64 0, .int .i64 0, .slice none 0 0, .slice none 0 0, .slice none 0 0]) := by
    rw [← hW0]
    exact (Blk.new _ _ _).alloc _
  have g0 := HA0.out.cell 0
  have g1 := HA0.out.cell 1
  have g2 := HA0.out.cell 2
  have g3 := HA0.out.cell 3
  have g4 := HA0.out.cell 4
  have k0 := HA0.out.frozen 0
  have k1 := HA0.out.frozen 1
  have k2 := HA0.out.frozen 2
  have k3 := HA0.out.frozen 3
  have k4 := HA0.out.frozen 4
  simp only [List.getElem?_toArray, List.getElem?_cons_succ, List.getElem?_cons_zero] at g0 g1 g2 g3 g4
  clear h hc
  go_enter Tryd.func20, Tryd.ntmps20
  go_wp2
  (try simp only [Exit.inBlock, Exit.then])
  refine bodyPost_ret (results_row_tmp rfl _ _ _ w.heap.size 30 #[.int .i64 0, .int .i64 0, .slice none 0 0, .slice none 0 0, .slice none 0 0] (0, 0) rfl (HA0.out.five _ _ _ _ _) Tryd.underlying30 (by kernel_rfl)) rfl ?_
  rw [HNO.out.1, HNO.out.2]
  exact ⟨_, _, _, rfl, tbv_nil _, below_five HB0.out (Nat.le_refl _) _ _ _ _ _⟩
end Go.Proofs.YtpnocklldlacjaaDoor

namespace Go.Proofs.YtpnocklldlacjaaDoor
open Go.RowKit

theorem i64_and_nat (a b : Nat) (ha : a < 9223372036854775808) (hb : b < 9223372036854775808) : bits .and .i64 (a : Int) (b : Int) = ((a &&& b : Nat) : Int) := by
  have hx : a &&& b < 2 ^ 63 := Nat.and_lt_two_pow _ (by omega)
  show IntKind.i64.wrap ((BitVec.ofInt 64 (a : Int) &&& BitVec.ofInt 64 (b : Int)).toNat : Int) = _
  rw [BitVec.toNat_and, ofInt_u64 a (by omega), ofInt_u64 b (by omega), IntKind.wrap_i64]
  omega
theorem i64_or_nat (a b : Nat) (ha : a < 9223372036854775808) (hb : b < 9223372036854775808) : bits .or .i64 (a : Int) (b : Int) = ((a ||| b : Nat) : Int) := by
  have hx : a ||| b < 2 ^ 63 := Nat.or_lt_two_pow (by omega) (by omega)
  show IntKind.i64.wrap ((BitVec.ofInt 64 (a : Int) ||| BitVec.ofInt 64 (b : Int)).toNat : Int) = _
  rw [BitVec.toNat_or, ofInt_u64 a (by omega), ofInt_u64 b (by omega), IntKind.wrap_i64]
  omega
theorem i64_and_one (a : Nat) (ha : a < 9223372036854775808) : bits .and .i64 (a : Int) 1 = ((a % 2 : Nat) : Int) := by
  have h := i64_and_nat a 1 ha (by omega)
  rw [nat_mask1] at h
  exact h
theorem u8_and_one (a : Nat) (ha : a < 256) : bits .and .u8 (a : Int) 1 = ((a % 2 : Nat) : Int) := by
  have h := u8_and_nat a 1 ha (by omega)
  rw [nat_mask1] at h
  exact h
/-- What is laid above the bits that are there. -/
theorem or_above (t z y : Nat) (hz : z < 2 ^ t) : z ||| (y * 2 ^ t) = z + y * 2 ^ t := by
  rw [Nat.or_comm, nat_join t (y * 2 ^ t) z (Nat.mul_mod_left _ _) hz, Nat.add_comm]
end Go.Proofs.YtpnocklldlacjaaDoor

namespace Go.Proofs.YtpnocklldlacjaaDoor
open Go.RowKit

/-- The reader's fault. -/
def flt (a : Addr) (bad : Bool) : Value := if bad = true then .iface 136 (.pointer (some a)) else .nilIface
/-- The sentinel. -/
def ErC (w : World) (a : Addr) : Prop := w.cell? ⟨0, 0, none⟩ = some (.iface 136 (.pointer (some a)))
theorem ErC.below {w w' : World} {a : Addr} (h : ErC w a) (hb : Below w.heap.size w w') : ErC w' a := cell_kept h hb
theorem ErC.wrs {w w' : World} {a : Addr} {bl : List Nat} (h : ErC w a) (hw : Wrs bl w w') (hb : 0 ∉ bl) : ErC w' a :=
  (World.cell?_of_block (w := w) (a := ⟨0, 0, none⟩) (hw.blk _ (World.block_lt_of_cell? _ _ h) hb)).trans h
/-- The reader stands at st of s. -/
def RiS (w : World) (g b o c : Nat) (a : Addr) (s : ByteArray) (st : Nat × Bool) : Prop :=
  st.1 ≤ s.size ∧ ∃ a', Blk w g 77 #[.slice a' (s.size - st.1) (c - st.1), flt a st.2] ∧ (st.1 < s.size → a' = some ⟨b, o + st.1, none⟩)
theorem RiS.below {w w' : World} {g b o c : Nat} {a : Addr} {s : ByteArray} {st : Nat × Bool} (h : RiS w g b o c a s st) (hb : Below w.heap.size w w') : RiS w' g b o c a s st := by
  obtain ⟨h1, a', h2, h3⟩ := h
  exact ⟨h1, a', h2.below hb, h3⟩

set_option maxHeartbeats 1000000 in
set_option maxRecDepth 1000000 in
theorem want_any (g : Nat) (a : Addr) (v : Value) (bad ok : Bool) (w : World) (h : Blk w g 77 #[v, flt a bad]) (hE : ErC w a) :
    Calls Tryd.prog 67 #[.pointer (some ⟨g, 0, none⟩), .bool ok] w fun e w' => e = .returned (.tuple #[]) ∧ Blk w' g 77 #[v, flt a (bad || !ok)] ∧ Wrs [g] w w' := by
  have HB := hide h
  cases ok with
  | true =>
    have HR : Hid (Blk w g 77 #[v, flt a (bad || !true)]) := by show Blk _ _ _ _; simpa using h
    clear h
    go_enter Tryd.func67, Tryd.ntmps67
    go_wp2
    go_end0
    exact ⟨rfl, HR.out, Wrs.refl _ _⟩
  | false =>
    have y1 := h.cell 1
    have f1 := h.frozen 1
    simp only [List.getElem?_toArray, List.getElem?_cons_succ, List.getElem?_cons_zero] at y1
    unfold ErC at hE
    clear h
    go_enter Tryd.func67, Tryd.ntmps67
    go_wp2
    all_goals
      first
      | go_end0
      | (go_region; go_wp2; go_end0)
    refine ⟨rfl, ?_, ?_⟩
    · have h1 := HB.out.set 1 (.iface 136 (.pointer (some a)))
      rw [show flt a (bad || !false) = .iface 136 (.pointer (some a)) by unfold flt; simp]
      exact h1
    · exact (Wrs.refl _ _).set (List.mem_singleton.2 rfl) _
/-- A text in a block, with room; it may be none. -/
structure Ty (w : World) (b o c : Nat) (s : ByteArray) : Prop where
  len : s.size ≤ 1048576
  cap : s.size ≤ c
  cell : ∀ j, j < s.size → w.cell? ⟨b, o + j, none⟩ = some (bts s j)
theorem Ty.wrs {w w' : World} {b o c : Nat} {s : ByteArray} {bl : List Nat} (h : Ty w b o c s) (hw : Wrs bl w w') (hb : 0 < s.size → b ∉ bl) : Ty w' b o c s :=
  ⟨h.len, h.cap, fun j hj => (World.cell?_of_block (w := w) (a := ⟨b, o + j, none⟩) (hw.blk b (World.block_lt_of_cell? _ _ (h.cell j hj)) (hb (by omega)))).trans (h.cell j hj)⟩
theorem Ty.below {w w' : World} {b o c : Nat} {s : ByteArray} (h : Ty w b o c s) (hb : Below w.heap.size w w') : Ty w' b o c s :=
  ⟨h.len, h.cap, fun j hj => cell_kept (h.cell j hj) hb⟩

set_option maxHeartbeats 4000000 in
set_option maxRecDepth 1000000 in
theorem take_any {w : World} {g b o c : Nat} {a : Addr} {s : ByteArray} {st : Nat × Bool} {n : Nat} (hn : n ≤ 100000000) (hgb : 0 < s.size → g ≠ b) (_ : g ≠ 0) (ht : Ty w b o c s) (hE : ErC w a) (h : RiS w g b o c a s st) :
    Calls Tryd.prog 68 #[.pointer (some ⟨g, 0, none⟩), .int .i64 n] w fun e w' => ∃ v, e = .returned v ∧ BS w' v (rb (fb s) s.size st n).1 ∧ Cp v ∧ RiS w' g b o c a s (rb (fb s) s.size st n).2 ∧ Wrs [g] w w' := by
  obtain ⟨p, bad⟩ := st
  obtain ⟨h1, a', h2, h3⟩ := h
  simp only at h1 h2 h3
  have hl := ht.len
  have hcp := ht.cap
  have HT := hide ht
  obtain ⟨L, hL⟩ : ∃ L, s.size - p = L := ⟨_, rfl⟩
  obtain ⟨C, hC⟩ : ∃ L, c - p = L := ⟨_, rfl⟩
  rw [hL, hC] at h2
  have HWA := hide (fun ok => want_any g a (.slice a' L C) bad ok w h2 hE)
  have y0 := h2.cell 0
  have y1 := h2.cell 1
  simp only [List.getElem?_toArray, List.getElem?_cons_succ, List.getElem?_cons_zero] at y0 y1
  clear h2 ht hE
  by_cases hx : bad = true ∨ s.size < p + n
  · have e : rb (fb s) s.size (p, bad) n = (ByteArray.empty, (p, true)) := if_pos hx
    rw [e]
    have HBO : Hid ((bad || !(decide (n ≤ L))) = true) := by
      rcases hx with hx | hx
      · show _ = _; rw [hx]; rfl
      · show _ = _
        rw [decide_eq_false (by omega)]
        simp
    have HFT : Hid (flt a true = .iface 136 (.pointer (some a))) := rfl
    have HLC : Hid (s.size - p = L ∧ c - p = C) := ⟨hL, hC⟩
    have H3 := hide h3
    clear hx e h3 hL hC
    go_enter Tryd.func68, Tryd.ntmps68
    go_wp2_with fail
    refine (HWA.out _).mono ?_
    rintro e w1 ⟨rfl, hb1, hw1⟩
    rw [HBO.out] at hb1
    have HB1 := hide hb1
    have HW1 := hide hw1
    rw [HFT.out] at hb1
    have x0 := hb1.cell 0
    have x1 := hb1.cell 1
    simp only [List.getElem?_toArray, List.getElem?_cons_succ, List.getElem?_cons_zero] at x0 x1
    clear hb1 hw1 y0 y1
    go_wp2
    go_ret
    exact ⟨_, rfl, bs_nil _ 0, Nat.le_refl _, ⟨h1, a', by rw [HLC.out.1, HLC.out.2]; exact HB1.out, H3.out⟩, HW1.out⟩
  · have e : rb (fb s) s.size (p, bad) n = (byt ((List.range n).map fun j => fb s (p + j)), (p + n, false)) := if_neg hx
    rw [e]
    obtain ⟨hx1, hx2⟩ := not_or.1 hx
    obtain rfl : bad = false := by simpa using hx1
    have HFT : Hid (flt a false = .nilIface) := rfl
    have HLC : Hid (s.size - p = L ∧ c - p = C) := ⟨hL, hC⟩
    have H3 := hide h3
    have hnL : (n : Int) ≤ (L : Int) := by omega
    have hnC : (n : Int) ≤ (C : Int) := by omega
    have hLC : L ≤ C := by omega
    clear hx hx1 e h3 hL hC
    go_enter Tryd.func68, Tryd.ntmps68
    go_wp2_with fail
    refine (HWA.out _).mono ?_
    rintro e w1 ⟨rfl, hb1, hw1⟩
    have hb1 : Blk w1 g 77 #[.slice a' L C, flt a false] := hb1
    have HB1 := hide hb1
    have HW1 := hide hw1
    rw [HFT.out] at hb1
    have x0 := hb1.cell 0
    have x1 := hb1.cell 1
    have k0 := hb1.frozen 0
    simp only [List.getElem?_toArray, List.getElem?_cons_succ, List.getElem?_cons_zero] at x0 x1
    clear hb1 hw1 y0 y1
    have hlo : Lo ((List.range n).map fun j => fb s (p + j)) := fun x hx => by
      obtain ⟨j, _, rfl⟩ := List.mem_map.1 hx
      exact fb_lt s _
    have hlen : ((List.range n).map fun j => fb s (p + j)).length = n := by simp
    have HLO := hide hlo
    have HLEN := hide hlen
    clear hlo hlen
    have HFIN : Hid (∀ (w2 : World) (a2 : Option Addr) (C2 : Nat), w2 = w1.setCell ⟨g, 0, none⟩ (.slice a2 (L - n) C2) → C2 = C - n → (p + n < s.size → a2 = some ⟨b, o + (p + n), none⟩) → BS w2 (.slice a' n C) (byt ((List.range n).map fun j => fb s (p + j))) ∧ RiS w2 g b o c a s (p + n, false) ∧ Wrs [g] w w2) := fun w2 a2 C2 hw2 hC2 ha2 => by
      have hwr : Wrs [g] w w2 := by rw [hw2]; exact HW1.out.set (List.mem_singleton.2 rfl) _
      have hty := HT.out.wrs hwr (fun h0 hm => hgb h0 (List.mem_singleton.1 hm).symm)
      refine ⟨⟨a', b, o + p, C, by rw [byt_size, HLEN.out], fun hz => H3.out (by rw [byt_size, HLEN.out] at hz; omega), fun j hj => ?_⟩, ⟨by show p + n ≤ s.size; omega, a2, ?_, ha2⟩, hwr⟩
      · rw [byt_size, HLEN.out] at hj
        rw [byt_bts HLO.out (by rw [HLEN.out]; exact hj), Nat.add_assoc, hty.cell (p + j) (by omega), List.getD_eq_getElem?_getD, List.getElem?_map, List.getElem?_range hj]
        rfl
      · rw [hw2]
        have h5 := HB1.out.set 0 (.slice a2 (L - n) C2)
        have h6 := HLC.out
        show Blk _ _ _ #[.slice a2 (s.size - (p + n)) (c - (p + n)), flt a false]
        rw [show s.size - (p + n) = L - n by omega, show c - (p + n) = C2 by omega]
        exact h5
    go_wp2_with fail
    · have hCn : C = n := by omega
      have HCn := hide hCn
      clear hCn
      go_ret
      have h := HFIN.out _ a' 0 rfl (by have := HCn.out; omega) (fun hq => by have := HLC.out; have := HCn.out; omega)
      rw [HCn.out] at h
      exact ⟨_, rfl, h.1, Nat.le_refl _, h.2⟩
    · go_ret
      have h := HFIN.out _ (a'.map fun x => x.add n) (C - n) rfl rfl (fun hq => by
        have e : (⟨b, o + p, none⟩ : Addr).add n = ⟨b, o + p + n, none⟩ := by unfold Addr.add; split <;> simp_all
        rw [H3.out (by omega)]
        show some ((⟨b, o + p, none⟩ : Addr).add n) = _
        rw [e, Nat.add_assoc])
      exact ⟨_, rfl, h.1, by show n ≤ C; omega, h.2⟩
end Go.Proofs.YtpnocklldlacjaaDoor
