/-
  The walk of spec.CheckText.
  The walk of spec.l1good.
  The walk of spec.l1good at any slice.
-/
import Derived.Test.YteicpjbeihabnaaDoorJFindTargetC
import Derived.Test.YteicpjbeihabnaaDoorJFindTargetIN0
namespace Go.Proofs.YteicpjbeihabnaaDoor
open Go.RowKit

def pairVal (q : Nat × Nat) : Value := .tuple #[.int .i64 (q.1 : Int), .int .i64 (q.2 : Int)]
theorem pairVal_of {q : Nat × Nat} {a c : Nat} (h : q = (a, c)) : pairVal q = .tuple #[.int .i64 (a : Int), .int .i64 (c : Int)] := by rw [h]; rfl

set_option maxHeartbeats 400000 in
set_option maxRecDepth 1000000 in
theorem specCheck_any (b off cap : Nat) (s : ByteArray) (w : World) (hs : s.size ≤ 1048576) (hc : ∀ j, j < s.size → w.cell? ⟨b, off + j, none⟩ = some (bts s j)) :
    Calls Tryd.prog 88 #[.slice (some ⟨b, off, none⟩) s.size cap] w fun e w' => e = .returned (pairVal (chk s)) ∧ Below w.heap.size w w' := by
  go_enter Tryd.func88, Tryd.ntmps88
  go_wp2
  go_loopw [4] (fun i wr => ∃ p f : Nat, i = .int .i64 p ∧ p ≤ s.size + 4 ∧ s.size < p + f ∧ chkAt s f p = chk s ∧ Below w.heap.size w wr) (fun i _ => s.size - (intOf i).toNat)
  case atStart => exact ⟨0, s.size + 1, rfl, by omega, by omega, rfl, Below.refl _ _⟩
  case round =>
    obtain ⟨p, f, rfl, hp, hf, hk, hbl⟩ := hrel
    have HK : Hid (chkAt s f p = chk s) := hk
    clear hk
    by_cases hlt : p < s.size
    · have hb : b < w.heap.size := World.block_lt_of_cell? _ _ (hc p hlt)
      have hc' : ∀ j, j < s.size → wr.cell? ⟨b, off + j, none⟩ = some (bts s j) := fun j hj => by rw [hbl.cell (p := ⟨b, off + j, none⟩) hb]; exact hc j hj
      have H8 := char_any b off cap p s wr hs hlt hc'
      obtain ⟨N, V, hN⟩ : ∃ N V, chr s p = (N, V) := ⟨_, _, rfl⟩
      rw [chrVal_of hN] at H8
      have hn4 : N ≤ 4 := by have := chr_le s p; rw [hN] at this; exact this
      have H8' := hide H8
      have HN : Hid (chr s p = (N, V)) := hN
      clear H8 hN hc hc'
      by_cases hz : N = 0
      · have hzb : ((N : Int) == 0) = true := by rw [beq_iff_eq]; omega
        have HZ : Hid (chk s = (2, p)) := by rw [← HK.out]; exact chkAt_bad hlt hf (by rw [HN.out]; exact hz)
        clear hz
        go_wp2_with (go_at_call 91; refine H8'.out.mono ?_; rintro e w1 ⟨rfl, hb1⟩)
        go_ret2
        exact ⟨by rw [pairVal_of HZ.out]; rfl, hbl.trans (hb1.mono hbl.size)⟩
      · have hzb : ((N : Int) == 0) = false := by rw [beq_eq_false_iff_ne]; omega
        obtain ⟨g, hg, hgk⟩ := chkAt_good hlt hf (by rw [HN.out]; exact hz)
        have HG : Hid (chkAt s g (p + N) = chk s) := by show _ = _; rw [← HK.out, hgk, HN.out]
        have hg1 : f ≤ g + 1 := by omega
        have hz1 : 1 ≤ N := by omega
        clear hz hg hgk
        go_wp2_with (go_at_call 91; refine H8'.out.mono ?_; rintro e w1 ⟨rfl, hb1⟩)
        go_roundw
        case rel => exact ⟨p + N, g, by go_num, by omega, by omega, HG.out, hbl.trans (hb1.mono hbl.size)⟩
        case measure => simp [intOf]; omega
    · have HZ : Hid (chk s = (0, 0)) := by rw [← HK.out]; exact chkAt_end hlt
      go_wp2
      go_ret2
      exact ⟨by rw [pairVal_of HZ.out]; rfl, hbl⟩
end Go.Proofs.YteicpjbeihabnaaDoor

namespace Go.Proofs.YteicpjbeihabnaaDoor
open Go.RowKit

set_option maxHeartbeats 400000 in
theorem good_any (b off cap : Nat) (s : ByteArray) (w : World) (hs : s.size ≤ 1048576) (hc : ∀ j, j < s.size → w.cell? ⟨b, off + j, none⟩ = some (bts s j)) :
    Calls Tryd.prog 82 #[.slice (some ⟨b, off, none⟩) s.size cap] w fun e w' => e = .returned (.bool (((chk s).1 : Int) == 0)) ∧ Below w.heap.size w w' := by
  have H0 := specCheck_any b off cap s w hs hc
  obtain ⟨A, D, hAD⟩ : ∃ A D, chk s = (A, D) := ⟨_, _, rfl⟩
  rw [pairVal_of hAD] at H0
  rw [hAD]
  have H := hide H0
  clear hc H0 hAD
  go_enter Tryd.func82, Tryd.ntmps82
  go_wp2_with (go_at_call 88; refine H.out.mono ?_; rintro e w1 ⟨rfl, hb1⟩)
  go_ret
  exact ⟨rfl, hb1⟩
end Go.Proofs.YteicpjbeihabnaaDoor

namespace Go.Proofs.YteicpjbeihabnaaDoor
open Go.RowKit

set_option maxHeartbeats 400000 in
theorem specCheck_none (a : Option Addr) (c : Nat) (w : World) :
    Calls Tryd.prog 88 #[.slice a 0 c] w fun e w' => e = .returned (.tuple #[.int .i64 0, .int .i64 0]) ∧ Below w.heap.size w w' := by
  go_enter Tryd.func88, Tryd.ntmps88
  go_wp2
  go_loopw [4] (fun i wr => i = .int .i64 0 ∧ wr = w) (fun _ _ => 0)
  case atStart => exact ⟨rfl, rfl⟩
  case round =>
    obtain ⟨rfl, rfl⟩ := hrel
    go_wp2
    go_ret2
    exact ⟨rfl, Below.refl _ _⟩

set_option maxHeartbeats 400000 in
theorem good_bs {w : World} {v : Value} {s : ByteArray} (hs : s.size ≤ 1048576) (h : BS w v s) :
    Calls Tryd.prog 82 #[v] w fun e w' => e = .returned (.bool (((chk s).1 : Int) == 0)) ∧ Below w.heap.size w w' := by
  obtain ⟨a, b, o, c, rfl, ha, hc⟩ := h
  by_cases h0 : 0 < s.size
  · obtain rfl := ha h0
    exact good_any b o c s w hs hc
  · have e : s = ByteArray.empty := ext_bytes (show s.size = 0 by omega) (fun j hj => by omega)
    subst e
    have H := hide (specCheck_none a c w)
    have e2 : (((chk ByteArray.empty).1 : Int) == 0) = true := by decide
    rw [e2]
    have e3 : ByteArray.empty.size = 0 := rfl
    rw [e3]
    clear ha hc h0 e2 e3 hs
    go_enter Tryd.func82, Tryd.ntmps82
    go_wp2_with (go_at_call 88; refine H.out.mono ?_; rintro e w1 ⟨rfl, hb1⟩)
    go_ret
    exact ⟨rfl, hb1⟩
end Go.Proofs.YteicpjbeihabnaaDoor
