/-
  The walk of spec.CheckText.
-/
import Derived.Test.YteicpjbeihabnaaDoorJNextC
namespace Go.Proofs.YteicpjbeihabnaaDoor
open Go.RowKit

def pairVal (q : Nat × Nat) : Value := .tuple #[.int .i64 (q.1 : Int), .int .i64 (q.2 : Int)]
theorem pairVal_of {q : Nat × Nat} {a c : Nat} (h : q = (a, c)) : pairVal q = .tuple #[.int .i64 (a : Int), .int .i64 (c : Int)] := by rw [h]; rfl

set_option maxHeartbeats 400000 in
set_option maxRecDepth 1000000 in
theorem specCheck_any (b off cap : Nat) (s : ByteArray) (w : World) (hs : s.size ≤ 1048576) (hc : ∀ j, j < s.size → w.cell? ⟨b, off + j, none⟩ = some (bts s j)) :
    Calls Tryd.prog 88 #[.slice (some ⟨b, off, none⟩) s.size cap] w fun e w' => e = .returned (pairVal (chk s)) ∧ Below w.heap.size w w' := by
  go_enter Tryd.func88, Tryd.ntmps88
  go_wp2
  go_loopw [4] (fun i wr => ∃ p f : Nat, i = .int .i64 p ∧ p ≤ s.size + 4 ∧ s.size < p + f ∧ chkAt s f p = chk s ∧ Below w.heap.size w wr) (fun i _ => s.size - (intOf i).toNat)
  case atStart => exact ⟨0, s.size + 1, rfl, by omega, by omega, rfl, Below.refl _ _⟩
  case round =>
    obtain ⟨p, f, rfl, hp, hf, hk, hbl⟩ := hrel
    have HK : Hid (chkAt s f p = chk s) := hk
    clear hk
    by_cases hlt : p < s.size
    · have hb : b < w.heap.size := World.block_lt_of_cell? _ _ (hc p hlt)
      have hc' : ∀ j, j < s.size → wr.cell? ⟨b, off + j, none⟩ = some (bts s j) := fun j hj => by rw [hbl.cell (p := ⟨b, off + j, none⟩) hb]; exact hc j hj
      have H8 := char_any b off cap p s wr hs hlt hc'
      obtain ⟨N, V, hN⟩ : ∃ N V, chr s p = (N, V) := ⟨_, _, rfl⟩
      rw [chrVal_of hN] at H8
      have hn4 : N ≤ 4 := by have := chr_le s p; rw [hN] at this; exact this
      have H8' := hide H8
      have HN : Hid (chr s p = (N, V)) := hN
      clear H8 hN hc hc'
      by_cases hz : N = 0
      · have hzb : ((N : Int) == 0) = true := by rw [beq_iff_eq]; omega
        have HZ : Hid (chk s = (2, p)) := by rw [← HK.out]; exact chkAt_bad hlt hf (by rw [HN.out]; exact hz)
        clear hz
        go_wp2_with (go_at_call 91; refine H8'.out.mono ?_; rintro e w1 ⟨rfl, hb1⟩)
        go_ret2
        exact ⟨by rw [pairVal_of HZ.out]; rfl, hbl.trans (hb1.mono hbl.size)⟩
      · have hzb : ((N : Int) == 0) = false := by rw [beq_eq_false_iff_ne]; omega
        obtain ⟨g, hg, hgk⟩ := chkAt_good hlt hf (by rw [HN.out]; exact hz)
        have HG : Hid (chkAt s g (p + N) = chk s) := by show _ = _; rw [← HK.out, hgk, HN.out]
        have hg1 : f ≤ g + 1 := by omega
        have hz1 : 1 ≤ N := by omega
        clear hz hg hgk
        go_wp2_with (go_at_call 91; refine H8'.out.mono ?_; rintro e w1 ⟨rfl, hb1⟩)
        go_roundw
        case rel => exact ⟨p + N, g, by go_num, by omega, by omega, HG.out, hbl.trans (hb1.mono hbl.size)⟩
        case measure => simp [intOf]; omega
    · have HZ : Hid (chk s = (0, 0)) := by rw [← HK.out]; exact chkAt_end hlt
      go_wp2
      go_ret2
      exact ⟨by rw [pairVal_of HZ.out]; rfl, hbl⟩
end Go.Proofs.YteicpjbeihabnaaDoor
