/-
  The walk of spec.Position.
-/
import Derived.Test.YtonhehndoifipaaJPositionC
import Derived.Test.YtonhehndoifipaaJPositionX
namespace Go.Proofs.Ytonhehndoifipaa
open Go.RowKit

set_option maxHeartbeats 400000 in
set_option maxRecDepth 1000000 in
theorem specPos_out (a0 : Option Addr) (len cap : Nat) (p : Int) (w : World) (h : p < 0 ∨ (len : Int) < p) :
    Calls Try.prog 9 #[.slice a0 len cap, .int .i64 p] w fun e w' => e = .returned (.tuple #[.int .i64 0, .int .i64 0]) ∧ w' = w := by
  by_cases h0 : p < 0
  · clear h
    go_enter Try.func9, Try.ntmps9
    go_wp2
    go_ret2
    exact ⟨rfl, rfl⟩
  · have h1 : (len : Int) < p := by omega
    clear h
    go_enter Try.func9, Try.ntmps9
    go_wp2
    go_ret2
    exact ⟨rfl, rfl⟩

set_option maxHeartbeats 400000 in
set_option maxRecDepth 1000000 in
theorem specPos_in (b off cap p : Nat) (s : ByteArray) (w : World) (hs : s.size ≤ 1048576) (hp : p ≤ s.size) (hc : ∀ j, j < s.size → w.cell? ⟨b, off + j, none⟩ = some (bts s j)) :
    Calls Try.prog 9 #[.slice (some ⟨b, off, none⟩) s.size cap, .int .i64 p] w fun e w' => (∃ st c, Pos s p st c ∧ e = .returned (.tuple #[.int .i64 (1 + cntLF s p : Nat), .int .i64 (c : Nat)])) ∧ Below w.heap.size w w' := by
  have HC := hide hc
  clear hc
  have t1 : decide ((p : Int) < 0) = false := decide_eq_false (by omega)
  have t2 : decide (s.size < p) = false := decide_eq_false (by omega)
  go_enter Try.func9, Try.ntmps9
  go_wp2
  go_loopw [6, 7, 8] (fun ln cl i wr => ∃ k st c : Nat, i = .int .i64 k ∧ k ≤ p ∧ ln = .int .i64 (1 + cntLF s k : Nat) ∧ cl = .int .i64 c ∧ c ≤ k + 1 ∧ Mid s k st c ∧ Below w.heap.size w wr) (fun _ _ i _ => p - (intOf i).toNat)
  case atStart => exact ⟨0, 0, 1, rfl, Nat.zero_le _, rfl, rfl, by omega, Mid.start s, Below.refl _ _⟩
  case round =>
    obtain ⟨k, st, c, rfl, hk, rfl, rfl, hck, hm, hbl⟩ := hrel
    have HM := hide hm
    clear hm
    have hn := cntLF_le s k
    obtain ⟨n, hnk⟩ : ∃ n, cntLF s k = n := ⟨_, rfl⟩
    have HN := hide hnk
    rw [hnk] at hn ⊢
    clear hnk
    by_cases hlt : k < p
    · have hks : k < s.size := by omega
      have hb : b < w.heap.size := World.block_lt_of_cell? _ _ (HC.out k hks)
      have hc' : ∀ j, j < s.size → wr.cell? ⟨b, off + j, none⟩ = some (bts s j) := fun j hj => by rw [hbl.cell (p := ⟨b, off + j, none⟩) hb]; exact HC.out j hj
      have H8 := char_any b off cap k s wr hs hks hc'
      obtain ⟨N, V, hN⟩ : ∃ N V, chr s k = (N, V) := ⟨_, _, rfl⟩
      rw [chrVal_of hN] at H8
      have hwd := wd_chr s k
      rw [hN] at hwd
      simp only at hwd
      have hw1 := wd_pos s k
      have hw4 := wd_le s k
      have H8' := hide H8
      obtain ⟨d, hd⟩ : ∃ d, wd s k = d := ⟨_, rfl⟩
      rw [hd] at hwd hw1 hw4
      have HD := hide hd
      have hcb : bts s k = .int .u8 ((s.get! k).toNat : Int) := rfl
      have HCB : Hid (∀ w1, Below wr.heap.size wr w1 → w1.cell? ⟨b, off + k, none⟩ = some (.int .u8 ((s.get! k).toNat : Int))) := fun w1 hb1 => by
        rw [hb1.cell (p := ⟨b, off + k, none⟩) (Nat.lt_of_lt_of_le hb hbl.size)]; exact hc' k hks
      have hby : ((s.get! k).toNat : Int) < 256 := by have := (s.get! k).toNat_lt; omega
      obtain ⟨y, hy⟩ : ∃ y : Nat, (s.get! k).toNat = y := ⟨_, rfl⟩
      rw [hy] at HCB hby
      have HY := hide hy
      clear H8 hN hc' hd hcb hy
      have HWD := hide hwd
      clear hwd
      by_cases hz : N = 0
      · have hzb : ((N : Int) == 0) = true := by rw [beq_iff_eq]; omega
        have hd1 : d = 1 := by rw [HWD.out, if_pos hz]
        clear hz
        subst hd1
        by_cases hgt : p < k + 1
        · exact absurd hgt (by omega)
        · by_cases hy10 : y = 10
          · have hyb : ((y : Int) == 10) = true := by rw [beq_iff_eq]; omega
            have HG : Hid (Mid s (k + 1) (k + 1) 1 ∧ cntLF s (k + 1) = n + 1) := by
              have h0 : (s.get! k).toNat = 10 := by rw [HY.out]; exact hy10
              have a := Mid.line h0
              have c := cntLF_line s k h0
              rw [HD.out] at a c
              rw [HN.out] at c
              exact ⟨a, c⟩
            clear hy10
            go_wp2_with (go_at_call 34; refine H8'.out.mono ?_; rintro e w1 ⟨rfl, hb1⟩; have hcell := HCB.out w1 hb1)
            go_roundw
            case rel => exact ⟨k + 1, k + 1, 1, by go_num, by omega, by rw [HG.out.2]; go_num, rfl, by omega, HG.out.1, hbl.trans (hb1.mono hbl.size)⟩
            case measure => simp [intOf]; omega
          · have hyb : ((y : Int) == 10) = false := by rw [beq_eq_false_iff_ne]; omega
            have HG : Hid (Mid s (k + 1) st (c + 1) ∧ cntLF s (k + 1) = n) := by
              have h0 : (s.get! k).toNat ≠ 10 := by rw [HY.out]; exact hy10
              have a := HM.out.step hks h0
              have c := cntLF_step s k hks h0
              rw [HD.out] at a c
              rw [HN.out] at c
              exact ⟨a, c⟩
            clear hy10
            go_wp2_with (go_at_call 34; refine H8'.out.mono ?_; rintro e w1 ⟨rfl, hb1⟩; have hcell := HCB.out w1 hb1)
            go_roundw
            case rel => exact ⟨k + 1, st, c + 1, by go_num, by omega, by rw [HG.out.2]; go_num, by go_num, by omega, HG.out.1, hbl.trans (hb1.mono hbl.size)⟩
            case measure => simp [intOf]; omega
      · have hzb : ((N : Int) == 0) = false := by rw [beq_eq_false_iff_ne]; omega
        have hd1 : d = N := by rw [HWD.out, if_neg hz]
        clear hz
        subst hd1
        by_cases hgt : p < k + d
        · have HE : Hid (Pos s p st c ∧ cntLF s p = n) := by
            have := HM.out.done hk (.inr ⟨hks, by rw [HD.out]; exact hgt⟩)
            rw [HN.out] at this; exact this
          clear HCB
          go_wp2_with (go_at_call 34; refine H8'.out.mono ?_; rintro e w1 ⟨rfl, hb1⟩)
          go_ret2
          exact ⟨⟨st, c, HE.out.1, by rw [HE.out.2]; first | rfl | (refine ret_ints ?_ ?_ <;> omega)⟩, hbl.trans (hb1.mono hbl.size)⟩
        · by_cases hy10 : y = 10
          · have hyb : ((y : Int) == 10) = true := by rw [beq_iff_eq]; omega
            have HG : Hid (Mid s (k + d) (k + d) 1 ∧ cntLF s (k + d) = n + 1) := by
              have h0 : (s.get! k).toNat = 10 := by rw [HY.out]; exact hy10
              have a := Mid.line h0
              have c := cntLF_line s k h0
              rw [HD.out] at a c
              rw [HN.out] at c
              exact ⟨a, c⟩
            clear hy10
            go_wp2_with (go_at_call 34; refine H8'.out.mono ?_; rintro e w1 ⟨rfl, hb1⟩; have hcell := HCB.out w1 hb1)
            go_roundw
            case rel => exact ⟨k + d, k + d, 1, by go_num, by omega, by rw [HG.out.2]; go_num, rfl, by omega, HG.out.1, hbl.trans (hb1.mono hbl.size)⟩
            case measure => simp [intOf]; omega
          · have hyb : ((y : Int) == 10) = false := by rw [beq_eq_false_iff_ne]; omega
            have HG : Hid (Mid s (k + d) st (c + 1) ∧ cntLF s (k + d) = n) := by
              have h0 : (s.get! k).toNat ≠ 10 := by rw [HY.out]; exact hy10
              have a := HM.out.step hks h0
              have c := cntLF_step s k hks h0
              rw [HD.out] at a c
              rw [HN.out] at c
              exact ⟨a, c⟩
            clear hy10
            go_wp2_with (go_at_call 34; refine H8'.out.mono ?_; rintro e w1 ⟨rfl, hb1⟩; have hcell := HCB.out w1 hb1)
            go_roundw
            case rel => exact ⟨k + d, st, c + 1, by go_num, by omega, by rw [HG.out.2]; go_num, by go_num, by omega, HG.out.1, hbl.trans (hb1.mono hbl.size)⟩
            case measure => simp [intOf]; omega
    · have HE : Hid (Pos s p st c ∧ cntLF s p = n) := by
        have := HM.out.done hk (.inl (by omega))
        rw [HN.out] at this; exact this
      go_wp2
      go_ret2
      exact ⟨⟨st, c, HE.out.1, by rw [HE.out.2]; first | rfl | (refine ret_ints ?_ ?_ <;> omega)⟩, hbl⟩
end Go.Proofs.Ytonhehndoifipaa
