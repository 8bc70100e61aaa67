/-
  The walks of bytes.LastIndexByte and of impl.column.
-/
import Derived.Test.YteojiblglbmmdaaGreatDoorJFTextsB0
import Derived.Test.YteojiblglbmmdaaGreatDoorJFTextsX
import Derived.Lib.OthersKept
import Derived.Test.YteojiblglbmmdaaGreatDoorJFTextsM
namespace Go.Proofs.YteojiblglbmmdaaGreatDoor
open Go.RowKit

set_option maxHeartbeats 400000 in
set_option maxRecDepth 1000000 in
/-- The last LF before p stands just before st, where none stands from st on. -/
theorem lastB_any (b off cap p st : Nat) (s : ByteArray) (w : World) (hs : s.size ≤ 1048576) (hp : p ≤ s.size) (hst : st ≤ p) (hlf : st = 0 ∨ (0 < st ∧ (s.get! (st - 1)).toNat = 10)) (hno : ∀ j, st ≤ j → j < p → (s.get! j).toNat ≠ 10)
    (hc : ∀ j, j < s.size → w.cell? ⟨b, off + j, none⟩ = some (bts s j)) :
    Calls Tryz.prog 40 #[.slice (some ⟨b, off, none⟩) p cap, .int .u8 10] w fun e w' => e = .returned (.int .i64 ((st : Int) - 1)) ∧ w' = w := by
  have HC := hide hc
  have HL := hide hlf
  have HN := hide hno
  clear hc hlf hno
  go_enter Tryz.func40, Tryz.ntmps40
  go_wp2
  go_loop [5] (fun i => ∃ k : Nat, k ≤ p ∧ st ≤ k ∧ i = .int .i64 ((k : Int) - 1)) (fun i => (intOf i + 1).toNat)
  case atStart => exact ⟨p, Nat.le_refl _, hst, rfl⟩
  case round =>
    obtain ⟨k, hk, hsk, rfl⟩ := hrel
    by_cases h0 : k = 0
    · have e : st = 0 := by omega
      subst h0
      subst e
      go_wp2
      go_ret
      exact ⟨rfl, rfl⟩
    · obtain ⟨m, rfl⟩ : ∃ m, k = m + 1 := ⟨k - 1, by omega⟩
      have hcm := HC.out m (by omega)
      have hcb : bts s m = .int .u8 ((s.get! m).toNat : Int) := rfl
      rw [hcb] at hcm
      have em : ((m + 1 : Nat) : Int) - 1 = (m : Int) := by omega
      rw [em]
      have hby : ((s.get! m).toNat : Int) < 256 := by have := (s.get! m).toNat_lt; omega
      obtain ⟨y, hy⟩ : ∃ y : Nat, (s.get! m).toNat = y := ⟨_, rfl⟩
      rw [hy] at hcm hby
      have HY := hide hy
      clear hcb hy em h0
      by_cases hst' : st = m + 1
      · have hyb : ((y : Int) == 10) = true := by
          rw [beq_iff_eq]
          have h1 : (s.get! (st - 1)).toNat = 10 := by rcases HL.out with e | ⟨_, e⟩ <;> omega
          rw [hst', Nat.add_sub_cancel, HY.out] at h1
          omega
        have HS := hide hst'
        clear hst'
        go_wp2
        go_ret
        exact ⟨ret_int (by have := HS.out; omega), rfl⟩
      · have hyb : ((y : Int) == 10) = false := by
          rw [beq_eq_false_iff_ne]
          have h1 := HN.out m (by omega) (by omega)
          rw [HY.out] at h1
          omega
        go_wp2
        go_round
        case rel => exact ⟨m, by omega, by omega, rfl⟩
        case measure => simp [intOf]

set_option maxHeartbeats 400000 in
set_option maxRecDepth 1000000 in
theorem col_any (t u : ByteArray) (p c : Nat) (w : World) (hu : u = t ++ { data := #[10] }) (hts : t.size ≤ 1048576) (hp : p < u.size) (hc1 : c ≤ 1048577) (hlo : ∀ k, k < c → stp u 0 k ≤ p) (hhi : p < stp u 0 c) :
    Calls Tryz.prog 21 #[.string t, .int .i64 p] w fun e w' => e = .returned (.int .i64 c) ∧ Below w.heap.size w w' := by
  have HLO := hide hlo
  have HHI := hide hhi
  clear hlo hhi
  go_enter Tryz.func21, Tryz.ntmps21
  go_wp2
  rw [← hu]
  clear hu
  go_loopw [5] (fun n wr => ∃ k : Nat, n = .int .i64 k ∧ k ≤ c ∧ wr.heap[w.heap.size]? = some (.stringIter u (stp u 0 k)) ∧ Below w.heap.size w wr) (fun n _ => c - (intOf n).toNat)
  case atStart => exact ⟨0, rfl, Nat.zero_le _, World.iter_heap w u 0, (Below.refl _ _).alloc (Nat.le_refl _) _⟩
  case round =>
    obtain ⟨k, rfl, hk, hit, hbl⟩ := hrel
    by_cases hlt : k < c
    · have hle := HLO.out k hlt
      have hpu : stp u 0 k < u.size := by omega
      have hnx : ∀ ty, (Instr.next (.pointer (some ⟨w.heap.size, 0, none⟩)) true ty).run Tryz.prog wr = _ := fun ty => Lib.run_next_any_at wr w.heap.size u (stp u 0 k) ty hit hpu
      have hit2 := Lib.iterAt_heap wr w.heap.size u (stp u 0 k) (stp u 0 k + (Utf8.decode u (stp u 0 k)).2) hit
      have hb2 := below_iterAt hbl (Nat.le_refl _) u (stp u 0 k + (Utf8.decode u (stp u 0 k)).2)
      have HIT : Hid ((wr.iterAt w.heap.size u (stp u 0 k + (Utf8.decode u (stp u 0 k)).2)).heap[w.heap.size]? = some (.stringIter u (stp u 0 (k + 1)))) := hit2
      have HB2 := hide hb2
      generalize wr.iterAt w.heap.size u (stp u 0 k + (Utf8.decode u (stp u 0 k)).2) = wn at *
      generalize (Utf8.decode u (stp u 0 k)).1 = r at *
      have hle' : ¬ ((p : Int) < (stp u 0 k : Int)) := by omega
      generalize stp u 0 k = q at *
      clear hit hit2 hb2
      go_wp2
      go_roundw
      case rel => exact ⟨k + 1, by go_num, by omega, HIT.out, HB2.out⟩
      case measure => simp [intOf]; omega
    · have hkc : k = c := by omega
      subst hkc
      by_cases hpu : stp u 0 k < u.size
      · have hnx : ∀ ty, (Instr.next (.pointer (some ⟨w.heap.size, 0, none⟩)) true ty).run Tryz.prog wr = _ := fun ty => Lib.run_next_any_at wr w.heap.size u (stp u 0 k) ty hit hpu
        have hb2 := below_iterAt hbl (Nat.le_refl _) u (stp u 0 k + (Utf8.decode u (stp u 0 k)).2)
        have HB2 := hide hb2
        have hgt : (p : Int) < (stp u 0 k : Int) := by have := HHI.out; omega
        generalize wr.iterAt w.heap.size u (stp u 0 k + (Utf8.decode u (stp u 0 k)).2) = wn at *
        generalize (Utf8.decode u (stp u 0 k)).1 = r at *
        generalize stp u 0 k = q at *
        clear hit hb2
        go_wp2
        go_ret
        exact ⟨rfl, HB2.out⟩
      · have hnx : ∀ ty, (Instr.next (.pointer (some ⟨w.heap.size, 0, none⟩)) true ty).run Tryz.prog wr = _ := fun ty => Lib.run_next_end_at wr w.heap.size u (stp u 0 k) ty hit hpu
        clear hit
        go_wp2
        go_ret
        exact ⟨rfl, hbl⟩
end Go.Proofs.YteojiblglbmmdaaGreatDoor
