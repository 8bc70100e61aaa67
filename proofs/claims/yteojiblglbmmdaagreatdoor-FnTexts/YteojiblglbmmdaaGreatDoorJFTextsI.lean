/-
  The walk of impl.Position.
-/
import Derived.Test.YteojiblglbmmdaaGreatDoorJFTextsL
import Derived.Test.YteojiblglbmmdaaGreatDoorJFTextsShelf
namespace Go.Proofs.YteojiblglbmmdaaGreatDoor
open Go.RowKit

theorem bytesOf_nums (s : ByteArray) : Lib.bytesOf (nums s) = s.data.toList := by
  unfold Lib.bytesOf nums
  rw [List.map_map]
  refine (List.map_congr_left (g := id) (fun c _ => ?_)).trans (List.map_id _)
  show UInt8.ofNat ((c.toNat : Int).toNat) = c
  rw [Int.toNat_natCast]
  exact UInt8.ofNat_toNat

theorem count_take (s : ByteArray) : ∀ p, p ≤ s.size → (s.data.toList.take p).count 10 = cntLF s p
  | 0, _ => rfl
  | p + 1, h => by
    have hl : p < s.data.toList.length := by rw [Array.length_toList]; exact h
    rw [List.take_succ_eq_append_getElem hl, List.count_append, count_take s p (by omega), cntLF]
    have e : s.data.toList[p] = s.get! p := by
      rw [Utf8W.get!_of_lt s p (by omega)]; rfl
    rw [e]
    congr 1
    by_cases h10 : s.get! p = 10
    · rw [h10]; rfl
    · have h10' : ¬ (s.get! p).toNat = 10 := fun g => h10 (UInt8.toNat_inj.1 g)
      rw [if_neg h10', List.count_cons_of_ne (by simpa using h10)]; rfl

theorem count_eq (s : ByteArray) (p : Nat) (h : p ≤ s.size) : Lib.countByte (Lib.bytesOf ((nums s).take p)) ((10 : Int).toNat.toUInt8) = cntLF s p := by
  have e : Lib.bytesOf ((nums s).take p) = s.data.toList.take p := by
    rw [← bytesOf_nums s]; unfold Lib.bytesOf; rw [List.map_take]
  rw [e]
  exact count_take s p h

theorem Rest.mk' (s : ByteArray) (st : Nat) (h : st ≤ s.size) : Rest s (s.extract st s.size ++ { data := #[10] }) st := by
  have hz : (s.extract st s.size).size = s.size - st := by rw [ByteArray.size_extract]; omega
  have hu : (s.extract st s.size ++ { data := #[10] } : ByteArray).size = s.size - st + 1 := by rw [ByteArray.size_append, hz]; rfl
  refine ⟨h, hu, fun k hk => ?_, ?_⟩
  · rw [Utf8W.get!_of_lt _ k (by omega), ByteArray.getElem_append_left (by omega), ← get!_extract, Utf8W.get!_of_lt _ k (by omega)]
  · rw [Utf8W.get!_of_lt _ (s.size - st) (by omega), ByteArray.getElem_append_right (by omega)]
    simp only [hz, Nat.sub_self]
    rfl

set_option maxHeartbeats 400000 in
set_option maxRecDepth 1000000 in
theorem implPos_out (a0 : Option Addr) (len cap : Nat) (p : Int) (w : World) (h : p < 0 ∨ (len : Int) < p) :
    Calls Tryz.prog 12 #[.slice a0 len cap, .int .i64 p] w fun e w' => e = .returned (.tuple #[.int .i64 0, .int .i64 0]) ∧ w' = w := by
  by_cases h0 : p < 0
  · clear h
    go_enter Tryz.func12, Tryz.ntmps12
    go_wp2
    go_ret2
    exact ⟨rfl, rfl⟩
  · have h1 : (len : Int) < p := by omega
    clear h
    go_enter Tryz.func12, Tryz.ntmps12
    go_wp2
    go_ret2
    exact ⟨rfl, rfl⟩

set_option maxHeartbeats 400000 in
theorem lastBytes_any (b off cap p st : Nat) (s : ByteArray) (w : World) (hs : s.size ≤ 1048576) (hp : p ≤ s.size) (hst : st ≤ p) (hlf : st = 0 ∨ (0 < st ∧ (s.get! (st - 1)).toNat = 10)) (hno : ∀ j, st ≤ j → j < p → (s.get! j).toNat ≠ 10)
    (hc : ∀ j, j < s.size → w.cell? ⟨b, off + j, none⟩ = some (bts s j)) :
    Calls Tryz.prog 20 #[.slice (some ⟨b, off, none⟩) p cap, .int .u8 10] w fun e w' => e = .returned (.int .i64 ((st : Int) - 1)) ∧ w' = w := by
  have H := hide (lastB_any b off cap p st s w hs hp hst hlf hno hc)
  clear hlf hno hc
  go_enter Tryz.func20, Tryz.ntmps20
  go_wp2_with (go_at_call 40; refine H.out.mono ?_; rintro e w' ⟨rfl, rfl⟩)
  go_ret
  exact ⟨rfl, rfl⟩

theorem stp_ge (s : ByteArray) (st : Nat) : ∀ k, st + k ≤ stp s st k
  | 0 => Nat.le_refl _
  | k + 1 => by have := stp_ge s st k; have := stp_lt s st k; omega

theorem colPos (s : ByteArray) (st p c : Nat) (q : Int) (hs : s.size ≤ 1048576) (hp : p ≤ s.size) (hP : Pos s p st c) (hq : q = (p : Int) - (st : Int)) (w : World) :
    Calls Tryz.prog 21 #[.string (s.extract st s.size), .int .i64 q] w fun e w' => e = .returned (.int .i64 c) ∧ Below w.heap.size w w' := by
  have hle := hP.le
  have hone := hP.one
  have hlo := hP.lo
  have hhi := hP.hi
  have hr := Rest.mk' s st (by omega)
  have hz : (s.extract st s.size).size = s.size - st := by rw [ByteArray.size_extract]; omega
  have hin : ∀ j, j < c → stp s st j ≤ s.size := fun j hj => by have := stp_mono s st (show j ≤ c - 1 by omega); omega
  have e : q = ((p - st : Nat) : Int) := by omega
  subst e
  refine col_any (s.extract st s.size) _ (p - st) c w rfl (by omega) (by rw [hr.size]; omega) (by have := stp_ge s st (c - 1); omega) (fun k hk => ?_) ?_
  · have h1 := hr.stp k (fun j hj => hin j (by omega))
    have h2 := stp_mono s st (show k ≤ c - 1 by omega)
    omega
  · have h1 := hr.stp c hin
    omega

set_option maxHeartbeats 400000 in
set_option maxRecDepth 1000000 in
theorem implPos_in (b off p st c : Nat) (s : ByteArray) (w : World) (hs : s.size ≤ 1048576) (hp : p ≤ s.size) (hP : Pos s p st c) (hc : ∀ j, j < s.size → w.cell? ⟨b, off + j, none⟩ = some (bts s j)) :
    Calls Tryz.prog 12 #[.slice (some ⟨b, off, none⟩) s.size s.size, .int .i64 p] w fun e w' => e = .returned (.tuple #[.int .i64 (1 + cntLF s p : Nat), .int .i64 (c : Nat)]) ∧ Below w.heap.size w w' := by
  have HC := hide hc
  have HP := hide hP
  have hst := hP.le
  clear hc hP
  have t1 : decide ((p : Int) < 0) = false := decide_eq_false (by omega)
  have t2 : decide (s.size < p) = false := decide_eq_false (by omega)
  go_enter Tryz.func12, Tryz.ntmps12
  go_wp2_with fail
  have hcw : ∀ o, ∀ j, j < s.size → (w.alloc o).cell? ⟨b, off + j, none⟩ = some (bts s j) := fun o j hj => by
    rw [((Below.refl _ w).alloc (Nat.le_refl _) o).cell (p := ⟨b, off + j, none⟩) (World.block_lt_of_cell? _ _ (HC.out j hj))]; exact HC.out j hj
  have HCW := hide hcw
  clear hcw
  have H15 := Tryz.bytes_Count_one b off p s.size w.heap.size 0 1 ((nums s).take p) 10 (w.alloc (.cells #[.int .u8 10] 5)) (by rw [List.length_take, nums_length]; omega)
    (fun i hi => by
      rw [HCW.out _ i (by omega), ← nums_getD s i (by omega)]
      congr 2
      simp only [List.getD]
      rw [List.getElem?_take, if_pos hi]) (by simp)
  rw [count_eq s p hp] at H15
  refine H15.mono ?_
  clear H15
  rintro e w1 ⟨rfl, rfl⟩
  have hn := cntLF_le s p
  obtain ⟨n, hnk⟩ : ∃ n, cntLF s p = n := ⟨_, rfl⟩
  rw [hnk] at hn ⊢
  have HN := hide hnk
  clear hnk
  go_wp2_with fail
  refine (lastBytes_any b off s.size p st s _ hs hp hst HP.out.lf HP.out.none (HCW.out _)).mono ?_
  rintro e w1 ⟨rfl, rfl⟩
  have hq : 1 + ((st : Int) - 1) = (st : Int) := by omega
  by_cases hse : st = s.size
  · have hps : p = s.size := by omega
    have hcv : (convert 22 9 (.slice (some ⟨b, off, none⟩) 0 0)).run Tryz.prog (w.alloc (.cells #[.int .u8 10] 5)) = .ok (.string ByteArray.empty) (w.alloc (.cells #[.int .u8 10] 5)) := toStr_run ByteArray.empty _ b off 0 (fun j hj => absurd hj (Nat.not_lt_zero _))
    subst hse
    subst hps
    have HCOL : Hid (∀ (q : Int) w, q = 0 → Calls Tryz.prog 21 #[.string ByteArray.empty, .int .i64 q] w fun e w' => e = .returned (.int .i64 c) ∧ Below w.heap.size w w') := by
      intro q w hq0
      have e : s.extract s.size s.size = ByteArray.empty := ext_bytes (by rw [ByteArray.size_extract]; simp) (fun j hj => by rw [ByteArray.size_extract] at hj; omega)
      rw [← e]
      exact colPos s s.size s.size c q hs (Nat.le_refl _) HP.out (by omega) w
    go_wp2_with fail
    refine (HCOL.out _ _ rfl).mono ?_
    rintro e w2 ⟨rfl, hb2⟩
    go_wp2
    go_ret2
    exact ⟨by rw [HN.out]; refine ret_ints ?_ ?_ <;> omega, ((Below.refl _ w).alloc (Nat.le_refl _) _).trans (hb2.mono (by simp))⟩
  · have hlt : st < s.size := by omega
    have hz : (s.extract st s.size).size = s.size - st := by rw [ByteArray.size_extract]; omega
    have hcv := toStr_run (s.extract st s.size) (w.alloc (.cells #[.int .u8 10] 5)) b (off + st) (s.size - st) (fun j hj => by
      have := HCW.out (.cells #[.int .u8 10] 5) (st + j) (by omega)
      rw [Nat.add_assoc, this]; unfold bts; rw [get!_extract])
    rw [hz] at hcv
    have HCOL : Hid (∀ (q : Int) w, q = (p : Int) - (st : Int) → Calls Tryz.prog 21 #[.string (s.extract st s.size), .int .i64 q] w fun e w' => e = .returned (.int .i64 c) ∧ Below w.heap.size w w') := by
      intro q w hq0
      exact colPos s st p c q hs hp HP.out hq0 w
    clear hz
    go_wp2_with fail
    refine (HCOL.out _ _ rfl).mono ?_
    rintro e w2 ⟨rfl, hb2⟩
    go_wp2
    go_ret2
    exact ⟨by rw [HN.out]; refine ret_ints ?_ ?_ <;> omega, ((Below.refl _ w).alloc (Nat.le_refl _) _).trans (hb2.mono (by simp))⟩
end Go.Proofs.YteojiblglbmmdaaGreatDoor
