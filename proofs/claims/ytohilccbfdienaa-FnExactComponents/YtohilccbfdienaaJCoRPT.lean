/-
  The walk of slices.Repeat, of one number.
-/
import Derived.Test.YtohilccbfdienaaJCoShelf
import Derived.Test.YtohilccbfdienaaJCoMK
import Derived.Laws.CopyOwn
import Derived.Deep.RegionLaw
namespace Go.Proofs.Ytohilccbfdienaa
open Go.RowKit

/-- So many numbers are there, the others are 0. -/
def rpl (n m : Nat) (z : Int) : List Value := List.replicate m (.int .i64 z) ++ List.replicate (n - m) (.int .i64 0)
theorem rpl_length {n m : Nat} (h : m ≤ n) (z : Int) : (rpl n m z).length = n := by unfold rpl; simp; omega
theorem rpl_zero (n : Nat) (z : Int) : rpl n 0 z = List.replicate n (.int .i64 0) := by unfold rpl; simp
theorem rpl_more {n m k : Nat} (h : m + k ≤ n) (z : Int) : splice (rpl n m z) m (List.replicate k (.int .i64 z)) = rpl n (m + k) z := by
  unfold splice rpl
  rw [List.take_append_of_le_length (by simp), List.take_of_length_le (by simp), List.length_replicate, List.drop_append, List.drop_of_length_le (by simp), List.drop_replicate, List.length_replicate, List.nil_append, ← List.append_assoc, List.replicate_append_replicate, show n - m - (m + k - m) = n - (m + k) by omega]
theorem rpl_at {n m j : Nat} (h : j < m) (z : Int) : (rpl n m z)[j]? = some (.int .i64 z) := by
  unfold rpl
  rw [List.getElem?_append_left (by simpa using h)]
  simp [h]
theorem row_list {w : World} {B n : Nat} {z : Value} (h : w.rowIs B 3 n (fun _ => z)) : Blk w B 3 (List.replicate n z).toArray := by
  obtain ⟨c, h1, h2, h3⟩ := h
  have e : c = (List.replicate n z).toArray := by
    apply Array.ext_getElem?
    intro i
    by_cases hi : i < n
    · rw [h3 i hi]; simp [hi]
    · rw [Array.getElem?_eq_none (by omega)]; simp [hi]
  rw [← e]
  exact h1
theorem row_rpl {w : World} {B n : Nat} {z : Int} (h : Blk w B 3 (rpl n n z).toArray) : w.rowIs B 3 n (fun _ => .int .i64 z) :=
  ⟨_, h, by rw [List.size_toArray, rpl_length (Nat.le_refl _)], fun i hi => by rw [List.getElem?_toArray, rpl_at hi]⟩
/-- What Repeat answers. -/
def RepP (w w' : World) (n : Nat) (z : Int) (e : Ending) : Prop := ∃ B, e = .returned (.slice (some ⟨B, 0, none⟩) n n) ∧ w'.rowIs B 3 n (fun _ => .int .i64 z) ∧ w.heap.size ≤ B ∧ Below w.heap.size w w'
theorem Try.infoR : (Try.prog.info? 3).map (fun i => (i.zero, i.size, i.bytes)) = some (some (.int .i64 0), 1, 8) := by kernel_rfl
theorem Try.infoS : (Try.prog.info? 3).map (·.size) = some 1 := by kernel_rfl

set_option maxHeartbeats 2000000 in
set_option maxRecDepth 1000000 in
theorem repeat_any (n b : Nat) (z : Int) (w : World) (hn : n ≤ 1000000) (h1 : 1 ≤ n) (hc : w.cell? ⟨b, 0, none⟩ = some (.int .i64 z)) :
    Calls Try.prog 20 #[.slice (some ⟨b, 0, none⟩) 1 1, .int .i64 n] w fun e w' => RepP w w' n z e := by
  have HM : Hid (Calls Try.prog 29 #[.int .u64 1, .int .u64 n] w fun e w' => e = .returned (.tuple #[.int .u64 0, .int .u64 n]) ∧ w' = w) := by
    have h := Try.bits_Mul 1 n (by omega) (by omega) w
    rw [Nat.one_mul, Nat.div_eq_of_lt (by omega), Nat.mod_eq_of_lt (by omega)] at h
    exact h
  have hmk := run_make_row' (P := Try.prog) 22 3 (.int .i64 0) 8 Try.underlying22 Try.infoR rfl .i64 .i64 n (by omega) (by omega) w
  have HR0 := hide (row_list (World.rowIs_made w (.int .i64 0) n 3))
  obtain ⟨W1, hW1⟩ : ∃ W, w.alloc (.cells (madeCells #[.int .i64 0] n) 3) = W := ⟨_, rfl⟩
  have hb1 : Below w.heap.size w W1 := by rw [← hW1]; exact (Below.refl _ _).alloc (Nat.le_refl _) _
  have hc1 := cell_kept hc hb1
  have hbw : b < w.heap.size := World.block_lt_of_cell? _ _ hc
  obtain ⟨B, hB⟩ : ∃ B, w.heap.size = B := ⟨_, rfl⟩
  rw [hW1, hB] at hmk HR0
  have HB1 := hide hb1
  have HBB := hide hB
  have HC1 := hide hc1
  have tmax : decide ((9223372036854775807 : Int) < (n : Int)) = false := decide_eq_false (by omega)
  have tneg : decide ((n : Int) < 0) = false := decide_eq_false (by omega)
  have hwu : IntKind.u64.wrap (n : Int) = (n : Int) := by rw [IntKind.wrap_u64]; omega
  have hwi : IntKind.i64.wrap (n : Int) = (n : Int) := by rw [IntKind.wrap_i64]; omega
  rw [← rpl_zero n z] at HR0
  have HCP : Hid (∀ j v, ([.int .i64 z] : List Value)[j]? = some v → W1.cell? ((⟨b, 0, none⟩ : Addr).add j) = some v) := fun j v hj => by
    match j, hj with
    | 0, hj =>
      have e : (⟨b, 0, none⟩ : Addr).add 0 = ⟨b, 0, none⟩ := by unfold Addr.add; split <;> simp_all
      rw [e, HC1.out, ← hj]
      rfl
  clear hW1 hb1 hB hc hc1
  go_enter Try.func20, Try.ntmps20
  go_wp2_with fail
  refine HM.out.mono ?_
  rintro e w2 ⟨rfl, hw2⟩
  subst hw2
  clear HM
  rename World => w2
  have HZ1 : Hid (w2.heap.size ≤ B) := Nat.le_of_eq HBB.out
  have hcp := run_copy_row (P := Try.prog) W1 22 22 3 3 B 0 n n ⟨b, 0, none⟩ 1 1 (rpl n 0 z).toArray 3 [.int .i64 z] Try.underlying22 Try.infoS HR0.out (by show 1 = Nat.min 1 n; exact (Nat.min_eq_left h1).symm) HCP.out (by rw [List.size_toArray, rpl_length (Nat.zero_le _)]; exact h1) (by intro v hv; rw [List.mem_singleton.1 hv]; rfl)
  obtain ⟨w4, hw4⟩ : ∃ W, W1.setRow B ((rpl n 0 z).toArray.toList.take 0 ++ [Value.int .i64 z] ++ (rpl n 0 z).toArray.toList.drop (0 + ([.int .i64 z] : List Value).length)).toArray = W := ⟨_, rfl⟩
  have HG4 : Hid (Blk w4 B 3 (rpl n 1 z).toArray) := by
    have e := rpl_more (n := n) (m := 0) (k := 1) (by omega) z
    have h := setRow_heap W1 B (rpl n 0 z).toArray ((rpl n 0 z).toArray.toList.take 0 ++ [Value.int .i64 z] ++ (rpl n 0 z).toArray.toList.drop (0 + ([.int .i64 z] : List Value).length)).toArray 3 _ HR0.out
    rw [hw4] at h
    show _ = _
    rw [h, ← e]
    simp [splice]
  have HB4 : Hid (Below w2.heap.size w2 w4) := by rw [← hw4]; exact below_setRow HB1.out HZ1.out _
  rw [hw4, show goInt ([.int .i64 z] : List Value).length = .int .i64 1 from rfl] at hcp
  clear hw4
  go_wp2
  clear hcp HR0 HB1 HCP HC1 hmk hbw
  go_loopw [8] (fun ix wr => ∃ m : Nat, 1 ≤ m ∧ m ≤ n ∧ ix = .int .i64 m ∧ Blk wr B 3 (rpl n m z).toArray ∧ Below w2.heap.size w2 wr) (fun ix _ => n - (intOf ix).toNat)
  case atStart => exact ⟨1, Nat.le_refl _, h1, rfl, HG4.out, HB4.out⟩
  case round =>
    clear HG4 HB4
    obtain ⟨m, hm1, hmn, rfl, hbk, hbl⟩ := hrel
    rename World => Z
    have HK := hide hbk
    have HB := hide hbl
    clear hbk hbl
    by_cases hlt : m < n
    · have hlti : (m : Int) < (n : Int) := by omega
      have hmi : (m : Int) ≤ (n : Int) := by omega
      obtain ⟨k, hk⟩ : ∃ k, Nat.min m (n - m) = k := ⟨_, rfl⟩
      have hkn : m + k ≤ n := by have : Nat.min m (n - m) ≤ n - m := Nat.min_le_right _ _; omega
      have hk1 : 1 ≤ k := by rw [← hk]; exact Nat.le_min.2 ⟨hm1, by omega⟩
      have hkm : k ≤ m := by rw [← hk]; exact Nat.min_le_left _ _
      have HSR : Hid (∀ j v, (List.replicate k (Value.int .i64 z))[j]? = some v → Z.drew.cell? ((⟨B, 0, none⟩ : Addr).add j) = some v) := fun j v hj => by
        have hjk : j < k := by
          rcases Nat.lt_or_ge j k with h | h
          · exact h
          · rw [List.getElem?_eq_none (by simpa using h)] at hj; cases hj
        have e : (⟨B, 0, none⟩ : Addr).add j = ⟨B, j, none⟩ := by unfold Addr.add; split <;> simp_all
        rw [e]
        have h2 := HK.out.cell j
        rw [List.getElem?_toArray, rpl_at (by omega)] at h2
        have h3 : (List.replicate k (Value.int .i64 z))[j]? = some (.int .i64 z) := by simp [hjk]
        rw [h3] at hj
        rw [← hj]
        exact h2
      have HNK : Hid ((List.replicate k (Value.int .i64 z)).length = Nat.min m (n - m)) := by show _ = _; rw [List.length_replicate, hk]
      have HFT : Hid (m + (List.replicate k (Value.int .i64 z)).length ≤ (rpl n m z).length) := by show _ ≤ _; rw [List.length_replicate, rpl_length hmn]; exact hkn
      have HON : Hid (∀ v ∈ List.replicate k (Value.int .i64 z), v.oneCell' = true) := fun v hv => by rw [(List.mem_replicate.1 hv).2]; rfl
      have hgl : goInt (List.replicate k (Value.int .i64 z)).length = .int .i64 k := by rw [List.length_replicate]; rfl
      have hws : IntKind.i64.wrap ((m : Int) + (k : Int)) = ((m + k : Nat) : Int) := by rw [IntKind.wrap_i64]; omega
      obtain ⟨mk, hmk⟩ : ∃ q, m + k = q := ⟨_, rfl⟩
      rw [hmk] at hws
      have HMK := hide hmk
      have hcp := run_copy_row (P := Try.prog) Z.drew 22 22 3 3 B m (n - m) (n - m) ⟨B, 0, none⟩ m n (rpl n m z).toArray 3 (List.replicate k (.int .i64 z)) Try.underlying22 Try.infoS HK.out HNK.out HSR.out (by rw [List.size_toArray]; exact HFT.out) HON.out
      rw [hgl] at hcp
      obtain ⟨w5, hw5⟩ : ∃ W, Z.drew.setRow B ((rpl n m z).toArray.toList.take m ++ List.replicate k (Value.int .i64 z) ++ (rpl n m z).toArray.toList.drop (m + (List.replicate k (Value.int .i64 z)).length)).toArray = W := ⟨_, rfl⟩
      have HG5 : Hid (Blk w5 B 3 (rpl n mk z).toArray) := by
        have e := rpl_more (n := n) (m := m) (k := k) hkn z
        have h := setRow_heap Z.drew B (rpl n m z).toArray ((rpl n m z).toArray.toList.take m ++ List.replicate k (Value.int .i64 z) ++ (rpl n m z).toArray.toList.drop (m + (List.replicate k (Value.int .i64 z)).length)).toArray 3 _ HK.out
        rw [hw5] at h
        show _ = _
        rw [h, ← HMK.out, ← e]
        simp [splice]
      have HB5 : Hid (Below w2.heap.size w2 w5) := by rw [← hw5]; exact below_setRow HB.out.drew HZ1.out _
      rw [hw5] at hcp
      clear hk hmk hw5 hgl
      go_wp2_with fail
      go_region
      go_wp2
      go_roundw
      case rel => exact ⟨mk, by have := HMK.out; omega, by have := HMK.out; omega, rfl, HG5.out, HB5.out⟩
      case measure => have := HMK.out; simp [intOf]; omega
    · have hge : ¬ (m : Int) < (n : Int) := by omega
      obtain rfl : m = n := by omega
      have HF : Hid (RepP w2 Z m z (.returned (.slice (some ⟨B, 0, none⟩) m m))) := ⟨B, rfl, row_rpl HK.out, HZ1.out, HB.out⟩
      go_wp2
      go_ret
      exact HF.out
end Go.Proofs.Ytohilccbfdienaa
