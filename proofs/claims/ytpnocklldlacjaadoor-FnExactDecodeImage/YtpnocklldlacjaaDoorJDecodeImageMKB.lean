/-
  markByteS at any slice.
  heldByteS at any slice.
  Blocks of lists; runs of cells that are written.
-/
import Derived.Test.YtpnocklldlacjaaDoorJDecodeImageMK
namespace Go.Proofs.YtpnocklldlacjaaDoor
open Go.RowKit

set_option maxHeartbeats 400000 in
set_option maxRecDepth 1000000 in
theorem markB_w (a0 : Option Addr) (b o n cap k0 : Nat) (w : World) (hn : n ≤ 100000000) (hk0 : k0 ≤ 1000000000000000000) (ha : 0 < n → a0 = some ⟨b, o, none⟩) (hc : ∀ j, j < n → ∃ v, w.cell? ⟨b, o + j, none⟩ = some v) (hf : ∀ j, j < n → w.frozen? ⟨b, o + j, none⟩ = false) :
    Calls Tryd.prog 18 #[.slice a0 n cap, .int .i64 k0] w fun e w' => e = .returned (.int .i64 (k0 + n : Nat)) ∧ Wrt b w w' ∧ (∀ j, j < n → w'.cell? ⟨b, o + j, none⟩ = some (mkB (k0 + j))) ∧ (∀ j, j < o ∨ o + n ≤ j → w'.cell? ⟨b, j, none⟩ = w.cell? ⟨b, j, none⟩) ∧ (n = 0 → w' = w) := by
  have HC := hide hc
  have HF := hide hf
  clear hc hf
  go_enter Tryd.func18, Tryd.ntmps18
  go_wp2
  go_loopw [1, 5] (fun kk i wr => ∃ m : Nat, m ≤ n ∧ i = .int .i64 m ∧ kk = .int .i64 (k0 + m : Nat) ∧ Wrt b w wr ∧ (∀ j, j < m → wr.cell? ⟨b, o + j, none⟩ = some (mkB (k0 + j))) ∧ (∀ j, j < o ∨ o + n ≤ j → wr.cell? ⟨b, j, none⟩ = w.cell? ⟨b, j, none⟩) ∧ (m = 0 → wr = w)) (fun _ i _ => n - (intOf i).toNat)
  case atStart => exact ⟨0, Nat.zero_le _, rfl, rfl, Wrt.refl _ _, fun j hj => absurd hj (Nat.not_lt_zero _), fun _ _ => rfl, fun _ => rfl⟩
  case round =>
    obtain ⟨m, hm, rfl, rfl, hon, hmk, hot, hz0⟩ := hrel
    have HZ := hide hz0
    have HM := hide hmk
    have HO := hide hot
    have HW := hide hon
    clear hmk hot hon hz0
    by_cases hlt : m < n
    · obtain rfl := ha (by omega)
      obtain ⟨v, g1⟩ := HW.out.has _ (HC.out m hlt)
      have g2 := (HW.out.fz ⟨b, o + m, none⟩).trans (HF.out m hlt)
      have EV : Hid (Value.int .u8 (((k0 : Int) + (m : Int)) % 256) = mkB (k0 + m)) := by show _ = _; unfold mkB; congr 1
      go_wp2
      rw [EV.out]
      have hcell := fun j => set_hit (u := mkB (k0 + m)) g1 j
      go_roundw
      case rel => exact ⟨m + 1, by omega, by go_num, by go_num, HW.out.setCell g1 _, fun j hj => by
          rw [hcell]
          by_cases e : j = m
          · rw [if_pos (by omega), e]
          · rw [if_neg (by omega)]; exact HM.out j (by omega), fun j hj => by
          rw [hcell, if_neg (by omega)]; exact HO.out j hj, fun h => absurd h (by omega)⟩
      case measure => simp [intOf]; omega
    · have e : m = n := by omega
      subst e
      go_wp2
      go_ret
      exact ⟨rfl, HW.out, HM.out, HO.out, HZ.out⟩

theorem markB_f {w : World} {v : Value} {s : ByteArray} {bl : List Nat} {k : Nat} (hs : s.size ≤ 100000000) (hk : k ≤ 1000000000000000000) (h : BF w v s bl) :
    Calls Tryd.prog 18 #[v, .int .i64 (k : Nat)] w fun e w' => e = .returned (.int .i64 (k + s.size : Nat)) ∧ BM w' v s.size k bl ∧ Wrs bl w w' := by
  obtain ⟨a, b, o, c, rfl, h2, rfl, h3⟩ := h
  refine (markB_w a b o s.size c k w hs hk h2 (fun j hj => ⟨_, (h3 j hj).1⟩) (fun j hj => (h3 j hj).2)).mono ?_
  rintro e w' ⟨he, hw, hm, _, hz0⟩
  refine ⟨he, ⟨a, b, o, c, rfl, h2, rfl, hm⟩, ⟨hw.os, hw.tape, hw.output, by rw [hw.size]; exact Nat.le_refl _, fun g hg ho => ?_⟩⟩
  by_cases hz : 0 < s.size
  · rw [if_pos hz] at ho
    exact hw.blk g (fun e => ho (List.mem_singleton.2 e))
  · by_cases e : g = b
    · subst e
      rw [hz0 (by omega)]
    · exact hw.blk g e
end Go.Proofs.YtpnocklldlacjaaDoor

namespace Go.Proofs.YtpnocklldlacjaaDoor
open Go.RowKit

set_option maxHeartbeats 400000 in
set_option maxRecDepth 1000000 in
theorem heldB_w (a0 : Option Addr) (b o n cap k0 : Nat) (w : World) (hn : n ≤ 100000000) (hk0 : k0 ≤ 1000000000000000000) (ha : 0 < n → a0 = some ⟨b, o, none⟩) (hc : ∀ j, j < n → w.cell? ⟨b, o + j, none⟩ = some (mkB (k0 + j))) :
    Calls Tryd.prog 19 #[.slice a0 n cap, .int .i64 k0] w fun e w' => e = .returned (.int .i64 (k0 + n : Nat)) ∧ w' = w := by
  have HC := hide hc
  clear hc
  go_enter Tryd.func19, Tryd.ntmps19
  go_wp2
  go_loop [1, 5] (fun kk i => ∃ m : Nat, m ≤ n ∧ i = .int .i64 m ∧ kk = .int .i64 (k0 + m : Nat)) (fun _ i => n - (intOf i).toNat)
  case atStart => exact ⟨0, Nat.zero_le _, rfl, rfl⟩
  case round =>
    obtain ⟨m, hm, rfl, rfl⟩ := hrel
    by_cases hlt : m < n
    · obtain rfl := ha (by omega)
      have g1 : w.cell? ⟨b, o + m, none⟩ = some (.int .u8 (((k0 : Int) + (m : Int)) % 256)) := by
        rw [HC.out m hlt]; unfold mkB; congr 2
      have hne : ((((k0 : Int) + (m : Int)) % 256) != (((k0 : Int) + (m : Int)) % 256)) = false := by simp
      go_wp2
      go_round
      case rel => exact ⟨m + 1, by omega, by go_num, by go_num⟩
      case measure => simp [intOf]; omega
    · have e : m = n := by omega
      subst e
      go_wp2
      go_ret
      exact ⟨rfl, rfl⟩

theorem heldB_f {w : World} {v : Value} {n k : Nat} {bl : List Nat} (hs : n ≤ 100000000) (hk : k ≤ 1000000000000000000) (h : BM w v n k bl) :
    Calls Tryd.prog 19 #[v, .int .i64 (k : Nat)] w fun e w' => e = .returned (.int .i64 (k + n : Nat)) ∧ w' = w := by
  obtain ⟨a, b, o, c, rfl, h2, rfl, h3⟩ := h
  exact heldB_w a b o n c k w hs hk h2 h3
end Go.Proofs.YtpnocklldlacjaaDoor

namespace Go.Proofs.YtpnocklldlacjaaDoor
open Go.RowKit

theorem flat_split {n : Nat} {NB : Nat → List Nat} (h : ((List.range n).map NB).flatten.Nodup) : (∀ i, i < n → (NB i).Nodup) ∧ ∀ i j, i < n → j < n → i ≠ j → ∀ g, g ∈ NB i → g ∉ NB j := by
  induction n with
  | zero => exact ⟨fun i hi => absurd hi (Nat.not_lt_zero _), fun i j hi => absurd hi (Nat.not_lt_zero _)⟩
  | succ n ih =>
    rw [List.range_succ, List.map_append, List.flatten_append, List.nodup_append] at h
    obtain ⟨h1, h2, h3⟩ := h
    obtain ⟨i1, i2⟩ := ih h1
    have hs : ([n].map NB).flatten = NB n := by simp
    rw [hs] at h2 h3
    have hm : ∀ i, i < n → ∀ g, g ∈ NB i → g ∈ ((List.range n).map NB).flatten := fun i hi g hg => List.mem_flatten.2 ⟨NB i, List.mem_map.2 ⟨i, List.mem_range.2 hi, rfl⟩, hg⟩
    refine ⟨fun i hi => ?_, fun i j hi hj hne g hg hg' => ?_⟩
    · by_cases e : i = n
      · rw [e]; exact h2
      · exact i1 i (by omega)
    · by_cases e : i = n
      · subst e
        exact h3 g (hm j (by omega) g hg') g hg rfl
      · by_cases e' : j = n
        · subst e'
          exact h3 g (hm i (by omega) g hg) g hg' rfl
        · exact i2 i j (by omega) (by omega) hne g hg hg'
theorem mem_flat {n : Nat} {NB : Nat → List Nat} {i g : Nat} (hi : i < n) (hg : g ∈ NB i) : g ∈ ((List.range n).map NB).flatten := List.mem_flatten.2 ⟨NB i, List.mem_map.2 ⟨i, List.mem_range.2 hi, rfl⟩, hg⟩
theorem of_mem_flat {n : Nat} {NB : Nat → List Nat} {g : Nat} (h : g ∈ ((List.range n).map NB).flatten) : ∃ i, i < n ∧ g ∈ NB i := by
  obtain ⟨l, h1, h2⟩ := List.mem_flatten.1 h
  obtain ⟨i, h3, rfl⟩ := List.mem_map.1 h1
  exact ⟨i, List.mem_range.1 h3, h2⟩
/-- Cells of a block are written, one behind another. -/
def setRun (w : World) (b : Nat) : Nat → List Value → World
  | _, [] => w
  | p, u :: us => setRun (w.setCell ⟨b, p, none⟩ u) b (p + 1) us
theorem setRun_size (b : Nat) : ∀ (us : List Value) (w : World) (p : Nat), (setRun w b p us).heap.size = w.heap.size
  | [], _, _ => rfl
  | _ :: us, _, _ => (setRun_size b us _ _).trans (World.size_setCell _ _ _)
theorem setRun_blk {b g : Nat} (hg : g ≠ b) : ∀ (us : List Value) (w : World) (p : Nat), (setRun w b p us).heap[g]? = w.heap[g]?
  | [], _, _ => rfl
  | _ :: us, _, _ => (setRun_blk hg us _ _).trans (Below.heap_setCell _ _ _ _ hg)
theorem setRun_fz (b : Nat) (q : Addr) : ∀ (us : List Value) (w : World) (p : Nat), (setRun w b p us).frozen? q = w.frozen? q
  | [], _, _ => rfl
  | _ :: us, _, _ => (setRun_fz b q us _ _).trans (World.frozen?_setCell ..)
theorem setRun_os (b : Nat) : ∀ (us : List Value) (w : World) (p : Nat), (setRun w b p us).os = w.os ∧ (setRun w b p us).tape = w.tape ∧ (setRun w b p us).output = w.output
  | [], _, _ => ⟨rfl, rfl, rfl⟩
  | u :: us, w, p => setRun_os b us (w.setCell ⟨b, p, none⟩ u) (p + 1)
theorem setRun_cell {b : Nat} : ∀ (us : List Value) (w : World) (p : Nat), (∀ j, j < us.length → ∃ v, w.cell? ⟨b, p + j, none⟩ = some v) → ∀ j, (setRun w b p us).cell? ⟨b, j, none⟩ = if p ≤ j ∧ j < p + us.length then us[j - p]? else w.cell? ⟨b, j, none⟩
  | [], w, p, _, j => by rw [if_neg (by simp)]; rfl
  | u :: us, w, p, h, j => by
    obtain ⟨v0, h0⟩ := h 0 (by simp)
    rw [Nat.add_zero] at h0
    have hs : ∀ i, (w.setCell ⟨b, p, none⟩ u).cell? ⟨b, i, none⟩ = if i = p then some u else w.cell? ⟨b, i, none⟩ := fun i => by
      by_cases e : i = p
      · subst e; rw [if_pos rfl]; exact World.cell?_setCell_same _ _ _ h0
      · rw [if_neg e]; exact World.cell?_setCell_other _ _ _ _ (fun h => e (by have := congrArg Addr.off h; exact this.symm))
    show (setRun (w.setCell ⟨b, p, none⟩ u) b (p + 1) us).cell? ⟨b, j, none⟩ = _
    rw [setRun_cell us _ (p + 1) (fun i hi => by
      obtain ⟨v, hv⟩ := h (i + 1) (by simp; omega)
      refine ⟨v, ?_⟩
      rw [hs, if_neg (by omega), ← hv]
      congr 2
      omega) j, hs j]
    by_cases e : j = p
    · subst e
      rw [if_neg (by omega), if_pos rfl, if_pos (by simp), Nat.sub_self]
      rfl
    · by_cases c : p + 1 ≤ j ∧ j < p + 1 + us.length
      · rw [if_pos c, if_pos (by simp; omega)]
        obtain ⟨q, rfl⟩ : ∃ q, j = p + 1 + q := ⟨j - (p + 1), by omega⟩
        rw [show p + 1 + q - (p + 1) = q by omega, show p + 1 + q - p = q + 1 by omega]
        rfl
      · rw [if_neg c, if_neg e, if_neg (by simp; omega)]
theorem setRun_at {b : Nat} {us : List Value} {w : World} {p i : Nat} {u : Value} (h : ∀ j, j < us.length → ∃ v, w.cell? ⟨b, p + j, none⟩ = some v) (hi : i < us.length) (hu : us[i]? = some u) : (setRun w b p us).cell? ⟨b, p + i, none⟩ = some u := by
  rw [setRun_cell us w p h, if_pos (by omega), show p + i - p = i by omega, hu]
theorem setRun_off {b : Nat} {us : List Value} {w : World} {p j : Nat} (h : ∀ j, j < us.length → ∃ v, w.cell? ⟨b, p + j, none⟩ = some v) (hj : j < p ∨ p + us.length ≤ j) : (setRun w b p us).cell? ⟨b, j, none⟩ = w.cell? ⟨b, j, none⟩ := by
  rw [setRun_cell us w p h, if_neg (by omega)]
theorem setRun_wrs {b p : Nat} {us : List Value} {w w' : World} {bl : List Nat} (h : Wrs bl w w') (hb : b ∈ bl) : Wrs bl w (setRun w' b p us) :=
  ⟨(setRun_os b us w' p).1.trans h.os, (setRun_os b us w' p).2.1.trans h.tape, (setRun_os b us w' p).2.2.trans h.output, by rw [setRun_size]; exact h.size, fun g hg ho => (setRun_blk (fun e => ho (by rw [e]; exact hb)) us w' p).trans (h.blk g hg ho)⟩
end Go.Proofs.YtpnocklldlacjaaDoor
