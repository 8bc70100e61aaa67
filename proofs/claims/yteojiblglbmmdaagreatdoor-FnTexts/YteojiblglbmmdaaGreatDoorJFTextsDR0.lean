/-
  The drawing's reader: spec.l9open, its next.
-/
import Derived.Test.YteojiblglbmmdaaGreatDoorJFTextsAP
import Derived.BigQuiet
import Derived.Deep.QuietTactic
namespace Go.Proofs.YteojiblglbmmdaaGreatDoor
open Go.RowKit

/-- What is drawn at i, of n bytes. -/
def nx (cs : ByteArray) (n i : Nat) : Nat := if i < n then (cs.get! i).toNat else 0
theorem nx_lt (cs : ByteArray) (n i : Nat) : nx cs n i < 256 := by
  unfold nx; split
  · exact (cs.get! i).toNat_lt
  · omega

/-- A reader lies in block R, i bytes on. -/
structure RdAt (w : World) (R : Nat) (a0 : Option Addr) (b off n cap : Nat) (cs : ByteArray) (i : Nat) : Prop where
  blk : w.heap[R]? = some (.cells #[.slice a0 n cap, .int .i64 ((min i n : Nat) : Int)] 61 (0, 0))
  addr : 0 < n → a0 = some ⟨b, off, none⟩
  ne : 0 < n → b ≠ R
  le : n ≤ cs.size
  bytes : ∀ j, j < n → w.cell? ⟨b, off + j, none⟩ = some (bts cs j)
theorem RdAt.lt {w : World} {R : Nat} {a0 : Option Addr} {b off n cap : Nat} {cs : ByteArray} {i : Nat} (h : RdAt w R a0 b off n cap cs i) : R < w.heap.size := (Array.getElem?_eq_some_iff.1 h.blk).1
theorem RdAt.kept {w w' : World} {R : Nat} {a0 : Option Addr} {b off n cap : Nat} {cs : ByteArray} {i : Nat} {row : Option Nat} (h : RdAt w R a0 b off n cap cs i) (hg : w.grownBy w' row) (hr : some R ≠ row) (hb : 0 < n → some b ≠ row) : RdAt w' R a0 b off n cap cs i :=
  ⟨(hg.block R h.lt hr).trans h.blk, h.addr, h.ne, h.le, fun j hj => by
    have hc := h.bytes j hj
    rw [World.cell?_of_block (w := w) (a := ⟨b, off + j, none⟩) (hg.block b (World.block_lt_of_cell? _ _ hc) (hb (by omega)))]; exact hc⟩

theorem cells_set {W : World} {R : Nat} {t : TypeId} {a x : Value} (v : Value) (h : W.heap[R]? = some (.cells #[a, x] t (0, 0))) : (W.setCell ⟨R, 1, none⟩ v).heap[R]? = some (.cells #[a, v] t (0, 0)) := by
  obtain ⟨hlt, hk⟩ := Array.getElem?_eq_some_iff.1 h
  show (W.heap.modify R _)[R]? = _
  rw [Array.getElem?_eq_getElem (by rw [Array.size_modify]; exact hlt), Array.getElem_modify_self, hk]
  rfl
theorem grown_set (W : World) (R o k : Nat) (v : Value) : W.grownBy ((W.drewN k).setCell ⟨R, o, none⟩ v) (some R) :=
  ⟨rfl, rfl, rfl, by simp [World.setCell], fun j _ hj => Below.heap_setCell _ _ _ j (fun e => hj (by rw [e]))⟩
theorem grown_drew (W : World) (k : Nat) (row : Option Nat) : W.grownBy (W.drewN k) row := ⟨rfl, rfl, rfl, Nat.le_refl _, fun _ _ _ => rfl⟩

set_option maxHeartbeats 1000000 in
set_option maxRecDepth 1000000 in
theorem next_any (w : World) (R : Nat) (a0 : Option Addr) (b off n cap : Nat) (cs : ByteArray) (i : Nat) (hn : n ≤ 600) (h : RdAt w R a0 b off n cap cs i) :
    Calls Tryz.prog 23 #[.pointer (some ⟨R, 0, none⟩)] w fun e w' => e = .returned (.int .i64 (nx cs n i)) ∧ w.grownBy w' (some R) ∧ RdAt w' R a0 b off n cap cs (i + 1) := by
  have HD := hide h
  have c0 : w.cell? ⟨R, 0, none⟩ = some (.slice a0 n cap) := by simp [World.cell?, h.blk]
  have c1 : w.cell? ⟨R, 1, none⟩ = some (.int .i64 ((min i n : Nat) : Int)) := by simp [World.cell?, h.blk]
  have f1 : w.frozen? ⟨R, 1, none⟩ = false := by simp [World.frozen?, h.blk]
  have hmx : Tryz.prog.follows .mixedOrders = true := by kernel_rfl
  by_cases hlt : i < n
  · obtain rfl := h.addr (by omega)
    have hmin : min i n = i := by omega
    rw [hmin] at c1
    have g1 : w.cell? ⟨b, off + i, none⟩ = some (.int .u8 ((cs.get! i).toNat : Int)) := h.bytes i hlt
    have b1 : (cs.get! i).toNat < 256 := (cs.get! i).toNat_lt
    have HN : Hid (nx cs n i = (cs.get! i).toNat) := by show _ = _; unfold nx; rw [if_pos hlt]
    obtain ⟨y, hy⟩ : ∃ y : Nat, (cs.get! i).toNat = y := ⟨_, rfl⟩
    rw [hy] at g1 b1 HN
    have hlti : (i : Int) < (n : Int) := by omega
    clear hy hmin h
    go_enter Tryz.func23, Tryz.ntmps23
    have d1 : decide ((n : Int) ≤ (i : Int)) = false := decide_eq_false (by omega)
    go_wp2_with fail
    go_quiet (fail)
    go_wp2_with fail
    go_quiet (fail)
    go_wp2
    go_ret
    refine ⟨by rw [HN.out]; rfl, grown_set w R 1 _ _, ⟨?_, HD.out.addr, HD.out.ne, HD.out.le, fun j hj => ?_⟩⟩
    · have hb := HD.out.blk
      have e : (.int .i64 ((min (i + 1) n : Nat) : Int) : Value) = .int .i64 ((i : Int) + 1) := by congr 1; omega
      rw [e]
      exact cells_set (W := w.drewN _) _ hb
    · have hc := HD.out.bytes j hj
      rw [World.cell?_of_block (w := w) (a := ⟨b, off + j, none⟩) ((grown_set w R 1 _ _).block b (World.block_lt_of_cell? _ _ hc) (fun e => HD.out.ne (by omega) (Option.some.inj e)))]; exact hc
  · have hmin : min i n = n := by omega
    rw [hmin] at c1
    have HN : Hid (nx cs n i = 0) := by show _ = _; unfold nx; rw [if_neg hlt]
    have HR : Hid (∀ k, RdAt (w.drewN k) R a0 b off n cap cs (i + 1)) := fun k => ⟨by
      have hb := HD.out.blk
      rw [hmin] at hb
      rw [show min (i + 1) n = n by omega]
      exact hb, HD.out.addr, HD.out.ne, HD.out.le, HD.out.bytes⟩
    have d1 : decide ((n : Int) ≤ (n : Int)) = true := decide_eq_true (by omega)
    clear hmin h
    go_enter Tryz.func23, Tryz.ntmps23
    go_wp2_with fail
    go_quiet (fail)
    go_wp2
    go_ret
    exact ⟨by rw [HN.out]; rfl, grown_drew w _ _, HR.out _⟩

theorem rd_new {cs : ByteArray} {b off : Nat} (w : World) (a0 : Option Addr) (n cap : Nat) (hn : n ≤ cs.size) (ha : 0 < n → a0 = some ⟨b, off, none⟩) (hc : ∀ j, j < cs.size → w.cell? ⟨b, off + j, none⟩ = some (bts cs j)) :
    RdAt (w.alloc (.cells #[.slice a0 n cap, .int .i64 0] 61)) w.heap.size a0 b off n cap cs 0 :=
  ⟨by rw [Nat.zero_min]; show (w.heap.push _)[w.heap.size]? = _; rw [Array.getElem?_push_size]; rfl, ha, fun h => by have := World.block_lt_of_cell? _ _ (hc 0 (by omega)); simp only at this; omega, hn, fun j hj => by
    rw [((Below.refl _ w).alloc (Nat.le_refl _) _).cell (p := ⟨b, off + j, none⟩) (World.block_lt_of_cell? _ _ (hc j (by omega)))]; exact hc j (by omega)⟩

set_option maxHeartbeats 1000000 in
set_option maxRecDepth 1000000 in
theorem open_any (w : World) (a0 : Option Addr) (b off cap : Nat) (cs : ByteArray) (hs : cs.size ≤ 1048576) (hcap : cs.size ≤ cap) (ha : 0 < cs.size → a0 = some ⟨b, off, none⟩) (hc : ∀ j, j < cs.size → w.cell? ⟨b, off + j, none⟩ = some (bts cs j)) :
    Calls Tryz.prog 22 #[.slice a0 cs.size cap] w fun e w' => ∃ n, n = min cs.size 600 ∧ e = .returned (.pointer (some ⟨w.heap.size, 0, none⟩)) ∧ RdAt w' w.heap.size a0 b off n cap cs 0 ∧ Below w.heap.size w w' := by
  by_cases h : 600 < cs.size
  · obtain rfl := ha (by omega)
    have t0 : decide ((600 : Int) < (cs.size : Int)) = true := decide_eq_true (by omega)
    have HC := hide hc
    clear hc ha
    go_enter Tryz.func22, Tryz.ntmps22
    go_wp2
    go_ret
    exact ⟨600, by omega, rfl, rd_new _ _ _ _ (by omega) (fun _ => rfl) HC.out, (Below.refl _ _).alloc (Nat.le_refl _) _⟩
  · have t0 : decide ((600 : Int) < (cs.size : Int)) = false := decide_eq_false (by omega)
    have HC := hide hc
    clear hc
    go_enter Tryz.func22, Tryz.ntmps22
    go_wp2
    go_ret
    exact ⟨cs.size, by omega, rfl, rd_new _ _ _ _ (Nat.le_refl _) ha HC.out, (Below.refl _ _).alloc (Nat.le_refl _) _⟩
theorem grown_trans {a b c : World} {R : Nat} (h : a.grownBy b (some R)) (k : b.grownBy c none) (_ : R < a.heap.size) : a.grownBy c (some R) :=
  ⟨k.os.trans h.os, k.tape.trans h.tape, k.output.trans h.output, Nat.le_trans h.size k.size, fun j hj hne => (k.block j (Nat.lt_of_lt_of_le hj h.size) (by simp)).trans (h.block j hj hne)⟩
theorem grown_trans0 {a b c : World} (h : a.grownBy b none) (k : b.grownBy c none) : a.grownBy c none :=
  ⟨k.os.trans h.os, k.tape.trans h.tape, k.output.trans h.output, Nat.le_trans h.size k.size, fun j hj hne => (k.block j (Nat.lt_of_lt_of_le hj h.size) hne).trans (h.block j hj hne)⟩
theorem grown_own {a b c : World} {R : Nat} {row : Option Nat} (h : a.grownBy b (some R)) (k : b.grownBy c row) (hr : ∀ r, row = some r → a.heap.size ≤ r ∨ r = R) : a.grownBy c (some R) :=
  ⟨k.os.trans h.os, k.tape.trans h.tape, k.output.trans h.output, Nat.le_trans h.size k.size, fun j hj hne => (k.block j (Nat.lt_of_lt_of_le hj h.size) (fun e => by
    rcases hr j e.symm with g | g
    · omega
    · exact hne (by rw [g]))).trans (h.block j hj hne)⟩
theorem RdAt.b_lt {w : World} {R : Nat} {a0 : Option Addr} {b off n cap : Nat} {cs : ByteArray} {i : Nat} (h : RdAt w R a0 b off n cap cs i) (hn : 0 < n) : b < w.heap.size := World.block_lt_of_cell? _ _ (h.bytes 0 hn)
end Go.Proofs.YteojiblglbmmdaaGreatDoor
