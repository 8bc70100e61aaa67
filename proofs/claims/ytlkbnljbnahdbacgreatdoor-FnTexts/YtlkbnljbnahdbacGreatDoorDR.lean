/-
  The walks of the drawing's reader: spec.l9open, its next.
-/
import Derived.Test.YtlkbnljbnahdbacGreatDoorAP
import Derived.Lib.ConvBytes
import Derived.BigQuiet
import Derived.Deep.QuietTactic
namespace Go.Proofs.YtlkbnljbnahdbacGreatDoor
open Go.RowKit

/-- What is drawn at i, of n bytes. -/
def nx (cs : ByteArray) (n i : Nat) : Nat := if i < n then (cs.get! i).toNat else 0
theorem nx_lt (cs : ByteArray) (n i : Nat) : nx cs n i < 256 := by
  unfold nx; split
  · exact (cs.get! i).toNat_lt
  · omega

/-- A reader lies in block R, i bytes on. -/
structure RdAt (w : World) (R : Nat) (a0 : Option Addr) (b off n cap : Nat) (cs : ByteArray) (i : Nat) : Prop where
  blk : w.heap[R]? = some (.cells #[.slice a0 n cap, .int .i64 ((min i n : Nat) : Int)] 61 (0, 0))
  addr : 0 < n → a0 = some ⟨b, off, none⟩
  ne : 0 < n → b ≠ R
  le : n ≤ cs.size
  bytes : ∀ j, j < n → w.cell? ⟨b, off + j, none⟩ = some (bts cs j)
theorem RdAt.lt {w : World} {R : Nat} {a0 : Option Addr} {b off n cap : Nat} {cs : ByteArray} {i : Nat} (h : RdAt w R a0 b off n cap cs i) : R < w.heap.size := (Array.getElem?_eq_some_iff.1 h.blk).1
theorem RdAt.kept {w w' : World} {R : Nat} {a0 : Option Addr} {b off n cap : Nat} {cs : ByteArray} {i : Nat} {row : Option Nat} (h : RdAt w R a0 b off n cap cs i) (hg : w.grownBy w' row) (hr : some R ≠ row) (hb : 0 < n → some b ≠ row) : RdAt w' R a0 b off n cap cs i :=
  ⟨(hg.block R h.lt hr).trans h.blk, h.addr, h.ne, h.le, fun j hj => by
    have hc := h.bytes j hj
    rw [World.cell?_of_block (w := w) (a := ⟨b, off + j, none⟩) (hg.block b (World.block_lt_of_cell? _ _ hc) (hb (by omega)))]; exact hc⟩

theorem cells_set {W : World} {R : Nat} {t : TypeId} {a x : Value} (v : Value) (h : W.heap[R]? = some (.cells #[a, x] t (0, 0))) : (W.setCell ⟨R, 1, none⟩ v).heap[R]? = some (.cells #[a, v] t (0, 0)) := by
  obtain ⟨hlt, hk⟩ := Array.getElem?_eq_some_iff.1 h
  show (W.heap.modify R _)[R]? = _
  rw [Array.getElem?_eq_getElem (by rw [Array.size_modify]; exact hlt), Array.getElem_modify_self, hk]
  rfl
theorem grown_set (W : World) (R o k : Nat) (v : Value) : W.grownBy ((W.drewN k).setCell ⟨R, o, none⟩ v) (some R) :=
  ⟨rfl, rfl, rfl, by simp [World.setCell], fun j _ hj => Below.heap_setCell _ _ _ j (fun e => hj (by rw [e]))⟩
theorem grown_drew (W : World) (k : Nat) (row : Option Nat) : W.grownBy (W.drewN k) row := ⟨rfl, rfl, rfl, Nat.le_refl _, fun _ _ _ => rfl⟩

set_option maxHeartbeats 1000000 in
set_option maxRecDepth 1000000 in
theorem next_any (w : World) (R : Nat) (a0 : Option Addr) (b off n cap : Nat) (cs : ByteArray) (i : Nat) (hn : n ≤ 600) (h : RdAt w R a0 b off n cap cs i) :
    Calls Tryz.prog 23 #[.pointer (some ⟨R, 0, none⟩)] w fun e w' => e = .returned (.int .i64 (nx cs n i)) ∧ w.grownBy w' (some R) ∧ RdAt w' R a0 b off n cap cs (i + 1) := by
  have HD := hide h
  have c0 : w.cell? ⟨R, 0, none⟩ = some (.slice a0 n cap) := by simp [World.cell?, h.blk]
  have c1 : w.cell? ⟨R, 1, none⟩ = some (.int .i64 ((min i n : Nat) : Int)) := by simp [World.cell?, h.blk]
  have f1 : w.frozen? ⟨R, 1, none⟩ = false := by simp [World.frozen?, h.blk]
  have hmx : Tryz.prog.follows .mixedOrders = true := by kernel_rfl
  by_cases hlt : i < n
  · obtain rfl := h.addr (by omega)
    have hmin : min i n = i := by omega
    rw [hmin] at c1
    have g1 : w.cell? ⟨b, off + i, none⟩ = some (.int .u8 ((cs.get! i).toNat : Int)) := h.bytes i hlt
    have b1 : (cs.get! i).toNat < 256 := (cs.get! i).toNat_lt
    have HN : Hid (nx cs n i = (cs.get! i).toNat) := by show _ = _; unfold nx; rw [if_pos hlt]
    obtain ⟨y, hy⟩ : ∃ y : Nat, (cs.get! i).toNat = y := ⟨_, rfl⟩
    rw [hy] at g1 b1 HN
    have hlti : (i : Int) < (n : Int) := by omega
    clear hy hmin h
    go_enter Tryz.func23, Tryz.ntmps23
    have d1 : decide ((n : Int) ≤ (i : Int)) = false := decide_eq_false (by omega)
    go_wp2_with fail
    go_quiet (fail)
    go_wp2_with fail
    go_quiet (fail)
    go_wp2
    go_ret
    refine ⟨by rw [HN.out]; rfl, grown_set w R 1 _ _, ⟨?_, HD.out.addr, HD.out.ne, HD.out.le, fun j hj => ?_⟩⟩
    · have hb := HD.out.blk
      have e : (.int .i64 ((min (i + 1) n : Nat) : Int) : Value) = .int .i64 ((i : Int) + 1) := by congr 1; omega
      rw [e]
      exact cells_set (W := w.drewN _) _ hb
    · have hc := HD.out.bytes j hj
      rw [World.cell?_of_block (w := w) (a := ⟨b, off + j, none⟩) ((grown_set w R 1 _ _).block b (World.block_lt_of_cell? _ _ hc) (fun e => HD.out.ne (by omega) (Option.some.inj e)))]; exact hc
  · have hmin : min i n = n := by omega
    rw [hmin] at c1
    have HN : Hid (nx cs n i = 0) := by show _ = _; unfold nx; rw [if_neg hlt]
    have HR : Hid (∀ k, RdAt (w.drewN k) R a0 b off n cap cs (i + 1)) := fun k => ⟨by
      have hb := HD.out.blk
      rw [hmin] at hb
      rw [show min (i + 1) n = n by omega]
      exact hb, HD.out.addr, HD.out.ne, HD.out.le, HD.out.bytes⟩
    have d1 : decide ((n : Int) ≤ (n : Int)) = true := decide_eq_true (by omega)
    clear hmin h
    go_enter Tryz.func23, Tryz.ntmps23
    go_wp2_with fail
    go_quiet (fail)
    go_wp2
    go_ret
    exact ⟨by rw [HN.out]; rfl, grown_drew w _ _, HR.out _⟩

theorem rd_new {cs : ByteArray} {b off : Nat} (w : World) (a0 : Option Addr) (n cap : Nat) (hn : n ≤ cs.size) (ha : 0 < n → a0 = some ⟨b, off, none⟩) (hc : ∀ j, j < cs.size → w.cell? ⟨b, off + j, none⟩ = some (bts cs j)) :
    RdAt (w.alloc (.cells #[.slice a0 n cap, .int .i64 0] 61)) w.heap.size a0 b off n cap cs 0 :=
  ⟨by rw [Nat.zero_min]; show (w.heap.push _)[w.heap.size]? = _; rw [Array.getElem?_push_size]; rfl, ha, fun h => by have := World.block_lt_of_cell? _ _ (hc 0 (by omega)); simp only at this; omega, hn, fun j hj => by
    rw [((Below.refl _ w).alloc (Nat.le_refl _) _).cell (p := ⟨b, off + j, none⟩) (World.block_lt_of_cell? _ _ (hc j (by omega)))]; exact hc j (by omega)⟩

set_option maxHeartbeats 1000000 in
set_option maxRecDepth 1000000 in
theorem open_any (w : World) (a0 : Option Addr) (b off cap : Nat) (cs : ByteArray) (hs : cs.size ≤ 1048576) (hcap : cs.size ≤ cap) (ha : 0 < cs.size → a0 = some ⟨b, off, none⟩) (hc : ∀ j, j < cs.size → w.cell? ⟨b, off + j, none⟩ = some (bts cs j)) :
    Calls Tryz.prog 22 #[.slice a0 cs.size cap] w fun e w' => ∃ n, n = min cs.size 600 ∧ e = .returned (.pointer (some ⟨w.heap.size, 0, none⟩)) ∧ RdAt w' w.heap.size a0 b off n cap cs 0 ∧ Below w.heap.size w w' := by
  by_cases h : 600 < cs.size
  · obtain rfl := ha (by omega)
    have t0 : decide ((600 : Int) < (cs.size : Int)) = true := decide_eq_true (by omega)
    have HC := hide hc
    clear hc ha
    go_enter Tryz.func22, Tryz.ntmps22
    go_wp2
    go_ret
    exact ⟨600, by omega, rfl, rd_new _ _ _ _ (by omega) (fun _ => rfl) HC.out, (Below.refl _ _).alloc (Nat.le_refl _) _⟩
  · have t0 : decide ((600 : Int) < (cs.size : Int)) = false := decide_eq_false (by omega)
    have HC := hide hc
    clear hc
    go_enter Tryz.func22, Tryz.ntmps22
    go_wp2
    go_ret
    exact ⟨cs.size, by omega, rfl, rd_new _ _ _ _ (Nat.le_refl _) ha HC.out, (Below.refl _ _).alloc (Nat.le_refl _) _⟩

theorem grown_bytes (W : World) (x : ByteArray) (row : Option Nat) : W.grownBy (Lib.bytesWorld W 5 x) row := ⟨rfl, rfl, rfl, by rw [Lib.bytesWorld_size]; omega, fun k hk _ => Lib.bytesWorld_at_old W 5 x k hk⟩
theorem grown_trans {a b c : World} {R : Nat} (h : a.grownBy b (some R)) (k : b.grownBy c none) (_ : R < a.heap.size) : a.grownBy c (some R) :=
  ⟨k.os.trans h.os, k.tape.trans h.tape, k.output.trans h.output, Nat.le_trans h.size k.size, fun j hj hne => (k.block j (Nat.lt_of_lt_of_le hj h.size) (by simp)).trans (h.block j hj hne)⟩
theorem grown_trans0 {a b c : World} (h : a.grownBy b none) (k : b.grownBy c none) : a.grownBy c none :=
  ⟨k.os.trans h.os, k.tape.trans h.tape, k.output.trans h.output, Nat.le_trans h.size k.size, fun j hj hne => (k.block j (Nat.lt_of_lt_of_le hj h.size) hne).trans (h.block j hj hne)⟩
theorem bytes_out (W : World) (x : ByteArray) (l : List Nat) (hl : x.data.toList.map (fun c => c.toNat) = l) : ∀ j, j < l.length → (Lib.bytesWorld W 5 x).cell? ⟨W.heap.size, j, none⟩ = some (.int .u8 (l.getD j 0 : Nat)) := fun j hj => by
  have hz : j < x.size := by rw [← hl, List.length_map, Array.length_toList] at hj; exact hj
  rw [Lib.bytesWorld_cell W 5 x j hz, ← hl]
  have h' : j < x.data.size := hz
  simp only [List.getD, List.getElem?_map, Array.getElem?_toList, Array.getElem?_eq_getElem h']
  rfl
/-- The drawn words. -/
def dw : List (List UInt8) := [[], [97], [98, 55], [80, 97, 99, 107, 32, 195, 165], [226, 130, 172], [240, 159, 152, 128, 120], [116, 97, 98, 9, 110, 101, 119, 10], [34, 113, 92], [100, 111, 99, 107], [127], [65, 49], [122]]
def dwN (k : Nat) : List Nat := (dw.getD k []).map fun c => c.toNat
theorem dwN_le (k : Nat) : (dwN k).length ≤ 8 := by
  have h : ∀ j : Fin 12, (dwN j.val).length ≤ 8 := by decide
  by_cases hk : k < 12
  · exact h ⟨k, hk⟩
  · unfold dwN
    rw [List.getD_eq_getElem?_getD, List.getElem?_eq_none (by show 12 ≤ k; omega)]
    simp
def dwc : Array Value := (dw.map fun l => Value.string ⟨l.toArray⟩).toArray
theorem dwc_at (j : Nat) (h : j < 12) : dwc[j]? = some (.string ⟨(dw.getD j []).toArray⟩) := by
  have h' : j < dw.length := h
  unfold dwc
  rw [List.getElem?_toArray, List.getElem?_map]
  simp [List.getD, List.getElem?_eq_getElem h']

set_option maxHeartbeats 1000000 in
set_option maxRecDepth 1000000 in
theorem drawText_any (w : World) (R : Nat) (a0 : Option Addr) (b off n cap : Nat) (cs : ByteArray) (i : Nat) (hn : n ≤ 600) (h : RdAt w R a0 b off n cap cs i) :
    Calls Tryz.prog 41 #[.pointer (some ⟨R, 0, none⟩)] w fun e w' => ∃ g c, e = .returned (.slice (some ⟨g, 0, none⟩) (dwN (nx cs n i % 12)).length c) ∧ w.heap.size ≤ g ∧ (∀ j, j < (dwN (nx cs n i % 12)).length → w'.cell? ⟨g, j, none⟩ = some (.int .u8 ((dwN (nx cs n i % 12)).getD j 0 : Nat))) ∧ w.grownBy w' (some R) ∧ RdAt w' R a0 b off n cap cs (i + 1) := by
  have HN := hide (next_any w R a0 b off n cap cs i hn h)
  have hR := h.lt
  have hv := nx_lt cs n i
  obtain ⟨v, hv'⟩ : ∃ v, nx cs n i = v := ⟨_, rfl⟩
  rw [hv'] at HN hv ⊢
  obtain ⟨k, hk⟩ : ∃ k, v % 12 = k := ⟨_, rfl⟩
  have hk12 : k < 12 := by omega
  have hmod : (v : Int).tmod 12 = (k : Int) := by rw [← hk]; exact Int.ofNat_tmod v 12 |>.symm
  rw [hk]
  clear hv' h
  go_enter Tryz.func41, Tryz.ntmps41
  go_wp2_with fail
  refine HN.out.mono ?_
  rintro e w1 ⟨rfl, hg1, hr1⟩
  have HG1 := hide hg1
  have HR1 := hide hr1
  clear hg1 hr1
  have hcv := fun W x => Lib.run_convert_string_bytes (P := Tryz.prog) W 9 22 5 x Tryz.underlying9 Tryz.underlying22 Tryz.underlying5
  have hcase : k = 0 ∨ k = 1 ∨ k = 2 ∨ k = 3 ∨ k = 4 ∨ k = 5 ∨ k = 6 ∨ k = 7 ∨ k = 8 ∨ k = 9 ∨ k = 10 ∨ k = 11 := by omega
  have HFIN : Hid (∀ (cells : Array Value) (x : ByteArray) (l : List Nat), x.data.toList.map (fun c => c.toNat) = l → w.heap.size ≤ w1.heap.size + 1 ∧ (∀ j, j < l.length → (Lib.bytesWorld (w1.alloc (.cells cells 9)) 5 x).cell? ⟨w1.heap.size + 1, j, none⟩ = some (.int .u8 (l.getD j 0 : Nat))) ∧ w.grownBy (Lib.bytesWorld (w1.alloc (.cells cells 9)) 5 x) (some R) ∧ RdAt (Lib.bytesWorld (w1.alloc (.cells cells 9)) 5 x) R a0 b off n cap cs (i + 1)) := fun cells x l hl => by
    have hga : w1.grownBy (w1.alloc (.cells cells 9)) none := World.grownBy_alloc w1 _ none
    have hgb := grown_bytes (w1.alloc (.cells cells 9)) x none
    have hz : (w1.alloc (.cells cells 9)).heap.size = w1.heap.size + 1 := by simp
    have hsz := HG1.out.size
    refine ⟨by omega, fun j hj => ?_, ?_, ?_⟩
    · rw [← hz]; exact bytes_out _ x l hl j hj
    · exact grown_trans HG1.out (grown_trans0 hga hgb) hR
    · exact (HR1.out.kept hga (by simp) (fun _ => by simp)).kept hgb (by simp) (fun _ => by simp)
  rcases hcase with rfl | rfl | rfl | rfl | rfl | rfl | rfl | rfl | rfl | rfl | rfl | rfl
  all_goals
    go_wp2
    go_ret
    exact ⟨w1.heap.size + 1, _, rfl, HFIN.out _ _ _ rfl⟩
end Go.Proofs.YtlkbnljbnahdbacGreatDoor
