/-
  The walks of slices.Chunk and of the function that it answers, at two.
-/
import Derived.Test.YtpnocklldlacjaaDoorJDecodeImageIRH
import Derived.Test.YtpnocklldlacjaaDoorJDecodeImageIRH
import Derived.Sort.QuietIn
import Derived.BigQuiet
namespace Go.Proofs.YtpnocklldlacjaaDoor
open Go.RowKit Go.Shelf

attribute [local go_sem] Oper.semAt_some

def encP (b o m : Nat) (k : Fin m) : Array Value := #[.slice (some ⟨b, o + 2 * k.1, none⟩) 2 2]
/-- What the iterator needs stays. -/
def KpC (n₀ B1 B2 : Nat) (W W' : World) : Prop := Below n₀ W W' ∧ W'.cell? ⟨B1, 0, none⟩ = W.cell? ⟨B1, 0, none⟩ ∧ W'.cell? ⟨B2, 0, none⟩ = W.cell? ⟨B2, 0, none⟩
theorem kpC_t {n₀ B1 B2 : Nat} {A B C : World} (h : KpC n₀ B1 B2 A B) (k : KpC n₀ B1 B2 B C) : KpC n₀ B1 B2 A C := ⟨h.1.trans k.1, k.2.1.trans h.2.1, k.2.2.trans h.2.2⟩

set_option maxRecDepth 1000000 in
set_option maxHeartbeats 1000000 in
theorem chunk_in (n : Nat) (a : Option Addr) (L c : Nat) (w : World) :
    CallsIn Fence.wide n Tryd.prog 85 #[.slice a L c, .int .i64 2] w fun e w' => e = .returned (.func (.func 90) #[] #[.pointer (some ⟨w.heap.size, 0, none⟩), .pointer (some ⟨w.heap.size + 1, 0, none⟩)]) ∧ w' = (w.alloc (.cells #[.slice a L c] 37)).alloc (.cells #[.int .i64 2] 3) := by
  refine callsIn_of_wp Tryd.func85 rfl trivial ?_ rfl
  simp only [Tryd.ntmps85, List.size_toArray, List.length_cons, List.length_nil, Nat.reduceAdd, Nat.reduceSub, Array.replicate_succ, Array.replicate_zero, List.push_toArray, List.append_toArray, List.nil_append, List.cons_append]
  gi_wp2
  go_ret
  exact ⟨rfl, rfl⟩

set_option maxRecDepth 1000000 in
set_option maxHeartbeats 4000000 in
theorem chunk1_in (n : Nat) (hn : 1 ≤ n) (l B1 B2 b o c m : Nat) (a : Option Addr) (hm : m ≤ 1600) (ha : 0 < m → a = some ⟨b, o, none⟩) (hc : 2 * m ≤ c) (J Jx : List (Fin m) → World → Prop) (W w0 : World) (n₀ : Nat) (hJ : AbidesFrom W.heap.size J)
    (hY : ∀ pre x W1, J pre W1 → pre.length < m → YieldAt Fence.wide (n - 1) Tryd.prog l (encP b o m x) W1 fun e W' =>
      (e = .returned (.bool true) ∧ J (pre ++ [x]) W' ∧ KpC n₀ B1 B2 W1 W') ∨ (e = .returned (.bool false) ∧ Jx (pre ++ [x]) W'))
    (hB1 : W.cell? ⟨B1, 0, none⟩ = some (.slice a (2 * m) c)) (hB2 : W.cell? ⟨B2, 0, none⟩ = some (.int .i64 2)) (hW : Below n₀ w0 W) (h0 : J [] W) :
    CallsIn Fence.wide n Tryd.prog 90 #[.func (.yield l) #[] #[], .pointer (some ⟨B1, 0, none⟩), .pointer (some ⟨B2, 0, none⟩)] W fun e W' => (∃ v, e = .returned v) ∧
      ((∃ ys, ys = fr m m ∧ J ys W') ∨ (∃ pre, pre <+: fr m m ∧ Jx pre W')) := by
  have HJ := hide hJ
  have HY := hide hY
  have HW := hide hW
  have H0 := hide h0
  clear hJ hY hW h0
  refine callsIn_of_wp Tryd.func90 rfl trivial ?_ rfl
  simp only [Tryd.ntmps90, List.size_toArray, List.length_cons, List.length_nil, Nat.reduceAdd, Nat.reduceSub, Array.replicate_succ, Array.replicate_zero, List.push_toArray, List.append_toArray, List.nil_append, List.cons_append]
  gi_wp2
  gi_loopw [4] (fun ix wr => ∃ k : Nat, ix = .int .i64 ((2 * k : Nat) : Int) ∧ k ≤ m ∧ J (fr m k) wr ∧ Below n₀ w0 wr ∧ W.heap.size ≤ wr.heap.size ∧ wr.cell? ⟨B1, 0, none⟩ = some (.slice a (2 * m) c) ∧ wr.cell? ⟨B2, 0, none⟩ = some (.int .i64 2)) (fun ix _ => 2 * m - (intOf ix).toNat)
  case atStart => exact ⟨0, rfl, Nat.zero_le _, H0.out, HW.out, Nat.le_refl _, hB1, hB2⟩
  case round =>
    obtain ⟨k, rfl, hk, hJs, hbl, hWs, c1, c2⟩ := hrel
    have HJS := hide hJs
    have HBL := hide hbl
    clear hJs hbl hB1 hB2
    obtain ⟨q, hq⟩ : ∃ q, 2 * k = q := ⟨_, rfl⟩
    obtain ⟨L, hL⟩ : ∃ L, 2 * m = L := ⟨_, rfl⟩
    rw [hq]
    rw [hL] at c1
    by_cases hlt : k < m
    · have hqi : (q : Int) < (L : Int) := by omega
      have hqc : (q : Int) ≤ (c : Int) := by omega
      have hLc : (L : Int) ≤ (c : Int) := by omega
      obtain rfl := ha (by omega)
      have hlen : (fr m k).length < m := by rw [fr_len k hk]; exact hlt
      have hq2 : (q : Int) + 2 ≤ (L : Int) := by omega
      have hqq : (q : Int) ≤ (L : Int) := by omega
      have C1 := hide c1
      have C2 := hide c2
      have hmn : min (2 : Int) ((L - q : Nat) : Int) = 2 := by omega
      have HLEN := hide hlen
      clear hlen
      gi_wp2
      refine wpIn_region_quiet_lit rfl (by kernel_rfl) (by kernel_rfl) ?_
      repeat (gi_big_quiet_step (fail))
      refine wpQuietIn_nil ?_
      rintro _ ⟨nq, rfl⟩
      obtain ⟨fn, tmps, assign, body, hy, hR⟩ := HY.out (fr m k) ⟨k, hlt⟩ (wr.drewN nq) (HJ.out _ wr (wr.drewN nq) none HJS.out (below_grown (below_drewN (Below.refl _ _) nq)) (fun r e => by cases e)) HLEN.out
      dsimp only [encP] at hy
      rw [hq] at hy
      rw [← fr_succ hlt] at hR
      have hqs : q + 2 - q = 2 := by omega
      gi_wp2_with fail
      refine hR.mono ?_
      rintro e W3 hc3
      obtain ⟨bb, rfl, hc4⟩ := yc_of hc3
      have HC := hide hc4
      clear hc3 hc4 hy hR c1 c2
      rcases HC.out with ⟨rfl, hJ3, hk3⟩ | ⟨rfl, hJx3⟩
      · have HJ3 := hide hJ3
        have HK3 := hide hk3
        have x1 : W3.cell? ⟨B1, 0, none⟩ = some (.slice (some ⟨b, o, none⟩) L c) := hk3.2.1.trans C1.out
        have x2 : W3.cell? ⟨B2, 0, none⟩ = some (.int .i64 2) := hk3.2.2.trans C2.out
        have hWs3 : W.heap.size ≤ W3.heap.size := Nat.le_trans hWs hk3.1.size
        clear hJ3 hk3 HC
        gi_wp2
        go_roundw
        case rel => exact ⟨k + 1, by congr 1; omega, by omega, HJ3.out, (below_drewN HBL.out nq).trans HK3.out.1, hWs3, by rw [hL]; exact x1, x2⟩
        case measure => simp [intOf]; omega
      · clear HC
        gi_wp2
        refine bodyPost_ret (results_none rfl _ _ _) rfl ?_
        have hpf : fr m (k + 1) <+: fr m m := by
          have h := fr_pre (m := m) (k + 1) (m - (k + 1))
          rw [show k + 1 + (m - (k + 1)) = m by omega] at h
          exact h
        exact ⟨⟨_, rfl⟩, .inr ⟨_, hpf, hJx3⟩⟩
    · have hqi : ¬ (q : Int) < (L : Int) := by omega
      obtain rfl : k = m := by omega
      gi_wp2
      go_end0
      exact ⟨⟨_, rfl⟩, .inl HJS.out⟩
theorem chunk_stops (n : Nat) (hn : 1 ≤ n) (B1 B2 b o c m : Nat) (a : Option Addr) (hm : m ≤ 1600) (ha : 0 < m → a = some ⟨b, o, none⟩) (hc : 2 * m ≤ c) (w w0 : World) (n₀ : Nat) (hn0 : n₀ ≤ w.heap.size)
    (hB1 : w.cell? ⟨B1, 0, none⟩ = some (.slice a (2 * m) c)) (hB2 : w.cell? ⟨B2, 0, none⟩ = some (.int .i64 2)) (hW : Below n₀ w0 w) :
    SeqStopsK Fence.wide n Tryd.prog 90 #[.pointer (some ⟨B1, 0, none⟩), .pointer (some ⟨B2, 0, none⟩)] (encP b o m) (KpC n₀ B1 B2) (fun ys => ys = fr m m) (fun pre => pre <+: fr m m) m w := fun l J Jx W hb hJ _ hY h0 =>
  chunk1_in n hn l B1 B2 b o c m a hm ha hc J Jx W w0 n₀ hJ hY (by rw [hb.cell (p := ⟨B1, 0, none⟩) (World.block_lt_of_cell? _ _ hB1)]; exact hB1) (by rw [hb.cell (p := ⟨B2, 0, none⟩) (World.block_lt_of_cell? _ _ hB2)]; exact hB2) (hW.trans (hb.mono hn0)) h0
theorem kpC_b {n₀ B1 B2 : Nat} {w : World} (hn : n₀ ≤ w.heap.size) (hB : B1 < w.heap.size) (hB' : B2 < w.heap.size) (W : World) (l : Nat) (o o' : Obj) (hl : w.heap.size ≤ l) (h : W.heap[l]? = some o) (h1 : o.isCells = false) (h2 : o.isWalk = false) : KpC n₀ B1 B2 W (W.putObj l o') :=
  ⟨belowK_b hn W l o o' hl h h1 h2, (belowK_b (n₀ := B1 + 1) (w := w) hB W l o o' hl h h1 h2).cell (p := ⟨B1, 0, none⟩) (Nat.lt_succ_self _), (belowK_b (n₀ := B2 + 1) (w := w) hB' W l o o' hl h h1 h2).cell (p := ⟨B2, 0, none⟩) (Nat.lt_succ_self _)⟩
end Go.Proofs.YtpnocklldlacjaaDoor
