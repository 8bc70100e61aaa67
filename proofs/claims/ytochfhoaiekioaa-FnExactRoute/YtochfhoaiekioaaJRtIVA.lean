/-
  The walks of slices.Values and of the function that it answers, at edges.
  Rows and boxes told apart by their types.
-/
import Derived.Test.YtochfhoaiekioaaJRtKP
import Derived.Test.YtochfhoaiekioaaJRtSRW
import Derived.Sort.QuietIn
import Derived.BigQuiet
import Derived.Test.YtochfhoaiekioaaJRtMK
namespace Go.Proofs.Ytochfhoaiekioaa
open Go.RowKit Go.Shelf

attribute [local go_sem] Oper.semAt_some

set_option maxRecDepth 1000000 in
set_option maxHeartbeats 1000000 in
theorem values_any (a : Option Addr) (L c : Nat) (w : World) :
    Calls Try.prog 34 #[.slice a L c] w fun e w' => e = .returned (.func (.func 45) #[] #[.pointer (some ⟨w.heap.size, 0, none⟩)]) ∧ w' = w.alloc (.cells #[.slice a L c] 47) := by
  go_enter Try.func34, Try.ntmps34
  go_wp2
  go_ret
  exact ⟨rfl, rfl⟩

set_option maxRecDepth 1000000 in
set_option maxHeartbeats 4000000 in
theorem values1_in (n : Nat) (hn : 1 ≤ n) (l B1 D c : Nat) (S : List Ed) (a : Option Addr) (hm : S.length ≤ 1048576) (ha : 0 < S.length → a = some ⟨D, 0, none⟩) (J : Nat → World → Prop) (W : World) (hal : ∀ k W o, J k W → J k (W.alloc o))
    (hE : ∀ k W, J k W → ∀ j, j < S.length → EdC W D (j * 4) (S.getD j .nul))
    (hY : ∀ k W1, k < S.length → J k W1 → YieldAt Fence.wide (n - 1) Try.prog l #[edagg (S.getD k .nul)] W1 fun e W' => e = .returned (.bool true) ∧ J (k + 1) W')
    (hB1 : W.cell? ⟨B1, 0, none⟩ = some (.slice a S.length c)) (h0 : J 0 W) :
    CallsIn Fence.wide n Try.prog 45 #[.func (.yield l) #[] #[], .pointer (some ⟨B1, 0, none⟩)] W fun e W' => (∃ v, e = .returned v) ∧ J S.length W' := by
  have HAL := hide hal
  have HY := hide hY
  have H0 := hide h0
  have HE := hide hE
  clear hal hY h0 hE
  refine callsIn_of_wp Try.func45 rfl trivial ?_ rfl
  simp only [Try.ntmps45, List.size_toArray, List.length_cons, List.length_nil, Nat.reduceAdd, Nat.reduceSub, Array.replicate_succ, Array.replicate_zero, List.push_toArray, List.append_toArray, List.nil_append, List.cons_append]
  gi_wp2
  gi_loopw [7] (fun ix wr => ∃ k : Nat, ix = .int .i64 k ∧ k ≤ S.length ∧ Hid (J k wr)) (fun ix _ => S.length - (intOf ix).toNat)
  case atStart => exact ⟨0, rfl, Nat.zero_le _, H0⟩
  case round =>
    obtain ⟨k, rfl, hk, HJS⟩ := hrel
    clear hB1
    by_cases hlt : k < S.length
    · have hqi : (k : Int) < (S.length : Int) := by omega
      obtain rfl := ha (by omega)
      have hE1 := HE.out k wr HJS.out k hlt
      obtain ⟨x, hx⟩ : ∃ x, S.getD k .nul = x := ⟨_, rfl⟩
      rw [hx] at hE1
      have HX := hide hx
      have p0 : wr.cell? ⟨D, k * 4, none⟩ = some (.int .i64 x.f) := hE1.f
      have p1 : wr.cell? ⟨D, k * 4 + 1, none⟩ = some (.int .i64 x.t) := hE1.t
      have p2 : wr.cell? ⟨D, k * 4 + 2, none⟩ = some (.int .i64 x.d) := hE1.d
      have p3 : wr.cell? ⟨D, k * 4 + 3, none⟩ = some (.int .i64 x.c) := hE1.c
      obtain ⟨WA, hWA⟩ : ∃ W, wr.alloc (.cells #[.int .i64 x.f, .int .i64 x.t, .int .i64 x.d, .int .i64 x.c] 50) = W := ⟨_, rfl⟩
      have HJA : Hid (J k WA) := by rw [← hWA]; exact HAL.out k wr _ HJS.out
      have HWA := hide hWA
      clear hE1 hx hWA
      obtain ⟨fn, tmps, assign, body, hy, hR⟩ := HY.out k WA hlt HJA.out
      rw [HX.out] at hy
      unfold edagg at hy
      rw [← HWA.out] at hy
      gi_wp2_with fail
      rw [HWA.out]
      refine hR.mono ?_
      rintro e W3 ⟨rfl, hJ3⟩
      have HJ3 := hide hJ3
      clear hJ3 hy hR p0 p1 p2 p3
      gi_wp2
      go_roundw
      case rel => exact ⟨k + 1, by first | rfl | go_num, by omega, HJ3⟩
      case measure => simp [intOf]; omega
    · have hqi : ¬ (k : Int) < (S.length : Int) := by omega
      obtain rfl : k = S.length := by omega
      gi_wp2
      go_end0
      exact ⟨⟨_, rfl⟩, HJS.out⟩
end Go.Proofs.Ytochfhoaiekioaa

namespace Go.Proofs.Ytochfhoaiekioaa
open Go.RowKit

/-- A row of the call's own stays where its block stays. -/
theorem own_typed {w w' : World} {B e sz n : Nat} {v : Value} {xs : List Value} (h : w.ownsRow B e sz v n xs) (hk : ∀ g cur, Blk w g e cur → Blk w' g e cur) : w'.ownsRow B e sz v n xs := by
  refine ⟨h.1, ?_⟩
  rcases h.2 with hn | ⟨g, cap, cur, hv, hb, hgg, rest⟩
  · exact .inl hn
  · exact .inr ⟨g, cap, cur, hv, hb, hk g cur hgg, rest⟩
/-- Behind an append the blocks of other types are as they were. -/
theorem app_typed {w w' : World} {B b e sz n : Nat} {v : Value} {xs : List Value} {t : TypeId} {cs : Array Value} (h : Blk w b t cs) (ht : t ≠ e) (hown : w.ownsRow B e sz v n xs) (hg : w.grownBy w' v.ownBlock) : Blk w' b t cs := by
  refine (hg.block b h.lt (fun q => ht ?_)).trans h
  rcases hown.2 with ⟨rfl, _⟩ | ⟨g, cap, cur, rfl, _, hgg, _⟩
  · simp [Value.ownBlock] at q
  · simp only [Value.ownBlock, Option.some.injEq] at q
    subst q
    unfold Blk at h
    rw [h] at hgg
    injection hgg with h1
    injection h1 with _ h2
theorem set_typed {w : World} {M k g : Nat} {v : Value} {t T : TypeId} {cs cs0 : Array Value} (hM : Blk w M T cs0) (h : Blk w g t cs) (ht : t ≠ T) : Blk (w.setCell ⟨M, k, none⟩ v) g t cs :=
  h.other k v (fun e => by
    subst e
    unfold Blk at h hM
    rw [h] at hM
    injection hM with h1
    injection h1 with _ h2
    exact ht h2)
theorem wrs_new {bl : List Nat} {w w' : World} {M k : Nat} {v : Value} (h : Wrs bl w w') (hM : w.heap.size ≤ M) : Wrs bl w (w'.setCell ⟨M, k, none⟩ v) :=
  ⟨h.os, h.tape, h.output, by rw [World.size_setCell]; exact h.size, fun g hg hb => (Below.heap_setCell _ _ _ _ (by show g ≠ M; omega)).trans (h.blk g hg hb)⟩
theorem own_base {w : World} {B B' e sz n : Nat} {v : Value} {xs : List Value} (h : w.ownsRow B e sz v n xs) (hB : B' ≤ B) : w.ownsRow B' e sz v n xs := by
  refine ⟨h.1, ?_⟩
  rcases h.2 with h | ⟨g, cap, cur, h1, h2, h3⟩
  · exact .inl h
  · exact .inr ⟨g, cap, cur, h1, Nat.le_trans hB h2, h3⟩
theorem wrs_blk {w w' : World} {g k : Nat} {t : TypeId} {cs : Array Value} (hw : Wrs [g] w w') (h : Blk w k t cs) (hk : k ≠ g) : Blk w' k t cs := (hw.blk k h.lt (by simp; exact hk)).trans h
theorem wrs_far {bl : List Nat} {w0 w w' : World} {B e sz n : Nat} {v : Value} {xs : List Value} (h : Wrs bl w0 w) (hB : w0.heap.size ≤ B) (hown : w.ownsRow B e sz v n xs) (hg : w.grownBy w' v.ownBlock) : Wrs bl w0 w' := by
  have h1 : Below w0.heap.size w w' := (Below.refl _ w).grown hg h.size (fun k hk => by have := (hown.lt k hk).1; omega)
  exact ⟨h1.os.trans h.os, h1.tape.trans h.tape, h1.output.trans h.output, Nat.le_trans h.size h1.size, fun g hg hb => (h1.block g hg).trans (h.blk g hg hb)⟩
end Go.Proofs.Ytochfhoaiekioaa
