/-
  The walk of impl.allWithin.
  The walk of impl.packedSize.
-/
import Derived.Test.YtpnocklldlacjaaDoorJEncodeImageIN0
import Derived.BigQuiet
import Derived.Deep.QuietTactic
import Derived.Test.YtpnocklldlacjaaDoorJEncodeImagePH
namespace Go.Proofs.YtpnocklldlacjaaDoor
open Go.RowKit

set_option maxHeartbeats 1000000 in
set_option maxRecDepth 1000000 in
theorem outside_any (x lo hi : Int) (B1 B2 : Nat) (w : World) (h1 : w.cell? ⟨B1, 0, none⟩ = some (.int .i64 lo)) (h2 : w.cell? ⟨B2, 0, none⟩ = some (.int .i64 hi)) :
    Calls Tryd.prog 82 #[.int .i64 x, .pointer (some ⟨B1, 0, none⟩), .pointer (some ⟨B2, 0, none⟩)] w fun e w' => e = .returned (.bool (decide (x < lo) || decide (hi < x))) ∧ Below w.heap.size w w' := by
  by_cases q : x < lo
  · have t : decide (x < lo) = true := decide_eq_true q
    rw [t, Bool.true_or]
    go_enter Tryd.func82, Tryd.ntmps82
    go_wp2
    go_ret
    exact ⟨rfl, Below.refl _ _⟩
  have t : decide (x < lo) = false := decide_eq_false q
  rw [t, Bool.false_or]
  by_cases q2 : hi < x
  · have t2 : decide (hi < x) = true := decide_eq_true q2
    rw [t2]
    go_enter Tryd.func82, Tryd.ntmps82
    go_wp2
    go_ret
    exact ⟨rfl, Below.refl _ _⟩
  have t2 : decide (hi < x) = false := decide_eq_false q2
  rw [t2]
  go_enter Tryd.func82, Tryd.ntmps82
  go_wp2
  go_ret
  exact ⟨rfl, Below.refl _ _⟩

/-- Some number of a list lies outside. -/
def SomeOut (L : List Int) (lo hi : Int) : Prop := ∃ i, i < L.length ∧ (L.getD i 0 < lo ∨ hi < L.getD i 0)

set_option maxHeartbeats 2000000 in
set_option maxRecDepth 1000000 in
theorem indexOut_any (v : Value) (L : List Int) (lo hi : Int) (B1 B2 : Nat) (w : World) (h1 : w.cell? ⟨B1, 0, none⟩ = some (.int .i64 lo)) (h2 : w.cell? ⟨B2, 0, none⟩ = some (.int .i64 hi)) (hl : (L.length : Int) ≤ 9223372036854775807) (h : IS w v L) :
    Calls Tryd.prog 89 #[v, .func (.func 82) #[] #[.pointer (some ⟨B1, 0, none⟩), .pointer (some ⟨B2, 0, none⟩)]] w fun e w' => (∃ r : Int, e = .returned (.int .i64 r) ∧ (0 ≤ r ↔ SomeOut L lo hi)) ∧ Below w.heap.size w w' := by
  obtain ⟨a, b, o, c, rfl, ha, hc⟩ := h
  have HC := hide hc
  have H1 := hide h1
  have H2 := hide h2
  clear hc h1 h2
  go_enter Tryd.func89, Tryd.ntmps89
  go_wp2
  go_loopw [8] (fun ix wr => ∃ k : Nat, k ≤ L.length ∧ ix = .int .i64 k ∧ (∀ i, i < k → ¬ (L.getD i 0 < lo ∨ hi < L.getD i 0)) ∧ Below w.heap.size w wr) (fun ix _ => L.length - (intOf ix).toNat)
  case atStart => exact ⟨0, Nat.zero_le _, rfl, fun _ h => absurd h (Nat.not_lt_zero _), Below.refl _ _⟩
  case round =>
    obtain ⟨k, hk, rfl, hne, hbl⟩ := hrel
    have HNE := hide hne
    have HB := hide hbl
    clear hne
    by_cases hlt : k < L.length
    · have hlti : (k : Int) < (L.length : Int) := by omega
      obtain rfl := ha (by omega)
      have hcell := cell_kept (HC.out k hlt) hbl
      obtain ⟨x, hx⟩ : ∃ x, L.getD k 0 = x := ⟨_, rfl⟩
      rw [hx] at hcell
      have HX := hide hx
      have HW := hide (outside_any x lo hi B1 B2 wr (cell_kept H1.out hbl) (cell_kept H2.out hbl))
      obtain ⟨g, hg⟩ : ∃ g, (decide (x < lo) || decide (hi < x)) = g := ⟨_, rfl⟩
      rw [hg] at HW
      have HG := hide hg
      clear hx hbl hg
      cases g with
      | true =>
        have HR : Hid (SomeOut L lo hi) := ⟨k, hlt, by
          rw [HX.out]
          have := HG.out
          simpa using this⟩
        go_wp2_with fail
        refine HW.out.mono ?_
        rintro e w5 ⟨rfl, hb5⟩
        have HB5 : Hid (Below w.heap.size w w5) := HB.out.trans (hb5.mono HB.out.size)
        clear hb5
        go_wp2
        go_ret
        exact ⟨⟨k, rfl, ⟨fun _ => HR.out, fun _ => by omega⟩⟩, HB5.out⟩
      | false =>
        have HNE1 : Hid (∀ i, i < k + 1 → ¬ (L.getD i 0 < lo ∨ hi < L.getD i 0)) := fun i hi => by
          by_cases e : i = k
          · subst e
            rw [HX.out]
            have := HG.out
            simpa using this
          · exact HNE.out i (by omega)
        go_wp2_with fail
        refine HW.out.mono ?_
        rintro e w5 ⟨rfl, hb5⟩
        have HB5 : Hid (Below w.heap.size w w5) := HB.out.trans (hb5.mono HB.out.size)
        clear hb5
        go_wp2
        go_roundw
        case rel => exact ⟨k + 1, by omega, by go_num, HNE1.out, HB5.out⟩
        case measure => simp [intOf]; omega
    · have hge : ¬ (k : Int) < (L.length : Int) := by omega
      clear hbl
      go_wp2
      go_ret
      exact ⟨⟨-1, rfl, ⟨fun h => by omega, fun ⟨i, hi, he⟩ => absurd he (HNE.out i (by omega))⟩⟩, HB.out⟩

set_option maxHeartbeats 1000000 in
set_option maxRecDepth 1000000 in
theorem containsOut_any (v : Value) (L : List Int) (lo hi : Int) (B1 B2 : Nat) (w : World) (h1 : w.cell? ⟨B1, 0, none⟩ = some (.int .i64 lo)) (h2 : w.cell? ⟨B2, 0, none⟩ = some (.int .i64 hi)) (hl : (L.length : Int) ≤ 9223372036854775807) (h : IS w v L) :
    Calls Tryd.prog 81 #[v, .func (.func 82) #[] #[.pointer (some ⟨B1, 0, none⟩), .pointer (some ⟨B2, 0, none⟩)]] w fun e w' => Ans (SomeOut L lo hi) e ∧ Below w.heap.size w w' := by
  have HI := hide (indexOut_any v L lo hi B1 B2 w h1 h2 hl h)
  clear h1 h2 h
  go_enter Tryd.func81, Tryd.ntmps81
  go_wp2_with fail
  refine HI.out.mono ?_
  rintro e w5 ⟨⟨r, rfl, hr⟩, hb5⟩
  have HB5 := hide hb5
  have HR := hide hr
  clear hb5 hr
  by_cases q : 0 ≤ r
  · have t : decide (0 ≤ r) = true := decide_eq_true q
    go_wp2
    go_ret
    exact ⟨Ans.yes (HR.out.1 q), HB5.out⟩
  · have t : decide (0 ≤ r) = false := decide_eq_false q
    go_wp2
    go_ret
    exact ⟨Ans.no (fun h => absurd (HR.out.2 h) (by omega)), HB5.out⟩

set_option maxHeartbeats 1000000 in
set_option maxRecDepth 1000000 in
theorem allWithin_any (v : Value) (L : List Int) (lo hi : Int) (w : World) (hl : (L.length : Int) ≤ 9223372036854775807) (h : IS w v L) :
    Calls Tryd.prog 64 #[v, .int .i64 lo, .int .i64 hi] w fun e w' => Ans (∀ i, i < L.length → lo ≤ L.getD i 0 ∧ L.getD i 0 ≤ hi) e ∧ Below w.heap.size w w' := by
  obtain ⟨W1, hW1⟩ : ∃ W, w.alloc (.cells #[.int .i64 lo] 3) = W := ⟨_, rfl⟩
  obtain ⟨W2, hW2⟩ : ∃ W, W1.alloc (.cells #[.int .i64 hi] 3) = W := ⟨_, rfl⟩
  have hb1 : Below w.heap.size w W1 := by rw [← hW1]; exact (Below.refl _ _).alloc (Nat.le_refl _) _
  have hb2 : Below W1.heap.size W1 W2 := by rw [← hW2]; exact (Below.refl _ _).alloc (Nat.le_refl _) _
  have c1 : W1.cell? ⟨w.heap.size, 0, none⟩ = some (.int .i64 lo) := by rw [← hW1]; simp
  have c2 : W2.cell? ⟨W1.heap.size, 0, none⟩ = some (.int .i64 hi) := by rw [← hW2]; simp
  have hb := hb1.trans (hb2.mono hb1.size)
  have hs1 : W1.heap.size = w.heap.size + 1 := by rw [← hW1, World.size_alloc]
  have HC := hide (containsOut_any v L lo hi w.heap.size W1.heap.size W2 (cell_kept c1 hb2) c2 hl (h.below hb))
  rw [hs1] at HC
  have HB := hide hb
  obtain ⟨a, c, rfl⟩ := h.slice
  have HW : Hid ((w.alloc (.cells #[.int .i64 lo] 3)).alloc (.cells #[.int .i64 hi] 3) = W2) := by show _ = _; rw [hW1, hW2]
  clear h hb hb1 hb2 c1 c2 hs1 hW1 hW2
  go_enter Tryd.func64, Tryd.ntmps64
  go_wp2_with fail
  rw [HW.out]
  refine HC.out.mono ?_
  rintro e w5 ⟨hr, hb5⟩
  have HB5 : Hid (Below w.heap.size w w5) := HB.out.trans (hb5.mono HB.out.size)
  clear hb5
  obtain ⟨g, rfl, hr⟩ := hr
  cases g with
  | true =>
    have HR := hide (hr.1 rfl)
    clear hr
    go_wp2
    go_ret
    refine ⟨Ans.no ?_, HB5.out⟩
    intro h
    obtain ⟨i, h1, he⟩ := HR.out
    have := h i h1
    omega
  | false =>
    have HR : Hid (¬ SomeOut L lo hi) := fun h => by have := hr.2 h; cases this
    clear hr
    go_wp2
    go_ret
    refine ⟨Ans.yes ?_, HB5.out⟩
    intro i h1
    have h2 : ¬ (L.getD i 0 < lo ∨ hi < L.getD i 0) := fun h => HR.out ⟨i, h1, h⟩
    omega
end Go.Proofs.YtpnocklldlacjaaDoor

namespace Go.Proofs.YtpnocklldlacjaaDoor
open Go.RowKit

set_option maxHeartbeats 1000000 in
set_option maxRecDepth 1000000 in
theorem packedSize_any (n : Nat) (w : World) (hn : n ≤ 9223372036854775807) :
    Calls Tryd.prog 65 #[.int .i64 n] w fun e w' => e = .returned (.int .i64 (((3 * n + 7) / 8 : Nat) : Int)) ∧ w' = w := by
  have HR : Hid ((n : Int) / 8 * 3 + ((n : Int) % 8 * 3 + 7) / 8 = (((3 * n + 7) / 8 : Nat) : Int)) := by show _ = _; omega
  go_enter Tryd.func65, Tryd.ntmps65
  go_wp2
  go_ret
  exact ⟨by rw [← HR.out]; rfl, rfl⟩
end Go.Proofs.YtpnocklldlacjaaDoor
