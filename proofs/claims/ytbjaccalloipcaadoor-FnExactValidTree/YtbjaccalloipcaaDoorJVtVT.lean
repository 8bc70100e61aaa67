/-
  The walk of impl.ValidTree.
  The walk of spec.l1good.
  The walk of spec.l1good at any slice.
-/
import Derived.Test.YtbjaccalloipcaaDoorJVtVB
import Derived.Test.YtbjaccalloipcaaDoorJVtK
import Derived.Test.YtbjaccalloipcaaDoorJVtIN0
namespace Go.Proofs.YtbjaccalloipcaaDoor
open Go.RowKit

/-- Whether a list of nodes is a valid tree. -/
def vT (L : List Nd) : Bool := decide (0 < L.length) && (decide (L.length ≤ 4000) && (((L.getD 0 .zero).kind == 0) && (bE L.length (cn L) (okN L) (stN L) 60 0 == L.length)))
theorem vT_none {L : List Nd} (h : L.length = 0) : vT L = false := by unfold vT; rw [decide_eq_false (by omega), Bool.false_and]
theorem vT_long {L : List Nd} (h : ¬ L.length ≤ 4000) : vT L = false := by unfold vT; rw [decide_eq_false h, Bool.false_and, Bool.and_false]
theorem vT_kind {L : List Nd} (h : (L.getD 0 .zero).kind ≠ 0) : vT L = false := by unfold vT; rw [beq_eq_false_iff_ne.2 h, Bool.false_and, Bool.and_false, Bool.and_false]
theorem vT_end {L : List Nd} (h0 : 0 < L.length) (h1 : L.length ≤ 4000) (h2 : (L.getD 0 .zero).kind = 0) : vT L = (bE L.length (cn L) (okN L) (stN L) 60 0 == L.length) := by
  unfold vT; rw [decide_eq_true h0, decide_eq_true h1, beq_iff_eq.2 h2, Bool.true_and, Bool.true_and, Bool.true_and]

set_option maxHeartbeats 1000000 in
set_option maxRecDepth 1000000 in
theorem implValid_any (v : Value) (L : List Nd) (w : World) (hl : L.length ≤ 1048576) (hz : ∀ j, j < L.length → NB (L.getD j .zero)) (h : NS w v L) (hT : Lib.Utf8Tabs 0 1 w) :
    Calls Tryd.prog 7 #[v] w fun e w' => e = .returned (.bool (vT L)) ∧ Below w.heap.size w w' := by
  by_cases h0 : L.length = 0
  · obtain ⟨a, b, o, c, rfl, ha, hc⟩ := h
    have HV := hide (vT_none h0)
    rw [h0]
    clear ha hc h0 hl hz hT
    go_enter Tryd.func7, Tryd.ntmps7
    go_wp2
    go_ret
    exact ⟨by rw [HV.out]; rfl, Below.refl _ _⟩
  have d0 : ((L.length : Int) == 0) = false := by rw [beq_eq_false_iff_ne]; omega
  by_cases h1 : ¬ L.length ≤ 4000
  · obtain ⟨a, b, o, c, rfl, ha, hc⟩ := h
    have HV := hide (vT_long h1)
    have d1 : decide ((4000 : Int) < (L.length : Int)) = true := decide_eq_true (by omega)
    clear ha hc h0 hz hT h1
    go_enter Tryd.func7, Tryd.ntmps7
    go_wp2
    go_ret
    exact ⟨by rw [HV.out]; rfl, Below.refl _ _⟩
  have h1' : L.length ≤ 4000 := by omega
  have d1 : decide ((4000 : Int) < (L.length : Int)) = false := decide_eq_false (by omega)
  have HC := hide (branchEnd_any v L hl hz 60 (Nat.le_refl _) 1 (by omega) 0 w (by omega) h hT)
  obtain ⟨a, b, o, c, rfl, ha, hc⟩ := h
  obtain rfl := ha (by omega)
  obtain ⟨vt, vn, vy, hN, _⟩ := hc 0 (by omega)
  have g0 := hN.kind
  rw [Nat.zero_mul, Nat.add_zero] at g0
  by_cases h2 : (L.getD 0 .zero).kind = 0
  · have HV := hide (vT_end (by omega) h1' h2)
    rw [h2] at g0
    obtain ⟨V, hV⟩ : ∃ V, vT L = V := ⟨_, rfl⟩
    obtain ⟨E, hE⟩ : ∃ E, bE L.length (cn L) (okN L) (stN L) 60 0 = E := ⟨_, rfl⟩
    rw [hV, hE] at HV
    rw [hE] at HC
    rw [hV, HV.out]
    have e2 := nat_beq E L.length
    have HE := hide e2
    have hlI : (0 : Int) < (L.length : Int) := by omega
    clear ha hc hN hz hT h1 h1' h2 hE hV e2 h0
    go_enter Tryd.func7, Tryd.ntmps7
    go_wp2_with fail
    refine HC.out.mono ?_
    rintro e w1 ⟨rfl, hb1⟩
    have HB := hide hb1
    clear hb1
    go_wp2
    go_ret
    exact ⟨by rw [← HE.out]; rfl, HB.out⟩
  · have HV := hide (vT_kind h2)
    have d2 : ((L.getD 0 .zero).kind != 0) = true := by rw [bne_iff_ne]; exact h2
    obtain ⟨kk, hkk⟩ : ∃ kk, (L.getD 0 .zero).kind = kk := ⟨_, rfl⟩
    rw [hkk] at g0 d2
    have hlI : (0 : Int) < (L.length : Int) := by omega
    clear ha hc hN hz hT h1 h1' h2 hkk h0
    go_enter Tryd.func7, Tryd.ntmps7
    go_wp2
    go_ret
    exact ⟨by rw [HV.out]; rfl, Below.refl _ _⟩
end Go.Proofs.YtbjaccalloipcaaDoor

namespace Go.Proofs.YtbjaccalloipcaaDoor
open Go.RowKit

set_option maxHeartbeats 400000 in
theorem good_any (b off cap : Nat) (s : ByteArray) (w : World) (hs : s.size ≤ 1048576) (hc : ∀ j, j < s.size → w.cell? ⟨b, off + j, none⟩ = some (bts s j)) :
    Calls Tryd.prog 32 #[.slice (some ⟨b, off, none⟩) s.size cap] w fun e w' => e = .returned (.bool (((chk s).1 : Int) == 0)) ∧ Below w.heap.size w w' := by
  have H0 := specCheck_any b off cap s w hs hc
  obtain ⟨A, D, hAD⟩ : ∃ A D, chk s = (A, D) := ⟨_, _, rfl⟩
  rw [pairVal_of hAD] at H0
  rw [hAD]
  have H := hide H0
  clear hc H0 hAD
  go_enter Tryd.func32, Tryd.ntmps32
  go_wp2_with (go_at_call 46; refine H.out.mono ?_; rintro e w1 ⟨rfl, hb1⟩)
  go_ret
  exact ⟨rfl, hb1⟩
end Go.Proofs.YtbjaccalloipcaaDoor

namespace Go.Proofs.YtbjaccalloipcaaDoor
open Go.RowKit

set_option maxHeartbeats 400000 in
theorem specCheck_none (a : Option Addr) (c : Nat) (w : World) :
    Calls Tryd.prog 46 #[.slice a 0 c] w fun e w' => e = .returned (.tuple #[.int .i64 0, .int .i64 0]) ∧ Below w.heap.size w w' := by
  go_enter Tryd.func46, Tryd.ntmps46
  go_wp2
  go_loopw [4] (fun i wr => i = .int .i64 0 ∧ wr = w) (fun _ _ => 0)
  case atStart => exact ⟨rfl, rfl⟩
  case round =>
    obtain ⟨rfl, rfl⟩ := hrel
    go_wp2
    go_ret2
    exact ⟨rfl, Below.refl _ _⟩

set_option maxHeartbeats 400000 in
theorem good_bs {w : World} {v : Value} {s : ByteArray} (hs : s.size ≤ 1048576) (h : BS w v s) :
    Calls Tryd.prog 32 #[v] w fun e w' => e = .returned (.bool (((chk s).1 : Int) == 0)) ∧ Below w.heap.size w w' := by
  obtain ⟨a, b, o, c, rfl, ha, hc⟩ := h
  by_cases h0 : 0 < s.size
  · obtain rfl := ha h0
    exact good_any b o c s w hs hc
  · have e : s = ByteArray.empty := ext_bytes (show s.size = 0 by omega) (fun j hj => by omega)
    subst e
    have H := hide (specCheck_none a c w)
    have e2 : (((chk ByteArray.empty).1 : Int) == 0) = true := by decide
    rw [e2]
    have e3 : ByteArray.empty.size = 0 := rfl
    rw [e3]
    clear ha hc h0 e2 e3 hs
    go_enter Tryd.func32, Tryd.ntmps32
    go_wp2_with (go_at_call 46; refine H.out.mono ?_; rintro e w1 ⟨rfl, hb1⟩)
    go_ret
    exact ⟨rfl, hb1⟩
end Go.Proofs.YtbjaccalloipcaaDoor
