/-
  The walk of the row's iterator, and of impl.Reach.
-/
import Derived.Test.YtonhehndoifipabJReachIME
import Derived.Shelf.Abstract
import Derived.Shelf.RegionOpen
import Derived.WalkKit
import Derived.OwnWalkIn
import Derived.TacticsInMore
import Derived.LoopNIn
import Derived.LoopIn
namespace Go.Proofs.Ytonhehndoifipab
open Go.RowKit Go.Shelf

attribute [local go_sem] Oper.semAt_some

/-- What is left to be done, read off the world. -/
def muW (B RW : Nat) (W : World) : Nat → Nat
  | 0 => match W.cell? ⟨RW, 0, none⟩ with | some (.slice _ k _) => k | _ => 0
  | n + 1 => muW B RW W n + (match W.cell? ⟨B, n, none⟩ with | some (.bool true) => 0 | _ => 1)
theorem muW_wt {RX RW B G n : Nat} {M : Nat → Bool} {L : List Int} {W : World} (h : Wt RX RW B G n M L W) : ∀ k, k ≤ n → muW B RW W k = cntF M k + L.length
  | 0, _ => by
    obtain ⟨v, h1, h2⟩ := h.rw
    unfold muW cntF
    rw [h1.cell]
    rcases h2.2 with ⟨h3, h4⟩ | ⟨g, c, cur, hv, _⟩
    · rw [h3, h4]
    · rw [hv]; simp
  | k + 1, hk => by
    unfold muW cntF
    rw [muW_wt h k (by omega), h.row.cell (by omega)]
    cases hM : M k
    · simp; omega
    · simp

/-- How it stands: x is taken, if any is. -/
structure Rel (g : Gr) (F : List Int) (RX RW B G n : Nat) (w0 : World) (x : Option Int) (M : Nat → Bool) (L : List Int) (W : World) : Prop where
  wt : Wt RX RW B G n M L W
  bel : Below w0.heap.size w0 W
  snd : ∀ c : Nat, c < n → M c = true → Rch (eds g) F (c : Int)
  bas : ∀ c ∈ F, M c.toNat = true
  cls : ∀ c : Nat, c < n → M c = true → (c : Int) ∈ L ∨ x = some (c : Int) ∨ ∀ y ∈ nxt g c, M y.toNat = true
  lin : ∀ y ∈ L, 0 ≤ y ∧ y < n ∧ M y.toNat = true
  xin : ∀ y, x = some y → 0 ≤ y ∧ y < n ∧ M y.toNat = true
  mea : cntF M n + L.length ≤ n

/-- What take answers. -/
def TkPost (g : Gr) (F : List Int) (RX RW B G n : Nat) (w0 : World) (J Rd : World → Prop) (W : World) (e : Ending) (W' : World) : Prop :=
  (e = .returned (.tuple #[.int .i64 0, .bool false]) ∧ muW B RW W' n ≤ muW B RW W n ∧ (∃ M, Rel g F RX RW B G n w0 none M [] W') ∧ J W' ∧ Rd W') ∨
  ∃ x : Int, e = .returned (.tuple #[.int .i64 x, .bool true]) ∧ (∃ M L, Rel g F RX RW B G n w0 (some x) M L W') ∧ muW B RW W' n + 1 = muW B RW W n ∧ J W' ∧ Rd W'

theorem take_rel (g : Gr) (F : List Int) (RX RW B G n : Nat) (w0 : World) (J Rd : World → Prop) (W : World) (hn : n ≤ 1600) (g2 : RW < G) (h2 : w0.heap.size ≤ RW) (hG0 : w0.heap.size ≤ G) (d1 : RX ≠ RW) (d3 : RW ≠ B) (g1 : RX < G) (g3 : B < G)
    (hJ : ∀ A A', J A → Chg [RW] G A A' → J A') (hRd : ∀ {A A' : World}, Rd A → KeepsOthers A A' → Rd A')
    (h0 : ∃ M L, Rel g F RX RW B G n w0 none M L W) (hj : J W) (hr : Rd W) :
    Calls Try.prog 30 #[.pointer (some ⟨RW, 0, none⟩)] W (TkPost g F RX RW B G n w0 J Rd W) := by
  obtain ⟨M, L, h⟩ := h0
  obtain ⟨v, hb, ho⟩ := h.wt.rw
  rcases List.eq_nil_or_concat L with rfl | ⟨L', x, rfl⟩
  · refine (take_nil RW G v W hb ho).mono ?_
    rintro e W' ⟨rfl, rfl⟩
    exact .inl ⟨rfl, Nat.le_refl _, ⟨M, h⟩, hj, hr⟩
  · rw [List.concat_eq_append] at h ho
    have hmea := h.mea
    rw [List.length_append, List.length_singleton] at hmea
    refine (take_one RW G v L' x W hb ho g2 (by omega)).mono ?_
    rintro e W' ⟨rfl, v', hb', ho', hc⟩
    have hw' := h.wt.put d1 d3 g1 g3 hb' ho' hc
    refine .inr ⟨x, rfl, ⟨M, L', hw', h.bel.trans (hc.below (fun k hk => by rw [List.mem_singleton.1 hk]; exact h2) hG0), h.snd, h.bas, fun c hc1 hc2 => ?_, fun y hy => h.lin y (List.mem_append_left _ hy), fun y hy => ?_, by omega⟩, ?_, hJ _ _ hj hc, hRd hr hc.oth⟩
    · rcases h.cls c hc1 hc2 with h1 | h1 | h1
      · rcases List.mem_append.1 h1 with h1 | h1
        · exact .inl h1
        · exact .inr (.inl (by rw [List.mem_singleton.1 h1]))
      · cases h1
      · exact .inr (.inr h1)
    · cases hy
      exact h.lin x (List.mem_append_right _ (List.mem_singleton.2 rfl))
    · rw [muW_wt hw' n (Nat.le_refl _), muW_wt h.wt n (Nat.le_refl _), List.length_append, List.length_singleton]
      omega

/-- Is one taken? -/
def okN : Value → Nat
  | .bool true => 1
  | _ => 0

set_option maxRecDepth 1000000 in
set_option maxHeartbeats 2000000 in
theorem rest1_in (m : Nat) (hm : 1 ≤ m) (l : Nat) (g : Gr) (F : List Int) (RX RW B G n RR : Nat) (w0 : World) (J : World → Prop) (Rd : World → Prop) (W : World) (hn : n ≤ 1600) (g2 : RW < G)
    (h2 : w0.heap.size ≤ RW) (hG0 : w0.heap.size ≤ G) (d1 : RX ≠ RW) (d3 : RW ≠ B) (g1 : RX < G) (g3 : B < G)
    (hJ : ∀ A A', J A → Chg [RW] G A A' → J A') (hJR : ∀ A, J A → Boxed A RR 57 (.pointer (some ⟨RW, 0, none⟩)))
    (hRd : ∀ {A A' : World}, Rd A → KeepsOthers A A' → Rd A')
    (hY : ∀ (x : Int) W1, (∃ M L, Rel g F RX RW B G n w0 (some x) M L W1) → J W1 → Rd W1 → YieldAt Fence.wide (m - 1) Try.prog l #[.int .i64 x] W1 fun e W' => e = .returned (.bool true) ∧ (∃ M L, Rel g F RX RW B G n w0 none M L W' ∧ muW B RW W' n ≤ muW B RW W1 n) ∧ J W' ∧ Rd W')
    (h0 : ∃ M L, Rel g F RX RW B G n w0 none M L W) (hj : J W) (hr : Rd W) :
    CallsIn Fence.wide m Try.prog 29 #[.func (.yield l) #[] #[], .pointer (some ⟨RR, 0, none⟩)] W fun e W' => (∃ v, e = .returned v) ∧ (∃ M, Rel g F RX RW B G n w0 none M [] W') ∧ J W' ∧ Rd W' := by
  refine callsIn_of_wp Try.func29 rfl trivial ?_ rfl
  simp only [Try.ntmps29, List.size_toArray, List.length_cons, List.length_nil, Nat.reduceAdd, Nat.reduceSub, Array.replicate_succ, Array.replicate_zero, List.push_toArray, List.append_toArray, List.nil_append, List.cons_append]
  have c0 := (hJR _ hj).cell
  have HTK := hide (fun W (h0 : ∃ M L, Rel g F RX RW B G n w0 none M L W) (hj : J W) (hr : Rd W) => take_rel g F RX RW B G n w0 J Rd W hn g2 h2 hG0 d1 d3 g1 g3 hJ hRd h0 hj hr)
  have HJR := hide hJR
  have HY := hide hY
  have H0 := hide h0
  have HJ0 := hide hj
  have HR0 := hide hr
  clear hJR hY h0 hj hr hJ
  gi_wp2_with fail
  refine ⟨trivial, (callsIn_wide.2 (HTK.out W H0.out HJ0.out HR0.out)).mono ?_⟩
  intro e W1 htk
  have HTP := hide htk
  clear htk c0
  have HSTART : Hid (∃ it ok : Value, e = .returned (.tuple #[it, ok]) ∧ ((ok = .bool false ∧ it = .int .i64 0 ∧ (∃ M, Rel g F RX RW B G n w0 none M [] W1) ∧ J W1 ∧ Rd W1) ∨ ∃ x : Int, it = .int .i64 x ∧ ok = .bool true ∧ (∃ M L, Rel g F RX RW B G n w0 (some x) M L W1) ∧ J W1 ∧ Rd W1)) := by
    rcases HTP.out with ⟨h1, _, h2, h3, h4⟩ | ⟨x, h1, h2, _, h3, h4⟩
    · exact ⟨_, _, h1, .inl ⟨rfl, rfl, h2, h3, h4⟩⟩
    · exact ⟨_, _, h1, .inr ⟨x, rfl, rfl, h2, h3, h4⟩⟩
  clear HTP
  obtain ⟨it, ok, rfl, hst⟩ := HSTART.out
  have HST := hide hst
  clear hst HSTART
  gi_wp2_with fail
  gi_loopw [3, 4] (fun it ok wr => (ok = .bool false ∧ (∃ z : Int, it = .int .i64 z) ∧ (∃ M, Rel g F RX RW B G n w0 none M [] wr) ∧ J wr ∧ Rd wr) ∨ ∃ x : Int, it = .int .i64 x ∧ ok = .bool true ∧ (∃ M L, Rel g F RX RW B G n w0 (some x) M L wr) ∧ J wr ∧ Rd wr) (fun _ ok wr => muW B RW wr n + okN ok)
  case atStart =>
    rcases HST.out with ⟨h1, h2, h3⟩ | h
    · exact .inl ⟨h1, ⟨0, h2⟩, h3⟩
    · exact .inr h
  case round =>
    clear HST H0 HJ0 HR0
    rcases hrel with ⟨rfl, ⟨z, rfl⟩, hre, hj, hr⟩ | ⟨x, rfl, rfl, hre, hj, hr⟩
    · have HF := hide (And.intro hre (And.intro hj hr))
      clear hre hj hr
      gi_wp2
      refine ⟨fun _ h => (by cases h), ?_⟩
      gi_wp2
      exact ⟨rfl, _, results_none rfl _ _ _, ⟨_, rfl⟩, HF.out⟩
    · obtain ⟨fn, tmps, assign, body, hy, hR⟩ := HY.out x wr hre hj hr
      have HR := hide hR
      clear hR hre hj hr
      gi_wp2_with fail
      refine HR.out.mono ?_
      rintro e W2 ⟨rfl, ⟨M, L, hre2, hmu⟩, hj2, hr2⟩
      have c2 := (HJR.out W2 hj2).cell
      have HT2 := hide (HTK.out W2 ⟨M, L, hre2⟩ hj2 hr2)
      have HMU := hide hmu
      clear hre2 hmu hj2 hr2
      gi_wp2_with fail
      refine ⟨trivial, (callsIn_wide.2 HT2.out).mono ?_⟩
      intro e W3 htk
      have HTP := hide htk
      clear htk c2
      have HST : Hid (∃ it ok : Value, e = .returned (.tuple #[it, ok]) ∧ muW B RW W3 n + okN ok ≤ muW B RW W2 n ∧ ((ok = .bool false ∧ (∃ z : Int, it = .int .i64 z) ∧ (∃ M, Rel g F RX RW B G n w0 none M [] W3) ∧ J W3 ∧ Rd W3) ∨ ∃ x : Int, it = .int .i64 x ∧ ok = .bool true ∧ (∃ M L, Rel g F RX RW B G n w0 (some x) M L W3) ∧ J W3 ∧ Rd W3)) := by
        rcases HTP.out with ⟨h1, h2, h3, h4, h5⟩ | ⟨x, h1, h2, h3, h4, h5⟩
        · exact ⟨_, _, h1, by show muW B RW W3 n + 0 ≤ _; omega, .inl ⟨rfl, ⟨0, rfl⟩, h3, h4, h5⟩⟩
        · exact ⟨_, _, h1, by show muW B RW W3 n + 1 ≤ _; omega, .inr ⟨x, rfl, rfl, h2, h4, h5⟩⟩
      clear HTP
      obtain ⟨it2, ok2, rfl, hms, hst⟩ := HST.out
      have HMS := hide hms
      have HS3 := hide hst
      clear hst HST hms
      gi_wp2_with fail
      go_roundw
      case rel => exact HS3.out
      case measure =>
        have h1 := HMS.out
        have h2 := HMU.out
        show muW B RW W3 n + okN ok2 < muW B RW wr n + 1
        omega
end Go.Proofs.Ytonhehndoifipab
