/-
  impl's checker in memory; its small functions.
  Rows of types.
  The walks of impl's typeGiven and takes.
  The walks of impl's variable, fits and expression.
-/
import Derived.Test.YtdlahabeegmjiaaDoorJCkIKN
import Derived.Test.YtdlahabeegmjiaaDoorJCkIKH
namespace Go.Proofs.YtdlahabeegmjiaaDoor
open Go.RowKit

/-- A checker in the block C, over the outline that stands in the world w1. -/
structure CiA (w1 V : World) (tv : Value) (L : List Nd) (B MM C S M : Nat) (s : Ci) (bv : Value) (n : Nat) : Prop where
  blk : Blk V C 53 #[tv, .slice (some ⟨B, 0, none⟩) L.length L.length, .map (some MM), .pointer (some ⟨S, 0, none⟩), .int .i64 (s.nf : Nat), .int .i64 (s.tf : Nat)]
  sc : ScA V S M bv s.vars n
  bl : Below w1.heap.size w1 V
  lm : w1.heap.size ≤ M
  lc : w1.heap.size ≤ C
  cx : ∀ k, ScX S M bv k → k ≠ C
/-- What the world w1 holds of the tree. -/
structure OlR (w1 : World) (tv : Value) (L : List Nd) (B MM : Nat) : Prop where
  ns : NS w1 tv L
  vt : vT L = true
  kid : ∀ j, j < L.length → KdR w1 (B + 1) B L j
  mac : ∃ n, MapS w1 MM n (macZ L)
theorem CiA.gw {P : Nat → Prop} {w1 V V' : World} {tv : Value} {L : List Nd} {B MM C S M n : Nat} {s : Ci} {bv : Value} (h : CiA w1 V tv L B MM C S M s bv n) (hg : Gw P V V') (hp : ∀ k, P k → V.heap.size ≤ k) : CiA w1 V' tv L B MM C S M s bv n := by
  have hlt : ∀ k, ScX S M bv k → k < V.heap.size := fun k hk => by
    rcases hk with rfl | rfl | hk
    · exact h.sc.blk.lt
    · exact h.sc.map.lt
    · exact (h.sc.row.lt k hk).2
  exact ⟨hg.blk h.blk (fun q => by have := hp _ q; have := h.blk.lt; omega), h.sc.gw hg (fun k hk q => by have := hp _ q; have := hlt k hk; omega), hg.below h.bl h.bl.size (fun k hk q => by have := hp _ q; have := h.bl.size; omega), h.lm, h.lc, h.cx⟩
theorem CiA.below {w1 V V' : World} {tv : Value} {L : List Nd} {B MM C S M n : Nat} {s : Ci} {bv : Value} (h : CiA w1 V tv L B MM C S M s bv n) (hb : Below V.heap.size V V') : CiA w1 V' tv L B MM C S M s bv n := h.gw (P := fun _ => False) (Gw.of_below hb) (fun _ q => q.elim)
theorem CiA.setN {w1 V : World} {tv : Value} {L : List Nd} {B MM C S M n : Nat} {s : Ci} {bv : Value} (h : CiA w1 V tv L B MM C S M s bv n) (i : Nat) : CiA w1 (V.setCell ⟨C, 4, none⟩ (.int .i64 (i : Nat))) tv L B MM C S M { s with nf := i } bv n :=
  ⟨h.blk.set 4 _, h.sc.gw (Gw.set V C 4 _) (fun k hk q => h.cx k hk q), h.bl.setCell h.lc _, h.lm, h.lc, h.cx⟩
theorem CiA.setT {w1 V : World} {tv : Value} {L : List Nd} {B MM C S M n : Nat} {s : Ci} {bv : Value} (h : CiA w1 V tv L B MM C S M s bv n) (i : Nat) : CiA w1 (V.setCell ⟨C, 5, none⟩ (.int .i64 (i : Nat))) tv L B MM C S M { s with tf := i } bv n :=
  ⟨h.blk.set 5 _, h.sc.gw (Gw.set V C 5 _) (fun k hk q => h.cx k hk q), h.bl.setCell h.lc _, h.lm, h.lc, h.cx⟩

set_option maxHeartbeats 1000000 in
set_option maxRecDepth 1000000 in
theorem fNf_any {w1 V : World} {tv : Value} {L : List Nd} {B MM C S M n : Nat} {s : Ci} {bv : Value} (h : CiA w1 V tv L B MM C S M s bv n) (i : Nat) :
    Calls Tryd.prog 51 #[.pointer (some ⟨C, 0, none⟩), .int .i64 (i : Nat)] V fun r V' => r = .returned (.tuple #[]) ∧ CiA w1 V' tv L B MM C S M (s.fN i) bv n ∧ Gw (· = C) V V' := by
  have g4 := h.blk.cell 4
  have f4 := h.blk.frozen 4
  simp only [List.getElem?_toArray, List.getElem?_cons_succ, List.getElem?_cons_zero] at g4
  by_cases q : s.nf = 0
  · have HS := hide (h.setN i)
    have HE : Hid (s.fN i = { s with nf := i }) := by show _ = _; unfold Ci.fN; rw [if_pos q]
    rw [q] at g4
    clear h q
    go_enter Tryd.func51, Tryd.ntmps51
    go_wp2
    go_end0
    rw [HE.out]
    exact ⟨rfl, HS.out, Gw.set _ _ _ _⟩
  · have HS := hide h
    have HE : Hid (s.fN i = s) := by show _ = _; unfold Ci.fN; rw [if_neg q]
    obtain ⟨m, hm⟩ : ∃ m, s.nf = m := ⟨_, rfl⟩
    rw [hm] at g4 q
    have t1 : ((m : Int) == 0) = false := by rw [beq_eq_false_iff_ne]; omega
    clear h hm q
    go_enter Tryd.func51, Tryd.ntmps51
    go_wp2
    go_end0
    rw [HE.out]
    exact ⟨rfl, HS.out, Gw.refl _ _⟩
set_option maxHeartbeats 1000000 in
set_option maxRecDepth 1000000 in
theorem fTf_any {w1 V : World} {tv : Value} {L : List Nd} {B MM C S M n : Nat} {s : Ci} {bv : Value} (h : CiA w1 V tv L B MM C S M s bv n) (i : Nat) :
    Calls Tryd.prog 73 #[.pointer (some ⟨C, 0, none⟩), .int .i64 (i : Nat)] V fun r V' => r = .returned (.tuple #[]) ∧ CiA w1 V' tv L B MM C S M (s.fT i) bv n ∧ Gw (· = C) V V' := by
  have g4 := h.blk.cell 5
  have f4 := h.blk.frozen 5
  simp only [List.getElem?_toArray, List.getElem?_cons_succ, List.getElem?_cons_zero] at g4
  by_cases q : s.tf = 0
  · have HS := hide (h.setT i)
    have HE : Hid (s.fT i = { s with tf := i }) := by show _ = _; unfold Ci.fT; rw [if_pos q]
    rw [q] at g4
    clear h q
    go_enter Tryd.func73, Tryd.ntmps73
    go_wp2
    go_end0
    rw [HE.out]
    exact ⟨rfl, HS.out, Gw.set _ _ _ _⟩
  · have HS := hide h
    have HE : Hid (s.fT i = s) := by show _ = _; unfold Ci.fT; rw [if_neg q]
    obtain ⟨m, hm⟩ : ∃ m, s.tf = m := ⟨_, rfl⟩
    rw [hm] at g4 q
    have t1 : ((m : Int) == 0) = false := by rw [beq_eq_false_iff_ne]; omega
    clear h hm q
    go_enter Tryd.func73, Tryd.ntmps73
    go_wp2
    go_end0
    rw [HE.out]
    exact ⟨rfl, HS.out, Gw.refl _ _⟩

set_option maxHeartbeats 1000000 in
set_option maxRecDepth 1000000 in
theorem opGv_any (op : Int) (w : World) : Calls Tryd.prog 82 #[.int .i64 op] w fun r w' => r = .returned (.int .i64 (opGv op)) ∧ w' = w := by
  by_cases h : op < 8
  · have d1 : decide (op < 8) = true := decide_eq_true h
    have HE : Hid (opGv op = 2) := by show _ = _; unfold opGv; rw [if_pos h]
    go_enter Tryd.func82, Tryd.ntmps82
    go_wp2
    go_ret
    exact ⟨by rw [HE.out]; rfl, rfl⟩
  · have d1 : decide (op < 8) = false := decide_eq_false h
    by_cases h8 : op = 8
    · subst h8
      go_enter Tryd.func82, Tryd.ntmps82
      go_wp2
      go_ret
      exact ⟨rfl, rfl⟩
    · have d2 : (op == 8) = false := by rw [beq_eq_false_iff_ne]; exact h8
      have HE : Hid (opGv op = 0) := by show _ = _; unfold opGv; rw [if_neg h, if_neg h8]
      clear h8 h
      go_enter Tryd.func82, Tryd.ntmps82
      go_wp2
      go_ret
      exact ⟨by rw [HE.out]; rfl, rfl⟩

set_option maxHeartbeats 1000000 in
set_option maxRecDepth 1000000 in
theorem opTk_any (op a b : Int) (w : World) : Calls Tryd.prog 86 #[.int .i64 op, .int .i64 a, .int .i64 b] w fun r w' => r = .returned (.bool (opTk op a b)) ∧ w' = w := by
  by_cases h01 : op = 0 ∨ op = 1
  · have HE : Hid (opTk op a b = (a == 2 && b == 2)) := by show _ = _; unfold opTk; rw [if_pos h01]
    cases ha : (a == 2) <;> cases hb : (b == 2) <;> rw [ha, hb] at HE <;> rcases h01 with rfl | rfl
    all_goals
      go_enter Tryd.func86, Tryd.ntmps86
      go_wp2
      go_ret
      exact ⟨by rw [HE.out]; rfl, rfl⟩
  · by_cases h23 : op = 2 ∨ op = 3
    · have HE : Hid (opTk op a b = (a == b)) := by show _ = _; unfold opTk; rw [if_neg h01, if_pos h23]
      rcases h23 with rfl | rfl
      all_goals
        go_enter Tryd.func86, Tryd.ntmps86
        go_wp2
        go_ret
        exact ⟨by rw [HE.out]; rfl, rfl⟩
    · by_cases h8 : op = 8
      · subst h8
        have HE : Hid (opTk 8 a b = (a != 2 && b != 2)) := rfl
        by_cases ha : a = 2
        · subst ha
          go_enter Tryd.func86, Tryd.ntmps86
          go_wp2
          go_ret
          exact ⟨by rw [HE.out]; rfl, rfl⟩
        · have t2 : (a != 2) = true := by rw [bne_iff_ne]; exact ha
          rw [t2] at HE
          clear ha
          go_enter Tryd.func86, Tryd.ntmps86
          go_wp2
          go_ret
          exact ⟨by rw [HE.out]; rfl, rfl⟩
      · have HE : Hid (opTk op a b = (a == 0 && b == 0)) := by show _ = _; unfold opTk; rw [if_neg h01, if_neg h23, if_neg h8]
        have e0 : (op == 0) = false := by rw [beq_eq_false_iff_ne]; exact fun h => h01 (.inl h)
        have e1 : (op == 1) = false := by rw [beq_eq_false_iff_ne]; exact fun h => h01 (.inr h)
        have e2 : (op == 2) = false := by rw [beq_eq_false_iff_ne]; exact fun h => h23 (.inl h)
        have e3 : (op == 3) = false := by rw [beq_eq_false_iff_ne]; exact fun h => h23 (.inr h)
        have e8 : (op == 8) = false := by rw [beq_eq_false_iff_ne]; exact h8
        clear h01 h23 h8
        cases ha : (a == 0) <;> cases hb : (b == 0) <;> rw [ha, hb] at HE
        all_goals
          go_enter Tryd.func86, Tryd.ntmps86
          go_wp2
          go_ret
          exact ⟨by rw [HE.out]; rfl, rfl⟩
end Go.Proofs.YtdlahabeegmjiaaDoor

namespace Go.Proofs.YtdlahabeegmjiaaDoor
open Go.RowKit

set_option maxHeartbeats 1000000 in
set_option maxRecDepth 1000000 in
theorem allInts_any {u : Value} {ts : List Int} {w : World} (h : IS w u ts) (hl : ts.length ≤ 1000000) : Calls Tryd.prog 85 #[u] w fun r w' => r = .returned (.bool (allI ts)) ∧ w' = w := by
  obtain ⟨a, b, o, c, rfl, ha, hc⟩ := h
  have HC := hide hc
  obtain ⟨F, hF⟩ : ∃ F, allI ts = F := ⟨_, rfl⟩
  have HF := hide hF
  rw [hF]
  clear hc hF
  go_enter Tryd.func85, Tryd.ntmps85
  go_wp2_with fail
  go_loopw [4, 7] (fun _ ix wr => ∃ k : Nat, k ≤ ts.length ∧ ix = .int .i64 k ∧ wr = w ∧ Hid (allI (ts.drop k) = F)) (fun _ ix _ => ts.length - (intOf ix).toNat)
  case atStart => exact ⟨0, Nat.zero_le _, rfl, rfl, by rw [List.drop_zero]; exact HF⟩
  case round =>
    obtain ⟨k, hk, rfl, rfl, HI⟩ := hrel
    by_cases hlt : k < ts.length
    · have hlti : (k : Int) < (ts.length : Int) := by omega
      obtain rfl := ha (by omega)
      have x0 := HC.out k hlt
      have e : allI (ts.drop k) = (ts.getD k 0 == 0 && allI (ts.drop (k + 1))) := by
        rw [List.drop_eq_getElem_cons hlt, List.getD_eq_getElem?_getD, List.getElem?_eq_getElem hlt]; rfl
      have HE := hide e
      obtain ⟨y, hy⟩ : ∃ y, ts.getD k 0 = y := ⟨_, rfl⟩
      rw [hy] at x0 HE
      clear e hy
      by_cases q : y = 0
      · subst q
        go_wp2
        go_roundw
        case rel => exact ⟨k + 1, by omega, by go_num, trivial, by have := HI.out; rw [HE.out] at this; exact this⟩
        case measure => simp [intOf]; omega
      · have t1 : (y != 0) = true := by rw [bne_iff_ne]; exact q
        have t0 : (y == 0) = false := by rw [beq_eq_false_iff_ne]; exact q
        have HQ : Hid (F = false) := by show _ = _; rw [← HI.out, HE.out, t0]; rfl
        clear q t0
        go_wp2
        go_ret
        exact ⟨by rw [HQ.out]; rfl, rfl⟩
    · obtain rfl : k = ts.length := by omega
      have hge : ¬ (ts.length : Int) < (ts.length : Int) := by omega
      have HQ : Hid (F = true) := by show _ = _; rw [← HI.out, List.drop_length]; rfl
      go_wp2
      go_ret
      exact ⟨by rw [HQ.out]; rfl, rfl⟩
def IdxQ (ts : List Int) (x z : Int) : Prop := decide (0 ≤ z) = ts.contains x
set_option maxHeartbeats 1000000 in
set_option maxRecDepth 1000000 in
theorem index_any {u : Value} {ts : List Int} {w : World} {x : Int} (h : IS w u ts) (hl : ts.length ≤ 1000000) : Calls Tryd.prog 83 #[u, .int .i64 x] w fun r w' => ∃ z : Int, r = .returned (.int .i64 z) ∧ IdxQ ts x z ∧ w' = w := by
  obtain ⟨a, b, o, c, rfl, ha, hc⟩ := h
  have HC := hide hc
  clear hc
  go_enter Tryd.func83, Tryd.ntmps83
  go_wp2_with fail
  go_loopw [5, 8] (fun _ ix wr => ∃ k : Nat, k ≤ ts.length ∧ ix = .int .i64 k ∧ wr = w ∧ Hid (∀ j, j < k → ts.getD j 0 ≠ x)) (fun _ ix _ => ts.length - (intOf ix).toNat)
  case atStart => exact ⟨0, Nat.zero_le _, rfl, rfl, fun j hj => absurd hj (Nat.not_lt_zero _)⟩
  case round =>
    obtain ⟨k, hk, rfl, rfl, HI⟩ := hrel
    by_cases hlt : k < ts.length
    · have hlti : (k : Int) < (ts.length : Int) := by omega
      obtain rfl := ha (by omega)
      have x0 := HC.out k hlt
      have HM : Hid (ts.getD k 0 ∈ ts) := by show _ ∈ _; rw [List.getD_eq_getElem?_getD, List.getElem?_eq_getElem hlt]; exact List.getElem_mem hlt
      obtain ⟨y, hy⟩ : ∃ y, ts.getD k 0 = y := ⟨_, rfl⟩
      rw [hy] at x0 HM
      have HY := hide hy
      clear hy
      by_cases q : x = y
      · subst q
        go_wp2
        go_ret
        exact ⟨_, rfl, by unfold IdxQ; rw [List.contains_iff_mem.2 HM.out]; simp, rfl⟩
      · have t1 : (x == y) = false := by rw [beq_eq_false_iff_ne]; exact q
        have HQ := hide q
        clear q
        go_wp2
        go_roundw
        case rel => exact ⟨k + 1, by omega, by go_num, trivial, fun j hj => by
          rcases Nat.lt_or_ge j k with w | w
          · exact HI.out j w
          · have : j = k := by omega
            rw [this, HY.out]; exact fun h => HQ.out h.symm⟩
        case measure => simp [intOf]; omega
    · obtain rfl : k = ts.length := by omega
      have hge : ¬ (ts.length : Int) < (ts.length : Int) := by omega
      have HQ : Hid (ts.contains x = false) := by
        show _ = _
        cases hcx : ts.contains x with
        | false => rfl
        | true =>
          obtain ⟨j, hj, hjx⟩ := List.getElem_of_mem (List.contains_iff_mem.1 hcx)
          exact absurd (by rw [List.getD_eq_getElem?_getD, List.getElem?_eq_getElem hj]; exact hjx) (HI.out j hj)
      go_wp2
      go_ret
      exact ⟨_, rfl, by unfold IdxQ; rw [HQ.out]; rfl, rfl⟩
set_option maxHeartbeats 1000000 in
set_option maxRecDepth 1000000 in
theorem contains_any {u : Value} {ts : List Int} {w : World} {x : Int} (h : IS w u ts) (hl : ts.length ≤ 1000000) : Calls Tryd.prog 71 #[u, .int .i64 x] w fun r w' => r = .returned (.bool (ts.contains x)) ∧ w' = w := by
  have HI := hide (index_any (x := x) h hl)
  obtain ⟨a, b, o, c, rfl, ha, hc⟩ := h
  clear ha hc
  obtain ⟨F, hF⟩ : ∃ F, ts.contains x = F := ⟨_, rfl⟩
  have HF := hide hF
  rw [hF]
  clear hF
  go_enter Tryd.func71, Tryd.ntmps71
  go_wp2_with fail
  refine HI.out.mono ?_
  rintro r w' ⟨z, rfl, hz, rfl⟩
  have HZ := hide hz
  clear hz
  go_wp2
  go_ret
  have h : decide (0 ≤ z) = ts.contains x := HZ.out
  exact ⟨by rw [← HF.out, ← h]; rfl, rfl⟩
set_option maxHeartbeats 1000000 in
set_option maxRecDepth 1000000 in
theorem equal_any {u v : Value} {ts us : List Int} {w : World} (h : IS w u ts) (h2 : IS w v us) (hl : ts.length ≤ 1000000) : Calls Tryd.prog 84 #[u, v] w fun r w' => r = .returned (.bool (decide (ts = us))) ∧ ∃ m, w' = w.drewN m := by
  obtain ⟨a, b, o, c, rfl, ha, hc⟩ := h
  obtain ⟨a2, b2, o2, c2, rfl, ha2, hc2⟩ := h2
  have HC := hide hc
  have HC2 := hide hc2
  clear hc hc2
  by_cases hle : ts.length = us.length
  · have hne : ((ts.length : Int) != (us.length : Int)) = false := by rw [hle]; simp
    have HL := hide hle
    clear hle
    go_enter Tryd.func84, Tryd.ntmps84
    go_wp2_with fail
    go_loopw [5, 13] (fun _ ix wr => ∃ k : Nat, k ≤ ts.length ∧ ix = .int .i64 k ∧ (∃ m, wr = w.drewN m) ∧ Hid (ts.take k = us.take k)) (fun _ ix _ => ts.length - (intOf ix).toNat)
    case atStart => exact ⟨0, Nat.zero_le _, rfl, ⟨0, rfl⟩, by rw [List.take_zero, List.take_zero]; exact rfl⟩
    case round =>
      obtain ⟨k, hk, rfl, ⟨m, rfl⟩, HI⟩ := hrel
      by_cases hlt : k < ts.length
      · have hlti : (k : Int) < (ts.length : Int) := by omega
        have hlt2 : k < us.length := by have := HL.out; omega
        have hlti2 : (k : Int) < (us.length : Int) := by omega
        obtain rfl := ha (by omega)
        obtain rfl := ha2 (by omega)
        have x0 := HC.out k hlt
        have y0 := HC2.out k hlt2
        have HT : Hid (ts.getD k 0 = us.getD k 0 → ts.take (k + 1) = us.take (k + 1)) := fun h => by
          rw [List.take_add_one, List.take_add_one, HI.out, List.getElem?_eq_getElem hlt, List.getElem?_eq_getElem hlt2]
          rw [List.getD_eq_getElem?_getD, List.getD_eq_getElem?_getD, List.getElem?_eq_getElem hlt, List.getElem?_eq_getElem hlt2] at h
          rw [show ts[k] = us[k] from h]
        have HN : Hid (ts.getD k 0 ≠ us.getD k 0 → ts ≠ us) := fun h q => h (by rw [q])
        obtain ⟨x, hx⟩ : ∃ y, ts.getD k 0 = y := ⟨_, rfl⟩
        obtain ⟨y, hy⟩ : ∃ y, us.getD k 0 = y := ⟨_, rfl⟩
        rw [hx] at x0 HT HN
        rw [hy] at y0 HT HN
        clear hx hy
        by_cases q : x = y
        · subst q
          go_wp2_with fail
          go_quiet (fail)
          go_wp2
          go_roundw
          case rel => exact ⟨k + 1, by omega, by go_num, ⟨_, rfl⟩, by first | exact HT.out rfl | exact HT.out trivial⟩
          case measure => simp [intOf]; omega
        · have t1 : (x != y) = true := by rw [bne_iff_ne]; exact q
          have HQ : Hid (decide (ts = us) = false) := decide_eq_false (HN.out q)
          clear q
          go_wp2_with fail
          go_quiet (fail)
          go_wp2
          go_ret
          exact ⟨by rw [HQ.out]; rfl, _, World.drewN_drewN _ _ _⟩
      · obtain rfl : k = ts.length := by omega
        have hge : ¬ (ts.length : Int) < (ts.length : Int) := by omega
        have HQ : Hid (decide (ts = us) = true) := by
          show _ = _
          have h := HI.out
          rw [List.take_of_length_le (Nat.le_refl _), List.take_of_length_le (by have := HL.out; omega)] at h
          exact decide_eq_true h
        go_wp2
        go_ret
        exact ⟨by rw [HQ.out]; rfl, _, rfl⟩
  · have hne : ((ts.length : Int) != (us.length : Int)) = true := by rw [bne_iff_ne]; omega
    have HQ : Hid (decide (ts = us) = false) := decide_eq_false (fun h => hle (by rw [h]))
    clear hle
    go_enter Tryd.func84, Tryd.ntmps84
    go_wp2
    go_ret
    exact ⟨by rw [HQ.out]; rfl, 0, rfl⟩
end Go.Proofs.YtdlahabeegmjiaaDoor

namespace Go.Proofs.YtdlahabeegmjiaaDoor
open Go.RowKit

set_option maxHeartbeats 2000000 in
set_option maxRecDepth 1000000 in
theorem tgI_any (d : Nd) (vt vn vy : Value) (w : World) : Calls Tryd.prog 70 #[nagg d vt vn vy] w fun r w' => r = .returned (.int .i64 (tgI d)) ∧ Below w.heap.size w w' := by
  obtain ⟨W1, hW1⟩ : ∃ W1, w.alloc (.cells #[.int .i64 d.kind, .int .i64 d.n, vt, vn, vy, .int .i64 d.count] 42) = W1 := ⟨_, rfl⟩
  have hB1 : Below w.heap.size w W1 := by rw [← hW1]; exact (Below.refl _ _).alloc (Nat.le_refl _) _
  have hBk : Blk W1 w.heap.size 42 #[.int .i64 d.kind, .int .i64 d.n, vt, vn, vy, .int .i64 d.count] := by rw [← hW1]; exact Blk.new _ _ _
  have g0 := hBk.cell 0
  have g1 := hBk.cell 1
  simp only [List.getElem?_toArray, List.getElem?_cons_succ, List.getElem?_cons_zero] at g0 g1
  have HG := hide (fun w => opGv_any d.n w)
  have HB := hide hB1
  obtain ⟨K, N, T, P, Y, Q⟩ := d
  unfold nagg
  simp only at g0 g1 hW1 HG ⊢
  clear hB1 hBk
  by_cases q17 : K = 17
  · subst q17
    go_enter Tryd.func70, Tryd.ntmps70
    go_wp2
    go_ret
    exact ⟨rfl, HB.out⟩
  have t17 : (K == 17) = false := by rw [beq_eq_false_iff_ne]; exact q17
  by_cases q18 : K = 18
  · subst q18
    go_enter Tryd.func70, Tryd.ntmps70
    go_wp2
    go_ret
    exact ⟨rfl, HB.out⟩
  have t18 : (K == 18) = false := by rw [beq_eq_false_iff_ne]; exact q18
  by_cases q21 : K = 21
  · subst q21
    go_enter Tryd.func70, Tryd.ntmps70
    go_wp2
    go_ret
    exact ⟨rfl, HB.out⟩
  have t21 : (K == 21) = false := by rw [beq_eq_false_iff_ne]; exact q21
  by_cases q20 : K = 20
  · subst q20
    have HE : Hid (tgI ⟨20, N, T, P, Y, Q⟩ = opGv N) := rfl
    go_enter Tryd.func70, Tryd.ntmps70
    go_wp2_with fail
    refine (HG.out _).mono ?_
    rintro r w' ⟨rfl, rfl⟩
    go_wp2
    go_ret
    exact ⟨by rw [HE.out]; rfl, HB.out⟩
  have t20 : (K == 20) = false := by rw [beq_eq_false_iff_ne]; exact q20
  have HE : Hid (tgI ⟨K, N, T, P, Y, Q⟩ = 0) := by show _ = _; unfold tgI; rw [if_neg q17, if_neg (by show ¬ (K = 18 ∨ K = 21); omega), if_neg q20]
  clear q17 q18 q21 q20
  go_enter Tryd.func70, Tryd.ntmps70
  go_wp2
  go_ret
  exact ⟨by rw [HE.out]; rfl, HB.out⟩

set_option maxHeartbeats 4000000 in
set_option maxRecDepth 1000000 in
theorem takes_any {w1 V : World} {tv u : Value} {L : List Nd} {B MM C S M n : Nat} {s : Ci} {bv : Value} {ts : List Int} (hR : OlR w1 tv L B MM) (hA : CiA w1 V tv L B MM C S M s bv n) {d : Nd} {vt vn vy : Value} (hd : SS w1 vn d.names) (h4 : d.kind = 4 → d.names.length = 1 ∧ ∀ p ∈ d.names, p.size ≤ 30) (hu : IS V u ts) (hl : ts.length ≤ 100000) (hcap : ∀ a l c, u = .slice a l c → l ≤ c) (h6 : d.kind = 6 ∨ d.kind = 21 → 0 < ts.length) (h20 : d.kind = 20 ∨ d.kind = 14 ∨ d.kind = 15 → 1 < ts.length) :
    Calls Tryd.prog 72 #[.pointer (some ⟨C, 0, none⟩), nagg d vt vn vy, u] V fun r V' => r = .returned (.bool (tkI L d ts)) ∧ Below V.heap.size V V' := by
  obtain ⟨K, N, T, P, Y, Q⟩ := d
  unfold nagg
  simp only at hd h4 h6 h20 ⊢
  obtain ⟨W1, hW1⟩ : ∃ W1, V.alloc (.cells #[.int .i64 K, .int .i64 N, vt, vn, vy, .int .i64 Q] 42) = W1 := ⟨_, rfl⟩
  have hB1 : Below V.heap.size V W1 := by rw [← hW1]; exact (Below.refl _ _).alloc (Nat.le_refl _) _
  have hBk : Blk W1 V.heap.size 42 #[.int .i64 K, .int .i64 N, vt, vn, vy, .int .i64 Q] := by rw [← hW1]; exact Blk.new _ _ _
  have g0 := hBk.cell 0
  have g1 := hBk.cell 1
  have g3 := hBk.cell 3
  simp only [List.getElem?_toArray, List.getElem?_cons_succ, List.getElem?_cons_zero] at g0 g1 g3
  have hA1 := hA.below hB1
  have c0 := hA1.blk.cell 0
  have c2 := hA1.blk.cell 2
  simp only [List.getElem?_toArray, List.getElem?_cons_succ, List.getElem?_cons_zero] at c0 c2
  have hu1 := hu.below hB1
  have HU := hide hu1
  have HB := hide hB1
  have HA1 := hide hA1
  have HR := hide hR
  have hub : Below w1.heap.size w1 W1 := hA1.bl
  have HAL := hide (allInts_any hu1 (by omega))
  have HOP := hide (fun a b W => opTk_any N a b W)
  obtain ⟨ua, ub, uo, uc, rfl, hua, huc⟩ := hu1
  by_cases q4 : K = 4
  · obtain ⟨hn1, hnz⟩ := h4 q4
    have HE : Hid (tkI L ⟨K, N, T, P, Y, Q⟩ ts = decide (ts = (ndA L (macZ L (P.getD 0 .empty))).types)) := by show _ = _; unfold tkI; exact if_pos q4
    obtain ⟨a2, nb, no, nc, rfl, hna, hnc⟩ := hd
    obtain rfl := hna (by omega)
    obtain ⟨nu, hnu, hbs⟩ := hnc 0 (by omega)
    rw [Nat.add_zero] at hnu
    have hnur := cell_kept hnu hub
    have hbsr := hbs.below hub
    have hz := hnz (P.getD 0 .empty) (by rw [List.getD_eq_getElem?_getD, List.getElem?_eq_getElem (by omega)]; exact List.getElem_mem _)
    obtain ⟨nm, hnm⟩ : ∃ y, P.getD 0 .empty = y := ⟨_, rfl⟩
    rw [hnm] at hbsr hz HE hbs
    have hcv1 : ∀ j, (convert 31 9 nu).run Tryd.prog (W1.drewN j) = .ok (.string nm) (W1.drewN j) := fun j => toStr_bs (hbsr.below (below_drewN (Below.refl _ _) j))
    obtain ⟨mn, hmac⟩ := hR.mac
    have hlk := fun j => ((hmac.gw (P := fun k => w1.heap.size ≤ k) ⟨hub.os, hub.tape, hub.output, hub.size, fun k hk _ => hub.block k hk⟩ (fun q => by have := hmac.lt; omega)).below (below_drewN (Below.refl W1.heap.size W1) j)).look (nm := nm) (by omega)
    obtain ⟨na', nb', no', nc', rfl, _, _⟩ := hbs
    have hml : macZ L nm < L.length := by
      unfold macZ
      have h := macA_mem hR.vt nm
      have h0 := (vT_good hR.vt).1
      rcases Nat.eq_zero_or_pos (macA L nm).toNat with q | q
      · omega
      · exact (h.2 (macA L nm).toNat (by omega)).2.1
    obtain ⟨tb, tq, tc, vt', vn', vy', htv, hNC, hNV⟩ := hR.ns.nod hml
    subst htv
    have y4 := (hNC.below hub).types
    have HEQ := hide (fun W (hW : Below W1.heap.size W1 W) => equal_any (HU.out.below hW) ((hNV.types.below hub).below hW) (by omega))
    obtain ⟨_, _, _, _, b3, d3, _, _, rfl⟩ := hNV.slc
    obtain ⟨J, hJ⟩ : ∃ J, macZ L nm = J := ⟨_, rfl⟩
    rw [hJ] at y4 HEQ hml HE
    simp only [hJ] at hlk
    have hmli : (J : Int) < (L.length : Int) := by omega
    obtain ⟨Z, hZ⟩ : ∃ Z, (ndA L J).types = Z := ⟨_, rfl⟩
    rw [hZ] at y4 HEQ HE
    have hn0 : 0 < P.length := by omega
    subst q4
    clear hR hA hu hA1 hua huc hB1 hBk hnc hna hnu hbsr hNC hNV hmac hnm hJ hZ h4 h6 h20 hnz hn1
    go_enter Tryd.func72, Tryd.ntmps72
    go_wp2_with fail
    go_quiet (fail)
    go_wp2_with fail
    refine (HEQ.out _ (below_drewN (Below.refl _ _) _)).mono ?_
    rintro r w' ⟨rfl, m, rfl⟩
    go_wp2
    go_ret
    exact ⟨by rw [HE.out]; rfl, below_drewN HB.out _⟩
  have t4 : (K == 4) = false := by rw [beq_eq_false_iff_ne]; exact q4
  have hcp := hcap _ _ _ rfl
  by_cases q6 : K = 6 ∨ K = 21
  · have h0 := h6 q6
    obtain rfl := hua h0
    have x0 := huc 0 h0
    rw [Nat.add_zero] at x0
    have HE : Hid (tkI L ⟨K, N, T, P, Y, Q⟩ ts = (ts.getD 0 0 == 2)) := by
      show _ = _
      unfold tkI
      simp only
      rw [if_neg q4, if_pos q6]
    have h0i : (0 : Int) < (ts.length : Int) := by omega
    obtain ⟨y, hy⟩ : ∃ y, ts.getD 0 0 = y := ⟨_, rfl⟩
    rw [hy] at x0 HE
    clear hR hA hu hA1 hua huc hB1 hBk h4 h6 h20 q4 hd hy
    rcases q6 with rfl | rfl
    all_goals
      go_enter Tryd.func72, Tryd.ntmps72
      go_wp2
      go_ret
      exact ⟨by rw [HE.out]; rfl, HB.out⟩
  have t6 : (K == 6) = false := by rw [beq_eq_false_iff_ne]; exact fun h => q6 (.inl h)
  have t21 : (K == 21) = false := by rw [beq_eq_false_iff_ne]; exact fun h => q6 (.inr h)
  by_cases q14 : K = 14 ∨ K = 15
  · have h0 := h20 (.inr q14)
    obtain rfl := hua (by omega)
    have x0 := huc 0 (by omega)
    rw [Nat.add_zero] at x0
    have HE : Hid (tkI L ⟨K, N, T, P, Y, Q⟩ ts = (ts.getD 0 0 == 1 && allI ts.tail)) := by
      show _ = _
      unfold tkI
      simp only
      rw [if_neg q4, if_neg q6, if_pos q14]
    have h0i : (0 : Int) < (ts.length : Int) := by omega
    have h1i : (1 : Int) ≤ (ts.length : Int) := by omega
    have hcn : ¬ uc = 1 := by omega
    have hlt' : ts.tail.length = ts.length - 1 := List.length_tail
    have HIT : Hid (∀ c, IS W1 (.slice (some ⟨ub, uo + 1, none⟩) (ts.length - 1) c) ts.tail) := fun c => ⟨_, ub, uo + 1, c, by rw [hlt'], fun _ => rfl, fun j hj => by
      have := huc (j + 1) (by omega)
      rw [show uo + (j + 1) = uo + 1 + j by omega] at this
      have e : ts.getD (j + 1) 0 = ts.tail.getD j 0 := by cases ts with | nil => simp at h0 | cons t ts => rfl
      rw [e] at this
      exact this⟩
    have HAT := hide (fun c W (hW : Below W1.heap.size W1 W) => allInts_any ((HIT.out c).below hW) (by rw [hlt']; omega))
    obtain ⟨Z, hZ⟩ : ∃ Z, allI ts.tail = Z := ⟨_, rfl⟩
    simp only [hZ] at HAT
    rw [hZ] at HE
    obtain ⟨y, hy⟩ : ∃ y, ts.getD 0 0 = y := ⟨_, rfl⟩
    rw [hy] at x0 HE
    clear hR hA hu hA1 hua huc hB1 hBk h4 h6 h20 q4 hd hy hlt' hZ q6
    by_cases hy1 : y = 1
    · subst hy1
      rcases q14 with rfl | rfl
      all_goals
        go_enter Tryd.func72, Tryd.ntmps72
        go_wp2_with fail
        refine (HAT.out _ _ (Below.refl _ _)).mono ?_
        rintro r w' ⟨rfl, rfl⟩
        go_wp2
        go_ret
        exact ⟨by rw [HE.out]; rfl, HB.out⟩
    · have ty : (y == 1) = false := by rw [beq_eq_false_iff_ne]; exact hy1
      rw [ty] at HE
      clear hy1
      rcases q14 with rfl | rfl
      all_goals
        go_enter Tryd.func72, Tryd.ntmps72
        go_wp2
        go_ret
        exact ⟨by rw [HE.out]; rfl, HB.out⟩
  have t14 : (K == 14) = false := by rw [beq_eq_false_iff_ne]; exact fun h => q14 (.inl h)
  have t15 : (K == 15) = false := by rw [beq_eq_false_iff_ne]; exact fun h => q14 (.inr h)
  by_cases q20 : K = 20
  · have h0 := h20 (.inl q20)
    obtain rfl := hua (by omega)
    have x0 := huc 0 (by omega)
    have x1 := huc 1 (by omega)
    rw [Nat.add_zero] at x0
    have HE : Hid (tkI L ⟨K, N, T, P, Y, Q⟩ ts = opTk N (ts.getD 0 0) (ts.getD 1 0)) := by
      show _ = _
      unfold tkI
      simp only
      rw [if_neg q4, if_neg q6, if_neg q14, if_pos q20]
    have h0i : (0 : Int) < (ts.length : Int) := by omega
    have h1i : (1 : Int) < (ts.length : Int) := by omega
    obtain ⟨y, hy⟩ : ∃ y, ts.getD 0 0 = y := ⟨_, rfl⟩
    obtain ⟨z, hz⟩ : ∃ y, ts.getD 1 0 = y := ⟨_, rfl⟩
    rw [hy] at x0 HE
    rw [hz] at x1 HE
    subst q20
    clear hR hA hu hA1 hua huc hB1 hBk h4 h6 h20 hd hy hz q4 q6 q14
    go_enter Tryd.func72, Tryd.ntmps72
    go_wp2_with fail
    go_quiet ((go_at_call 86; exact Calls.quiet_of_same (HOP.out _ _ _)))
    go_wp2
    go_ret
    exact ⟨by rw [HE.out]; rfl, below_drewN HB.out _⟩
  have t20 : (K == 20) = false := by rw [beq_eq_false_iff_ne]; exact q20
  have HE : Hid (tkI L ⟨K, N, T, P, Y, Q⟩ ts = allI ts) := by
    show _ = _
    unfold tkI
    simp only
    rw [if_neg q4, if_neg q6, if_neg q14, if_neg q20]
  clear hR hA hu hA1 hua huc hB1 hBk h4 h6 h20 hd q4 q6 q14 q20
  go_enter Tryd.func72, Tryd.ntmps72
  go_wp2_with fail
  refine HAL.out.mono ?_
  rintro r w' ⟨rfl, rfl⟩
  go_wp2
  go_ret
  exact ⟨by rw [HE.out]; rfl, HB.out⟩
end Go.Proofs.YtdlahabeegmjiaaDoor

namespace Go.Proofs.YtdlahabeegmjiaaDoor
open Go.RowKit

/-- What a function that binds nothing leaves. -/
def XQ (w1 : World) (tv : Value) (L : List Nd) (B MM C S M : Nat) (bv : Value) (n : Nat) (V : World) (r0 : Value) (s : Ci) (r : Ending) (V' : World) : Prop :=
  r = .returned r0 ∧ CiA w1 V' tv L B MM C S M s bv n ∧ Gw (· = C) V V'

set_option maxHeartbeats 4000000 in
set_option maxRecDepth 1000000 in
theorem variable_any {w1 V : World} {tv : Value} {L : List Nd} {B MM C S M n : Nat} {s : Ci} {bv : Value} {f i : Nat} (hR : OlR w1 tv L B MM) (hf : f ≤ 60) (hg : Gd L f i) (hk : (ndA L i).kind = 19) (hA : CiA w1 V tv L B MM C S M s bv n) (hn : n ≤ 100000) :
    Calls Tryd.prog 69 #[.pointer (some ⟨C, 0, none⟩), .int .i64 (i : Nat)] V (XQ w1 tv L B MM C S M bv n V (.int .i64 ((vrT s.vars ((ndA L i).names.getD 0 .empty)).getD (-1))) (if (vrT s.vars ((ndA L i).names.getD 0 .empty)).isSome then s else s.fN i)) := by
  obtain ⟨g, rfl⟩ := hg.pos
  have hil := (hg.step hf).1
  have hnl := hg.name hf (.inr (.inr (.inr hk)))
  have hnz := hg.nmle hf ((ndA L i).names.getD 0 .empty) (by rw [List.getD_eq_getElem?_getD, List.getElem?_eq_getElem (by omega)]; exact List.getElem_mem _)
  obtain ⟨tb, tq, tc, vt, vn, vy, htv, hNC, hNV⟩ := hR.ns.nod hil
  subst htv
  have hili : (i : Int) < (L.length : Int) := by omega
  obtain ⟨nb, no, nc, nu, e5, hnu, hbs⟩ := hNV.nm0 (by omega)
  subst e5
  have n3 := (hNC.below hA.bl).names
  have hnur := cell_kept hnu hA.bl
  have hbsr := hbs.below hA.bl
  have c0 := hA.blk.cell 0
  have c3 := hA.blk.cell 3
  simp only [List.getElem?_toArray, List.getElem?_cons_succ, List.getElem?_cons_zero] at c0 c3
  have hnl0 : 0 < (ndA L i).names.length := by omega
  obtain ⟨nl, hnl'⟩ : ∃ y, (ndA L i).names.length = y := ⟨_, rfl⟩
  rw [hnl'] at n3 hnl0
  obtain ⟨nm, hnm⟩ : ∃ y, (ndA L i).names.getD 0 .empty = y := ⟨_, rfl⟩
  rw [hnm] at hbsr hnz hbs ⊢
  have HFD := hide (fun W (hW : Below V.heap.size V W) => find_any (hA.sc.below hW) (hbsr.below hW) (by omega) (by omega))
  have HA := hide hA
  have HFN := hide (fun W (hW : Below V.heap.size V W) => fNf_any (hA.below hW) i)
  obtain ⟨na', nb', no', nc', rfl, _, _⟩ := hbs
  clear hA hR hg hNC hNV hnu hbsr hnm hk hnl hnl'
  cases hv : vrT s.vars nm with
  | none =>
    simp only [hv] at HFD
    simp only [Option.getD_none, Option.isSome_none, Bool.false_eq_true, if_false]
    clear hv
    go_enter Tryd.func69, Tryd.ntmps69
    go_wp2_with fail
    go_quiet ((go_at_call 81; exact Calls.quiet_of (HFD.out _ (below_drewN (Below.refl _ _) _))))
    go_wp2_with fail
    refine (HFN.out _ (below_drewN (Below.refl _ _) _)).mono ?_
    rintro r V2 ⟨rfl, hA2, hG2⟩
    have HA2 := hide hA2
    have HG2 := hide hG2
    clear hA2 hG2
    go_wp2
    go_ret
    exact ⟨rfl, HA2.out, (Gw.of_below (P := (· = C)) (below_drewN (Below.refl _ _) _)).trans HG2.out (fun _ _ q => q)⟩
  | some t =>
    simp only [hv] at HFD
    simp only [Option.getD_some, Option.isSome_some, if_true]
    clear hv
    go_enter Tryd.func69, Tryd.ntmps69
    go_wp2_with fail
    go_quiet ((go_at_call 81; exact Calls.quiet_of (HFD.out _ (below_drewN (Below.refl _ _) _))))
    go_wp2
    go_ret
    exact ⟨rfl, HA.out.below (below_drewN (Below.refl _ _) _), Gw.of_below (below_drewN (Below.refl _ _) _)⟩
end Go.Proofs.YtdlahabeegmjiaaDoor
