/-
  Four rows as a graph; counts of edges, plainly.
-/
import Derived.Test.YtohilccbfdienaaJCoGRP
import Derived.Test.YtohilccbfdienaaJCoG4
import Derived.Test.YtohilccbfdienaaJCoGrF
namespace Go.Proofs.Ytohilccbfdienaa
open Go.RowKit

/-- A row of numbers that was made. -/
theorem made_own {W : World} {B SB n1 : Nat} {f : Nat → Int} (h : W.rowIs SB 3 n1 (fun j => .int .i64 (f j))) (hB : B ≤ SB) (hn : n1 ≤ 100000) : Ow W B (.slice (some ⟨SB, 0, none⟩) n1 n1) ((List.range n1).map f) := by
  obtain ⟨c', h1, h2, h3⟩ := h
  refine ⟨by rw [ci_length, Nat.mul_one], .inr ⟨SB, n1, c', by rw [List.length_map, List.length_range], hB, h1, by rw [List.length_map, List.length_range]; exact Nat.le_refl _, by unfold maxLen; omega, by rw [Nat.mul_one]; exact h2, ?_⟩⟩
  rw [List.length_map, List.length_range, Nat.mul_one]
  apply List.ext_getElem?
  intro j
  rw [List.getElem?_take]
  by_cases hj : j < n1
  · rw [if_pos hj, Array.getElem?_toList, h3 j hj]
    simp [ci, hj]
  · rw [if_neg hj, List.getElem?_eq_none (by rw [ci_length, List.length_map, List.length_range]; omega)]
/-- Five cells that are written into a graph's block. -/
def set5 (W : World) (R : Nat) (x0 x1 x2 x3 x4 : Value) : World := ((((W.setCell ⟨R, 0, none⟩ x0).setCell ⟨R, 1, none⟩ x1).setCell ⟨R, 2, none⟩ x2).setCell ⟨R, 3, none⟩ x3).setCell ⟨R, 4, none⟩ x4
theorem R4.set5 {W : World} {B R : Nat} {v1 v2 v3 v4 : Value} {L1 L2 L3 L4 : List Int} {T : TypeId} {cs : Array Value} (h : R4 W B v1 v2 v3 v4 L1 L2 L3 L4) (hG : Blk W R T cs) (hT : T ≠ 3) (x0 x1 x2 x3 x4 : Value) : R4 (set5 W R x0 x1 x2 x3 x4) B v1 v2 v3 v4 L1 L2 L3 L4 :=
  ((((h.other hG hT).other (hG.set 0 x0) hT).other ((hG.set 0 x0).set 1 x1) hT).other (((hG.set 0 x0).set 1 x1).set 2 x2) hT).other ((((hG.set 0 x0).set 1 x1).set 2 x2).set 3 x3) hT
theorem below_set5 {w W : World} {B R : Nat} (h : Below B w W) (hR : B ≤ R) (x0 x1 x2 x3 x4 : Value) : Below B w (set5 W R x0 x1 x2 x3 x4) := by
  have k : ∀ {V : World} {j : Nat} {x : Value}, Below B w V → Below B w (V.setCell ⟨R, j, none⟩ x) := fun {V j x} hV => ⟨hV.os, hV.tape, hV.output, by rw [World.size_setCell]; exact hV.size, fun i hi => (Below.heap_setCell _ _ _ _ (by show i ≠ R; omega)).trans (hV.block i hi)⟩
  exact k (k (k (k (k h))))
theorem cn_set {P : List Ed} {x : Ed} {i n1 : Nat} (h : x.f = i) : ((List.range n1).map (cnA P)).set (i + 1) (cnA P (i + 1) + 1) = (List.range n1).map (cnA (P ++ [x])) := by
  apply List.ext_getElem?
  intro j
  by_cases hj : j < n1
  · by_cases e : j = i + 1
    · subst e
      rw [List.getElem?_set_self (by simp; exact hj)]
      simp [hj, cnA_hit h]
    · rw [List.getElem?_set_ne (fun q => e q.symm)]
      simp [hj, cnA_miss h e]
  · rw [List.getElem?_eq_none (by simp; omega), List.getElem?_eq_none (by simp; omega)]
theorem sm_set {S : List Ed} {k n1 : Nat} : ((List.range n1).map (smA S k)).set (k + 1) (smA S k (k + 1) + smA S k k) = (List.range n1).map (smA S (k + 1)) := by
  apply List.ext_getElem?
  intro j
  by_cases hj : j < n1
  · by_cases e : j = k + 1
    · subst e
      rw [List.getElem?_set_self (by simp; exact hj)]
      simp [hj, smA_step]
    · rw [List.getElem?_set_ne (fun q => e q.symm)]
      simp [hj, smA_other S e]
  · rw [List.getElem?_eq_none (by simp; omega), List.getElem?_eq_none (by simp; omega)]
theorem cnt_split (c : Int) : ∀ S : List Ed, S.countP (fun e => decide (e.f < c)) + (flt c S).length ≤ S.countP (fun e => decide (e.f < c + 1))
  | [] => by simp [flt]
  | e :: S => by
    have ih := cnt_split c S
    unfold flt at ih ⊢
    rw [List.countP_cons, List.countP_cons]
    simp only [List.filter_cons]
    by_cases h1 : e.f < c
    · have t1 : decide (e.f < c) = true := decide_eq_true h1
      have t2 : decide (e.f < c + 1) = true := decide_eq_true (by omega)
      have t3 : decide (e.f = c) = false := decide_eq_false (by omega)
      simp only [t1, t2, t3, if_true, Bool.false_eq_true, if_false]
      omega
    · have t1 : decide (e.f < c) = false := decide_eq_false h1
      by_cases h2 : e.f = c
      · have t2 : decide (e.f < c + 1) = true := decide_eq_true (by omega)
        have t3 : decide (e.f = c) = true := decide_eq_true h2
        simp only [t1, t2, t3, if_true, Bool.false_eq_true, if_false, List.length_cons]
        omega
      · have t2 : decide (e.f < c + 1) = false := decide_eq_false (by omega)
        have t3 : decide (e.f = c) = false := decide_eq_false h2
        simp only [t1, t2, t3, Bool.false_eq_true, if_false]
        omega
theorem rows_len (S : List Ed) : ∀ c : Nat, (rowsN S c).length ≤ S.countP (fun e => decide (e.f < (c : Int)))
  | 0 => by simp [rowsN]
  | c + 1 => by
    have ih := rows_len S c
    have h1 := cnt_split c S
    show (rowsN S c ++ flt c S).length ≤ _
    rw [List.length_append]
    push_cast
    omega
theorem stA_le (S : List Ed) (c : Nat) : 0 ≤ stA S c ∧ stA S c ≤ (S.length : Int) := by
  unfold stA
  have h1 := rows_len S c
  have h2 : S.countP (fun e => decide (e.f < (c : Int))) ≤ S.length := List.countP_le_length ..
  omega
theorem smA_nn (S : List Ed) (k c : Nat) : 0 ≤ smA S k c := by
  unfold smA
  by_cases h : c ≤ k
  · rw [if_pos h]; exact (stA_le S c).1
  · rw [if_neg h]
    cases c with
    | zero => exact Int.le_refl _
    | succ c => exact Int.natCast_nonneg _
theorem smA_sum (S : List Ed) (k : Nat) : smA S k (k + 1) + smA S k k ≤ (S.length : Int) := by
  rw [smA_step, smA_done S (Nat.le_refl _)]
  exact (stA_le S _).2
theorem rg_at {f : Nat → Int} {n1 j : Nat} (h : j < n1) : ((List.range n1).map f).getD j 0 = f j := by simp [List.getD, h]

theorem results_gr_tmp {fn : Func} {p u : Tmp} {ty : TypeId} (h : fn.results = #[.cell p ty, .tmp u]) (P : Program) (tmps : Array Value) (w : World) (g : Nat) (t : TypeId) (cs : Array Value) (fr : Nat × Nat) {fs : Array Field}
    (hp : tmps.getD p undef = .pointer (some ⟨g, 0, none⟩)) (hg : w.heap[g]? = some (.cells cs t fr))
    (hu : P.underlying ty = some (.struct fs)) (hi : (P.info? ty).map (·.size) = some cs.size) :
    (results fn tmps).run P w = .ok (.tuple #[.agg cs, tmps.getD u undef]) w := by
  have hp' : tmps[p]?.getD undef = .pointer (some ⟨g, 0, none⟩) := by simpa using hp
  simp [results, h, hp', asAddr, run_loadVar_row w g t ty cs fr _ hg hu rfl hi]
theorem GrF.set5 {W : World} {d : Gr} {v1 v2 v3 v4 : Value} {bl : List Nat} {R : Nat} (h : GrF W d v1 v2 v3 v4 bl) (hR : ∀ g ∈ bl, g ≠ R) (x0 x1 x2 x3 x4 : Value) : GrF (set5 W R x0 x1 x2 x3 x4) d v1 v2 v3 v4 bl :=
  h.keep fun g hg => by
    have hn := hR g hg
    unfold Go.Proofs.Ytohilccbfdienaa.set5
    exact (Below.heap_setCell _ _ _ _ hn).trans ((Below.heap_setCell _ _ _ _ hn).trans ((Below.heap_setCell _ _ _ _ hn).trans ((Below.heap_setCell _ _ _ _ hn).trans (Below.heap_setCell _ _ _ _ hn))))
/-- Four rows as a graph. -/
theorem R4.grf {w W : World} {v1 v2 v3 v4 : Value} {d : Gr} (h : R4 W w.heap.size v1 v2 v3 v4 d.start d.to d.dir d.cost) : ∃ bl, GrF W d v1 v2 v3 v4 bl ∧ Fr w W bl := by
  obtain ⟨b1, f1, k1⟩ := h.o1.fr
  obtain ⟨b2, f2, k2⟩ := h.o2.fr
  obtain ⟨b3, f3, k3⟩ := h.o3.fr
  obtain ⟨b4, f4, k4⟩ := h.o4.fr
  have nd : ∀ {v : Value} {b : List Nat}, (∀ g ∈ b, v.ownBlock = some g ∧ b = [g]) → b.Nodup := fun {v b} hb => by
    cases b with
    | nil => exact List.nodup_nil
    | cons g t => rw [(hb g (List.mem_cons_self ..)).2]; simp
  have dj : ∀ {v u : Value} {b c : List Nat}, Apt v u → (∀ g ∈ b, v.ownBlock = some g ∧ b = [g]) → (∀ g ∈ c, u.ownBlock = some g ∧ c = [g]) → ∀ p ∈ b, ∀ q ∈ c, p ≠ q := fun {v u b c} ha hb hc p hp q hq e => by
    subst e
    have h1 := (hb p hp).1
    have h2 := (hc p hq).1
    rcases ha with ha | ha
    · rw [ha] at h1; cases h1
    · exact ha (h1.trans h2.symm)
  refine ⟨_, ⟨b1, b2, b3, b4, rfl, f1, f2, f3, f4⟩, ?_, ?_, ?_⟩
  · refine List.nodup_append.2 ⟨nd k1, List.nodup_append.2 ⟨nd k2, List.nodup_append.2 ⟨nd k3, nd k4, dj h.a34 k3 k4⟩, fun p hp q hq => ?_⟩, fun p hp q hq => ?_⟩
    · rcases List.mem_append.1 hq with hq | hq
      · exact dj h.a23 k2 k3 p hp q hq
      · exact dj h.a24 k2 k4 p hp q hq
    · rcases List.mem_append.1 hq with hq | hq
      · exact dj h.a12 k1 k2 p hp q hq
      · rcases List.mem_append.1 hq with hq | hq
        · exact dj h.a13 k1 k3 p hp q hq
        · exact dj h.a14 k1 k4 p hp q hq
  all_goals
    intro g hg
    simp only [List.mem_append] at hg
    rcases hg with hg | hg | hg | hg
    · have := h.o1.lt g (k1 g hg).1; omega
    · have := h.o2.lt g (k2 g hg).1; omega
    · have := h.o3.lt g (k3 g hg).1; omega
    · have := h.o4.lt g (k4 g hg).1; omega
end Go.Proofs.Ytohilccbfdienaa
