/-
  Plainly: what a fleet does in a tick, and in a run.
-/
import Derived.Test.YteicpjbeihabnaaDoorJRunFleetVFD
import Derived.Test.YteicpjbeihabnaaDoorJRunFleetVFD
namespace Go.Proofs.YteicpjbeihabnaaDoor
open Go.RowKit

/-- One more, up to the bound. -/
def roMore (v : Int) : Int := if v < 1000000 then v + 1 else v
/-- A robot that is not Done stands there. -/
def tkn (L : List Ro) (c : Int) : Bool := L.any fun r => !r.done && decide (r.cell = c)
/-- How many are not Done. -/
def nds (L : List Ro) : Nat := L.countP fun r => !r.done
/-- The next cell of a robot, and its code. -/
def roA (d : Tb) (r : Ro) : Int := nxA d r.target.toNat r.cell.toNat
def roB (d : Tb) (r : Ro) : Int := nxB d r.target.toNat r.cell.toNat
/-- What one does in a tick. -/
def actR (d : Tb) (L : List Ro) (r : Ro) : Ro :=
  if r.done = true then r
  else if roB d r = 11 then { r with done := true }
  else if roB d r = 10 ∨ tkn L (roA d r) = true then { r with waits := roMore r.waits }
  else { r with cell := roA d r, moves := roMore r.moves }
/-- .. and whether it went or became Done. -/
def actS (d : Tb) (L : List Ro) (r : Ro) : Bool := !r.done && (decide (roB d r = 11) || (decide (roB d r = 0) && !tkn L (roA d r)))
def actL (d : Tb) (L : List Ro) (i : Nat) : List Ro := L.set i (actR d L (L.getD i .zero))
/-- The first k of a tick. -/
def tickN (d : Tb) (L : List Ro) : Nat → List Ro × Bool
  | 0 => (L, false)
  | k + 1 => (actL d (tickN d L k).1 k, (tickN d L k).2 || actS d (tickN d L k).1 ((tickN d L k).1.getD k .zero))
def tick (d : Tb) (L : List Ro) : List Ro × Bool := tickN d L L.length
/-- All are Done. -/
def allD (L : List Ro) : Bool := L.all fun r => r.done
/-- A run of up to k more ticks. -/
def runN (d : Tb) : Nat → List Ro → Nat → Int × Nat × List Ro
  | 0, L, m => if allD L = true then (0, m, L) else (7, m, L)
  | k + 1, L, m => if allD L = true then (0, m, L) else if (tick d L).2 = true then runN d k (tick d L).1 (m + 1) else (12, m + 1, (tick d L).1)

theorem tkn_iff (L : List Ro) (c : Int) : tkn L c = true ↔ ∃ j, j < L.length ∧ (L.getD j .zero).done = false ∧ (L.getD j .zero).cell = c := by
  unfold tkn
  rw [List.any_eq_true]
  constructor
  · rintro ⟨r, hr, h⟩
    obtain ⟨j, hj, e⟩ := List.mem_iff_getElem.1 hr
    rw [Bool.and_eq_true, decide_eq_true_iff, Bool.not_eq_true'] at h
    refine ⟨j, hj, ?_⟩
    rw [List.getD_eq_getElem?_getD, List.getElem?_eq_getElem hj]
    simp only [Option.getD_some, e]
    exact h
  · rintro ⟨j, hj, h⟩
    rw [List.getD_eq_getElem?_getD, List.getElem?_eq_getElem hj] at h
    simp only [Option.getD_some] at h
    refine ⟨L[j], List.getElem_mem hj, ?_⟩
    rw [Bool.and_eq_true, decide_eq_true_iff, Bool.not_eq_true']
    exact h
theorem getD_set_eq {L : List Ro} {i : Nat} (h : i < L.length) (r : Ro) : (L.set i r).getD i .zero = r := by
  rw [List.getD_eq_getElem?_getD, List.getElem?_set_self h]; rfl
theorem getD_set_ne {L : List Ro} {i j : Nat} (h : i ≠ j) (r : Ro) : (L.set i r).getD j .zero = L.getD j .zero := by
  rw [List.getD_eq_getElem?_getD, List.getElem?_set_ne h, ← List.getD_eq_getElem?_getD]
theorem actL_len (d : Tb) (L : List Ro) (i : Nat) : (actL d L i).length = L.length := by unfold actL; rw [List.length_set]
theorem tickN_len (d : Tb) (L : List Ro) : ∀ k, (tickN d L k).1.length = L.length
  | 0 => rfl
  | k + 1 => by rw [show (tickN d L (k + 1)).1 = actL d (tickN d L k).1 k from rfl, actL_len, tickN_len d L k]

/-- A robot of a valid fleet: its next cell. -/
theorem VfOk.step {d : Tb} {L : List Ro} (h : VfOk d L) {i : Nat} (hi : i < L.length) (h0 : roB d (L.getD i .zero) = 0) :
    0 ≤ roA d (L.getD i .zero) ∧ roA d (L.getD i .zero) < d.w * d.h ∧ roA d (L.getD i .zero) ≠ (L.getD i .zero).cell := by
  obtain ⟨a0, a1, a2, a3⟩ := (h.each i hi).ask
  have hx := h.tb.next (i := (L.getD i .zero).target.toNat) (c := (L.getD i .zero).cell.toNat) (by omega) (by omega) h0
  refine ⟨hx.1, hx.2.1, fun e => ?_⟩
  have h4 := hx.2.2.2
  unfold roA at e
  rw [e] at h4
  omega
theorem roMore_ok {v : Int} (h0 : 0 ≤ v) (h1 : v ≤ 1000000) : 0 ≤ roMore v ∧ roMore v ≤ 1000000 := by
  unfold roMore; split <;> omega
theorem roB_cases (d : Tb) (r : Ro) : roB d r = 11 ∨ roB d r = 10 ∨ roB d r = 0 := by
  rcases nxB_cases d r.target.toNat r.cell.toNat with h | h | h
  · exact .inl h.1
  · exact .inr (.inl h.1)
  · exact .inr (.inr h.1)
/-- A fleet stays valid. -/
theorem VfOk.act {d : Tb} {L : List Ro} (h : VfOk d L) {i : Nat} (hi : i < L.length) : VfOk d (actL d L i) := by
  have hr := h.each i hi
  have hst := h.step hi
  have hdf : ∀ j, j < L.length → j ≠ i → (L.getD j .zero).done = false → (L.getD i .zero).done = false → (L.getD j .zero).cell ≠ (L.getD i .zero).cell := fun j hj hne h1 h2 => by
    rcases Nat.lt_or_gt_of_ne hne with hl | hl
    · exact h.diff i j hl hi h2 h1
    · exact fun e => h.diff j i hl hj h1 h2 e.symm
  have key : ∀ r', RoOk d r' → (r'.done = false → (L.getD i .zero).done = false ∧ ∀ j, j < L.length → j ≠ i → (L.getD j .zero).done = false → (L.getD j .zero).cell ≠ r'.cell) → VfOk d (L.set i r') := fun r' h1 h2 => by
    refine ⟨h.tb, by rw [List.length_set]; exact h.len, fun j hj => ?_, fun j k hk hj d1 d2 => ?_⟩
    · rw [List.length_set] at hj
      by_cases e : j = i
      · subst e; rw [getD_set_eq hj]; exact h1
      · rw [getD_set_ne (fun q => e q.symm)]; exact h.each j hj
    · rw [List.length_set] at hj
      by_cases e : j = i
      · subst e
        rw [getD_set_eq hj] at d1 ⊢
        have e2 : ¬ j = k := by omega
        rw [getD_set_ne e2] at d2 ⊢
        exact (h2 d1).2 k (by omega) (by omega) d2
      · rw [getD_set_ne (fun q => e q.symm)] at d1 ⊢
        by_cases e2 : k = i
        · subst e2
          rw [getD_set_eq hi] at d2 ⊢
          exact fun q => (h2 d2).2 j hj e d1 q.symm
        · rw [getD_set_ne (fun q => e2 q.symm)] at d2 ⊢
          exact h.diff j k hk hj d1 d2
  unfold actL
  obtain ⟨r, hre⟩ : ∃ r, L.getD i .zero = r := ⟨_, rfl⟩
  rw [hre] at hr hst hdf key ⊢
  unfold actR
  split
  · exact key r hr (fun q => ⟨q, fun j hj hne h1 => hdf j hj hne h1 q⟩)
  · next hnd =>
    have hnd : r.done = false := by simpa using hnd
    split
    · exact key _ ⟨hr.ask, hr.m0, hr.m1, hr.w0, hr.w1⟩ (fun q => by cases q)
    · split
      · have hm := roMore_ok hr.w0 hr.w1
        exact key _ ⟨hr.ask, hr.m0, hr.m1, hm.1, hm.2⟩ (fun _ => ⟨hnd, fun j hj hne h1 => hdf j hj hne h1 hnd⟩)
      · next h11 h10 =>
        have h0 : roB d r = 0 := by
          rcases roB_cases d r with e | e | e
          · exact absurd e h11
          · exact absurd (.inl e) h10
          · exact e
        obtain ⟨s0, s1, s2⟩ := hst h0
        have hm := roMore_ok hr.m0 hr.m1
        refine key _ ⟨⟨hr.ask.1, hr.ask.2.1, s0, s1⟩, hm.1, hm.2, hr.w0, hr.w1⟩ (fun _ => ⟨hnd, fun j hj _ h1 e => h10 (.inr ((tkn_iff L _).2 ⟨j, hj, h1, e⟩))⟩)
theorem VfOk.tickN {d : Tb} {L : List Ro} (h : VfOk d L) : ∀ k, k ≤ L.length → VfOk d (tickN d L k).1
  | 0, _ => h
  | k + 1, hk => (VfOk.tickN h k (by omega)).act (by rw [tickN_len]; omega)
theorem VfOk.tick {d : Tb} {L : List Ro} (h : VfOk d L) : VfOk d (tick d L).1 := h.tickN _ (Nat.le_refl _)
theorem tick_len (d : Tb) (L : List Ro) : (tick d L).1.length = L.length := tickN_len d L _
/-- Who stands where, behind a change. -/
theorem tkn_done {d : Tb} {L : List Ro} (h : VfOk d L) {i : Nat} (hi : i < L.length) (hn : (L.getD i .zero).done = false) {r' : Ro} (hr : r'.done = true) (c : Int) : tkn (L.set i r') c = (tkn L c && !decide (c = (L.getD i .zero).cell)) := by
  rw [Bool.eq_iff_iff, Bool.and_eq_true, tkn_iff, tkn_iff, Bool.not_eq_true', decide_eq_false_iff_not]
  constructor
  · rintro ⟨j, hj, h1, h2⟩
    rw [List.length_set] at hj
    by_cases e : j = i
    · subst e; rw [getD_set_eq hj, hr] at h1; cases h1
    · rw [getD_set_ne (fun q => e q.symm)] at h1 h2
      refine ⟨⟨j, hj, h1, h2⟩, fun q => ?_⟩
      rcases Nat.lt_or_gt_of_ne e with hl | hl
      · exact h.diff i j hl hi hn h1 (h2.trans q)
      · exact h.diff j i hl hj h1 hn (h2.trans q).symm
  · rintro ⟨⟨j, hj, h1, h2⟩, h3⟩
    have e : i ≠ j := fun q => by subst q; exact h3 h2.symm
    exact ⟨j, by rw [List.length_set]; exact hj, by rw [getD_set_ne e]; exact h1, by rw [getD_set_ne e]; exact h2⟩
theorem tkn_same {L : List Ro} {i : Nat} (hi : i < L.length) {r' : Ro} (hd : r'.done = (L.getD i .zero).done) (hc : r'.cell = (L.getD i .zero).cell) (c : Int) : tkn (L.set i r') c = tkn L c := by
  have key : ∀ j, ((L.set i r').getD j .zero).done = (L.getD j .zero).done ∧ ((L.set i r').getD j .zero).cell = (L.getD j .zero).cell := fun j => by
    by_cases e : i = j
    · subst e; rw [getD_set_eq hi]; exact ⟨hd, hc⟩
    · rw [getD_set_ne e]; exact ⟨rfl, rfl⟩
  rw [Bool.eq_iff_iff, tkn_iff, tkn_iff]
  constructor
  · rintro ⟨j, hj, h1, h2⟩
    rw [List.length_set] at hj
    exact ⟨j, hj, (key j).1 ▸ h1, (key j).2 ▸ h2⟩
  · rintro ⟨j, hj, h1, h2⟩
    exact ⟨j, by rw [List.length_set]; exact hj, (key j).1.trans h1, (key j).2.trans h2⟩
theorem tkn_went {d : Tb} {L : List Ro} (h : VfOk d L) {i : Nat} (hi : i < L.length) (hn : (L.getD i .zero).done = false) {r' : Ro} (hr : r'.done = false) (c : Int) : tkn (L.set i r') c = ((tkn L c && !decide (c = (L.getD i .zero).cell)) || decide (c = r'.cell)) := by
  rw [← tkn_done (r' := { r' with done := true }) h hi hn rfl]
  rw [Bool.eq_iff_iff, Bool.or_eq_true, tkn_iff, tkn_iff, decide_eq_true_iff]
  constructor
  · rintro ⟨j, hj, h1, h2⟩
    rw [List.length_set] at hj
    by_cases e : i = j
    · subst e; rw [getD_set_eq hi] at h2; exact .inr h2.symm
    · rw [getD_set_ne e] at h1 h2
      exact .inl ⟨j, by rw [List.length_set]; exact hj, by rw [getD_set_ne e]; exact h1, by rw [getD_set_ne e]; exact h2⟩
  · rintro (⟨j, hj, h1, h2⟩ | e)
    · rw [List.length_set] at hj
      have e : i ≠ j := fun q => by subst q; rw [getD_set_eq hi] at h1; cases h1
      rw [getD_set_ne e] at h1 h2
      exact ⟨j, by rw [List.length_set]; exact hj, by rw [getD_set_ne e]; exact h1, by rw [getD_set_ne e]; exact h2⟩
    · exact ⟨i, by rw [List.length_set]; exact hi, by rw [getD_set_eq hi]; exact hr, by rw [getD_set_eq hi]; exact e.symm⟩
theorem getD_at {L : List Ro} {i : Nat} (h : i < L.length) : L.getD i .zero = L[i] := by rw [List.getD_eq_getElem?_getD, List.getElem?_eq_getElem h]; rfl
theorem nds_set {L : List Ro} {i : Nat} (hi : i < L.length) (r' : Ro) : nds (L.set i r') + (if (L.getD i .zero).done = false then 1 else 0) = nds L + (if r'.done = false then 1 else 0) := by
  unfold nds
  rw [getD_at hi]
  induction L generalizing i with
  | nil => exact absurd hi (Nat.not_lt_zero _)
  | cons a L ih =>
    cases i with
    | zero =>
      simp only [List.set_cons_zero, List.getElem_cons_zero, List.countP_cons]
      obtain ⟨a0, a1, a2, a3, a4⟩ := a
      obtain ⟨r0, r1, r2, r3, r4⟩ := r'
      cases a4 <;> cases r4 <;> simp
    | succ i =>
      simp only [List.set_cons_succ, List.getElem_cons_succ, List.countP_cons]
      have := ih (i := i) (by simpa using hi)
      omega
theorem nds_zero (L : List Ro) : (nds L = 0) ↔ allD L = true := by
  unfold nds allD
  rw [List.countP_eq_zero, List.all_eq_true]
  constructor
  · intro h r hr; simpa using h r hr
  · intro h r hr; simpa using h r hr
theorem nds_le (L : List Ro) : nds L ≤ L.length := List.countP_le_length
theorem take_tkn {L : List Ro} {i : Nat} (hi : i < L.length) (c : Int) : tkn (L.take (i + 1)) c = (tkn (L.take i) c || (!(L.getD i .zero).done && decide ((L.getD i .zero).cell = c))) := by
  rw [getD_at hi, ← List.take_append_getElem hi]
  unfold tkn
  rw [List.any_append]
  simp
theorem take_nds {L : List Ro} {i : Nat} (hi : i < L.length) : nds (L.take (i + 1)) = nds (L.take i) + (if (L.getD i .zero).done = false then 1 else 0) := by
  rw [getD_at hi, ← List.take_append_getElem hi]
  unfold nds
  rw [List.countP_append]
  obtain ⟨r, hr⟩ : ∃ r, L[i] = r := ⟨_, rfl⟩
  rw [hr]
  obtain ⟨r0, r1, r2, r3, r4⟩ := r
  cases r4 <;> simp
/-- What a robot is behind its turn, and whether it went or became Done. -/
theorem actR_cases {d : Tb} {L : List Ro} (h : VfOk d L) {i : Nat} (hi : i < L.length) {r : Ro} (hr : L.getD i .zero = r) :
    (∃ x, actR d L r = { r with waits := x } ∧ actS d L r = false) ∨ (actR d L r = { r with done := true } ∧ r.done = false ∧ actS d L r = true) ∨ (∃ n m, actR d L r = { r with cell := n, moves := m } ∧ n ≠ r.cell ∧ actS d L r = true) := by
  have hst := h.step hi
  rw [hr] at hst
  unfold actR actS
  by_cases hd : r.done = true
  · rw [if_pos hd, hd]
    exact .inl ⟨r.waits, by rw [← hd], rfl⟩
  · have hd' : r.done = false := by simpa using hd
    rw [if_neg hd, hd']
    by_cases h11 : roB d r = 11
    · rw [if_pos h11, h11]
      exact .inr (.inl ⟨rfl, rfl, by simp⟩)
    · rw [if_neg h11, decide_eq_false h11]
      by_cases hx : roB d r = 10 ∨ tkn L (roA d r) = true
      · rw [if_pos hx]
        refine .inl ⟨_, by rw [← hd'], ?_⟩
        rcases hx with e | e
        · rw [e]; simp
        · rw [e]; simp
      · have h0 : roB d r = 0 := by
          rcases roB_cases d r with e | e | e
          · exact absurd e h11
          · exact absurd (.inl e) hx
          · exact e
        have ht : tkn L (roA d r) = false := by
          rw [← Bool.not_eq_true]; exact fun e => hx (.inr e)
        rw [if_neg hx, h0, ht]
        exact .inr (.inr ⟨_, _, by rw [← hd'], (hst h0).2.2, by simp⟩)
open Classical in
/-- What TickFleet answers. -/
noncomputable def tkF (d : Tb) (L : List Ro) : List Ro := if VfOk d L then (tick d L).1 else []
open Classical in
noncomputable def tkS (d : Tb) (L : List Ro) : Bool := if VfOk d L then (tick d L).2 else false
open Classical in
noncomputable def tkC (d : Tb) (L : List Ro) : Int := if VfOk d L then 0 else 1
theorem tkF_yes {d : Tb} {L : List Ro} (h : VfOk d L) : tkF d L = (tick d L).1 := if_pos h
theorem tkF_no {d : Tb} {L : List Ro} (h : ¬ VfOk d L) : tkF d L = [] := if_neg h
theorem tkS_yes {d : Tb} {L : List Ro} (h : VfOk d L) : tkS d L = (tick d L).2 := if_pos h
theorem tkS_no {d : Tb} {L : List Ro} (h : ¬ VfOk d L) : tkS d L = false := if_neg h
theorem tkC_yes {d : Tb} {L : List Ro} (h : VfOk d L) : tkC d L = 0 := if_pos h
theorem tkC_no {d : Tb} {L : List Ro} (h : ¬ VfOk d L) : tkC d L = 1 := if_neg h
theorem tkF_len (d : Tb) (L : List Ro) (h : L.length ≤ 1048576) : (tkF d L).length ≤ 1048576 := by
  by_cases q : VfOk d L
  · rw [tkF_yes q, tick_len]; exact h
  · rw [tkF_no q]; exact Nat.zero_le _
theorem runN_len (d : Tb) : ∀ k L m, (runN d k L m).2.2.length = L.length
  | 0, L, m => by
    unfold runN
    split <;> rfl
  | k + 1, L, m => by
    unfold runN
    split
    · rfl
    · split
      · rw [runN_len d k, tick_len]
      · exact tick_len d L
theorem runN_all {d : Tb} {L : List Ro} (h : allD L = true) : ∀ k m, runN d k L m = (0, m, L)
  | 0, m => by unfold runN; rw [if_pos h]
  | k + 1, m => by unfold runN; rw [if_pos h]
theorem runN_end {d : Tb} {L : List Ro} (h : allD L = false) (m : Nat) : runN d 0 L m = (7, m, L) := by
  unfold runN; rw [if_neg (by rw [h]; exact Bool.false_ne_true)]
theorem runN_on {d : Tb} {L : List Ro} (h : allD L = false) (hs : (tick d L).2 = true) (k m : Nat) : runN d (k + 1) L m = runN d k (tick d L).1 (m + 1) := by
  rw [show runN d (k + 1) L m = if allD L = true then (0, m, L) else if (tick d L).2 = true then runN d k (tick d L).1 (m + 1) else (12, m + 1, (tick d L).1) from rfl, if_neg (by rw [h]; exact Bool.false_ne_true), if_pos hs]
theorem runN_stuck {d : Tb} {L : List Ro} (h : allD L = false) (hs : (tick d L).2 = false) (k m : Nat) : runN d (k + 1) L m = (12, m + 1, (tick d L).1) := by
  rw [show runN d (k + 1) L m = if allD L = true then (0, m, L) else if (tick d L).2 = true then runN d k (tick d L).1 (m + 1) else (12, m + 1, (tick d L).1) from rfl, if_neg (by rw [h]; exact Bool.false_ne_true), if_neg (by rw [hs]; exact Bool.false_ne_true)]
/-- What may be run. -/
def RnIn (tk : Int) (d : Tb) (L : List Ro) : Prop := VfOk d L ∧ 0 ≤ tk ∧ tk ≤ 5000
open Classical in
/-- What RunFleet answers. -/
noncomputable def rnX (tk : Int) (d : Tb) (L : List Ro) : Int × Nat × List Ro := if RnIn tk d L then runN d tk.toNat L 0 else (1, 0, [])
theorem rnX_yes {n : Nat} {d : Tb} {L : List Ro} (h : RnIn n d L) : rnX n d L = runN d n L 0 := if_pos h
theorem rnX_no {tk : Int} {d : Tb} {L : List Ro} (h : ¬ RnIn tk d L) : rnX tk d L = (1, 0, []) := if_neg h
noncomputable def rnF (tk : Int) (d : Tb) (L : List Ro) : List Ro := (rnX tk d L).2.2
noncomputable def rnC (tk : Int) (d : Tb) (L : List Ro) : Int := (rnX tk d L).1
noncomputable def rnT (tk : Int) (d : Tb) (L : List Ro) : Int := ((rnX tk d L).2.1 : Nat)
theorem rnF_len (tk : Int) (d : Tb) (L : List Ro) (h : L.length ≤ 1048576) : (rnF tk d L).length ≤ 1048576 := by
  unfold rnF
  by_cases q : RnIn tk d L
  · rw [show rnX tk d L = runN d tk.toNat L 0 from if_pos q, runN_len]; exact h
  · rw [rnX_no q]; exact Nat.zero_le _
theorem take_all {L : List Ro} {i : Nat} (hi : i < L.length) : allD (L.take (i + 1)) = (allD (L.take i) && (L.getD i .zero).done) := by
  rw [getD_at hi, ← List.take_append_getElem hi]
  unfold allD
  rw [List.all_append]
  simp
end Go.Proofs.YteicpjbeihabnaaDoor
