/-
  Hops that are packed come back.
  Plainly: the rows are read back.
-/
import Derived.Test.YtpnocklldlacjaaDoorJDecodeImageRDM
namespace Go.Proofs.YtpnocklldlacjaaDoor
open Go.RowKit

theorem tb_iff (x r : Nat) : x / 2 ^ r % 2 = (if x.testBit r = true then 1 else 0) := by
  rw [Nat.testBit_eq_decide_div_mod_eq]
  have : x / 2 ^ r % 2 < 2 := Nat.mod_lt _ (by decide)
  by_cases h : x / 2 ^ r % 2 = 1
  · rw [h]; rfl
  · have h0 : x / 2 ^ r % 2 = 0 := by omega
    rw [h0]; rfl
theorem pb_bit (L : List Int) (j : Nat) {r : Nat} (hr : r < 8) : ∀ m, (pb L m j).testBit r = (decide (8 * j + r < m) && hbit L (8 * j + r))
  | 0 => by
    show (0 : Nat).testBit r = _
    rw [Nat.zero_testBit]
    simp
  | m + 1 => by
    have ih := pb_bit L j hr m
    have hroom := pb_room L m
    show (pb L m j + (if m / 8 = j ∧ hbit L m = true then 2 ^ (m % 8) else 0)).testBit r = _
    by_cases e : m / 8 = j
    · subst e
      by_cases hb : hbit L m = true
      · rw [if_pos ⟨rfl, hb⟩, Nat.add_comm]
        rcases Nat.lt_trichotomy r (m % 8) with h | h | h
        · rw [Nat.testBit_two_pow_add_gt h, ih]
          have h1 : decide (8 * (m / 8) + r < m) = true := decide_eq_true (by omega)
          have h2 : decide (8 * (m / 8) + r < m + 1) = true := decide_eq_true (by omega)
          rw [h1, h2]
        · subst h
          rw [Nat.testBit_two_pow_add_eq, Nat.testBit_lt_two_pow hroom]
          have h0 : 8 * (m / 8) + m % 8 = m := by omega
          have h2 : decide (m < m + 1) = true := decide_eq_true (by omega)
          rw [h0, h2, hb]
          rfl
        · have hlt : 2 ^ (m % 8) + pb L m (m / 8) < 2 ^ r := by
            have h1 : 2 ^ (m % 8 + 1) ≤ 2 ^ r := Nat.pow_le_pow_right (by decide) h
            rw [Nat.pow_succ] at h1
            omega
          rw [Nat.testBit_lt_two_pow hlt]
          have h2 : decide (8 * (m / 8) + r < m + 1) = false := decide_eq_false (by omega)
          rw [h2]
          rfl
      · rw [if_neg (fun h => hb h.2), Nat.add_zero, ih]
        by_cases h : 8 * (m / 8) + r = m
        · rw [h]
          have hb' : hbit L m = false := by simpa using hb
          rw [hb', Bool.and_false, Bool.and_false]
        · have h3 : decide (8 * (m / 8) + r < m + 1) = decide (8 * (m / 8) + r < m) := decide_eq_decide.2 (by omega)
          rw [h3]
    · rw [if_neg (fun h => e h.1), Nat.add_zero, ih]
      have h3 : decide (8 * j + r < m + 1) = decide (8 * j + r < m) := decide_eq_decide.2 (by omega)
      rw [h3]
theorem bbit_pk {L : List Int} {t : Nat} (ht : t < 3 * L.length) : bbit (byt (pkL L (3 * L.length))) t = if hbit L t = true then 1 else 0 := by
  have hj : t / 8 < pkN L := by unfold pkN; omega
  unfold bbit
  have hg : ((byt (pkL L (3 * L.length))).get! (t / 8)).toNat = pb L (3 * L.length) (t / 8) := by
    have h := byt_bts (pkL_lo L (3 * L.length)) (j := t / 8) (by rw [pkL_len]; exact hj)
    unfold bts at h
    rw [pkL_at _ _ hj] at h
    injection h with _ h
    exact_mod_cast h
  rw [hg, tb_iff, pb_bit L (t / 8) (Nat.mod_lt _ (by decide))]
  have h0 : 8 * (t / 8) + t % 8 = t := by omega
  rw [h0, decide_eq_true ht, Bool.true_and]
theorem upv_pk {L : List Int} {i : Nat} (hi : i < L.length) (hv : hpv (L.getD i 0) < 8) : upv (byt (pkL L (3 * L.length))) i = hpv (L.getD i 0) := by
  have hb : ∀ k, k < 3 → bbit (byt (pkL L (3 * L.length))) (3 * i + k) = hpv (L.getD i 0) / 2 ^ k % 2 := fun k hk => by
    rw [bbit_pk (by omega)]
    unfold hbit
    rw [show (3 * i + k) / 3 = i by omega, show (3 * i + k) % 3 = k by omega]
    have : hpv (L.getD i 0) / 2 ^ k % 2 < 2 := Nat.mod_lt _ (by decide)
    by_cases h : hpv (L.getD i 0) / 2 ^ k % 2 = 1
    · rw [h]; rfl
    · have h0 : hpv (L.getD i 0) / 2 ^ k % 2 = 0 := by omega
      rw [h0]; rfl
  unfold upv
  have h0 := hb 0 (by decide)
  have h1 := hb 1 (by decide)
  have h2 := hb 2 (by decide)
  rw [Nat.add_zero] at h0
  rw [h0, h1, h2]
  generalize hpv (L.getD i 0) = x at hv ⊢
  have : x = 0 ∨ x = 1 ∨ x = 2 ∨ x = 3 ∨ x = 4 ∨ x = 5 ∨ x = 6 ∨ x = 7 := by omega
  rcases this with rfl | rfl | rfl | rfl | rfl | rfl | rfl | rfl <;> rfl
theorem upL_pk {L : List Int} (h : hGood L = true) : upL (pkF L) L.length = L := by
  rw [pkF_yes h]
  apply List.ext_getElem?
  intro i
  by_cases h1 : i < L.length
  · have hg := (hGood_iff L).1 h i h1
    have e : L[i]? = some (L.getD i 0) := by rw [List.getD_eq_getElem?_getD, List.getElem?_eq_getElem h1]; rfl
    have hv : hpv (L.getD i 0) < 8 := by unfold hpv; split <;> omega
    have hu := upv_pk h1 hv
    unfold upL
    rw [List.getElem?_map, List.getElem?_range h1, e]
    show some (uph _ i) = _
    unfold uph
    rw [hu]
    unfold hpv
    congr 1
    by_cases q : L.getD i 0 < 0
    · rw [if_pos q, if_pos rfl]; omega
    · rw [if_neg q, if_neg (by omega)]; omega
  · rw [List.getElem?_eq_none (by rw [upL_len]; omega), List.getElem?_eq_none (by omega)]
theorem upOk_pk {L : List Int} (h : hGood L = true) : upOk (pkF L) L.length = true := by
  unfold upOk
  rw [upL_pk h, h]
  have h1 : (3 * L.length + 7) / 8 = (pkF L).size := by rw [pkF_yes h, byt_size, pkL_len]; rfl
  rw [decide_eq_true h1, decide_eq_true rfl]
  rfl
/-- What is packed comes back. -/
theorem up_pk {L : List Int} (h : hGood L = true) : upF (pkF L) (L.length : Nat) = L ∧ upC (pkF L) (L.length : Nat) = 0 := by
  have hk : upOk (pkF L) ((L.length : Nat) : Int).toNat = true := by rw [Int.toNat_natCast]; exact upOk_pk h
  refine ⟨?_, upC_yes (by omega) hk⟩
  rw [upF_yes (by omega) hk, Int.toNat_natCast, upL_pk h]
end Go.Proofs.YtpnocklldlacjaaDoor

namespace Go.Proofs.YtpnocklldlacjaaDoor
open Go.RowKit

/-- The first k rows read; nothing if one cannot be taken. -/
def rRs (f : Nat → Nat) (N cells : Nat) (st : Nat × Bool) : Nat → Option (List (List Int) × List (List Int) × (Nat × Bool))
  | 0 => some ([], [], st)
  | k + 1 => match rRs f N cells st k with
    | none => none
    | some (P, D, s) => if s.2 = true then some (P, D, s) else if upC (rb f N s ((3 * cells + 7) / 8)).1 (cells : Nat) = 0 then some (P ++ [upF (rb f N s ((3 * cells + 7) / 8)).1 (cells : Nat)], D ++ [(rDs f N (rb f N s ((3 * cells + 7) / 8)).2 cells).1], (rDs f N (rb f N s ((3 * cells + 7) / 8)).2 cells).2) else none
theorem nb_byt {l : List Nat} (h : Lo l) : nb (byt l) = l := by
  refine List.ext_getElem (by rw [nb_len, byt_size]) fun j h1 h2 => ?_
  have e1 := nb_at (byt l) (j := j) (by rw [byt_size]; exact h2)
  have e2 := lies_byt h j h2
  rw [Nat.zero_add] at e2
  rw [List.getD_eq_getElem?_getD, List.getElem?_eq_getElem h1] at e1
  rw [List.getD_eq_getElem?_getD, List.getElem?_eq_getElem h2] at e2
  exact e1.trans e2
theorem step_d {W H t : Int} {D P : List Int} (h : RowOk W H t D P) {j : Nat} (hj : j < D.length) : -1 ≤ D.getD j 0 ∧ D.getD j 0 < 65535 := by
  have h1 := h.each j (by rw [← h.dl]; omega)
  unfold StepOk at h1
  split at h1
  · omega
  · split at h1
    · omega
    · omega
theorem step_p {W H t : Int} {D P : List Int} (h : RowOk W H t D P) {j : Nat} (hj : j < P.length) : -1 ≤ P.getD j 0 ∧ P.getD j 0 ≤ 3 := by
  have h1 := h.each j (by rw [← h.pl]; omega)
  unfold StepOk at h1
  split at h1
  · omega
  · split at h1
    · omega
    · omega
theorem rRs_ok {f : Nat → Nat} {N p cells : Nat} {d : Tb} (hd : TbOk d) (hc : (cells : Int) = d.w * d.h) : ∀ k, k ≤ d.targets.length → p + (imRs d k).length ≤ N → Lies f p (imRs d k) → rRs f N cells (p, false) k = some (d.hop.take k, d.dist.take k, (p + (imRs d k).length, false))
  | 0, _, _, _ => by simp [rRs, imRs]
  | k + 1, hk, hN, h => by
    have hR := hd.rows k (by omega)
    have el : (imRs d (k + 1)).length = (imRs d k).length + (imR d k).length := by show (imRs d k ++ _).length = _; rw [List.length_append]
    rw [el] at hN ⊢
    have ih := rRs_ok (f := f) (N := N) (p := p) (cells := cells) hd hc k (by omega) (by omega) (Lies.left (b := imR d k) h)
    have hr : Lies f (p + (imRs d k).length) (imR d k) := Lies.right (a := imRs d k) h
    have hdl := hd.dl
    have hhl := hd.hl
    have hgp : d.hop.take (k + 1) = d.hop.take k ++ [d.hop.getD k []] := by
      rw [List.take_add_one, List.getD_eq_getElem?_getD, List.getElem?_eq_getElem (by omega)]
      rfl
    have hgd : d.dist.take (k + 1) = d.dist.take k ++ [d.dist.getD k []] := by
      rw [List.take_add_one, List.getD_eq_getElem?_getD, List.getElem?_eq_getElem (by omega)]
      rfl
    rw [hgp, hgd]
    unfold imR at hr el
    have eR : (imR d k).length = pkN (d.hop.getD k []) + 2 * (d.dist.getD k []).length := by unfold imR; rw [List.length_append, pkL_len, imD_len]
    obtain ⟨P, hP⟩ : ∃ P, d.hop.getD k [] = P := ⟨_, rfl⟩
    obtain ⟨D, hD⟩ : ∃ D, d.dist.getD k [] = D := ⟨_, rfl⟩
    rw [hP, hD] at hR hr eR ⊢
    have lP : P.length = cells := by have := hR.pl; omega
    have lD : D.length = cells := by have := hR.dl; omega
    have hG : hGood P = true := (hGood_iff P).2 fun i hi => step_p hR hi
    have sz : (pkF P).size = (3 * cells + 7) / 8 := by rw [pkF_yes hG, byt_size, pkL_len]; unfold pkN; rw [lP]
    have hN1 : pkN P = (3 * cells + 7) / 8 := by unfold pkN; rw [lP]
    obtain ⟨q, hq⟩ : ∃ q, p + (imRs d k).length = q := ⟨_, rfl⟩
    rw [hq] at hr ih
    have e1 := rb_ok (f := f) (N := N) (p := q) (t := pkF P) (by rw [sz]; omega) (by rw [pkF_yes hG, nb_byt (pkL_lo P _)]; exact hr.left)
    rw [sz] at e1
    have hr2 : Lies f (q + (3 * cells + 7) / 8) (imD D cells) := by
      have := hr.right
      rw [pkL_len, hN1, lD] at this
      exact this
    have e2 := rDs_ok (f := f) (N := N) (p := q + (3 * cells + 7) / 8) (D := D) (fun j hj => step_d hR hj) cells (by omega) (by omega) hr2
    obtain ⟨u1, u2⟩ := up_pk hG
    rw [lP] at u1 u2
    simp only [rRs]
    rw [ih]
    simp only
    rw [if_neg (by decide), e1]
    simp only
    rw [if_pos u2, u1, e2]
    simp only
    have hq2 : q + (3 * cells + 7) / 8 + 2 * cells = p + ((imRs d k).length + (imR d k).length) := by omega
    rw [hq2, ← lD, List.take_length]
end Go.Proofs.YtpnocklldlacjaaDoor
