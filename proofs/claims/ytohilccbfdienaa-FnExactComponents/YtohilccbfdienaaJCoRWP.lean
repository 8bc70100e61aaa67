/-
  Plainly: the graph of some edges has these edges, in their rows.
-/
import Derived.Test.YtohilccbfdienaaJCoRTD
namespace Go.Proofs.Ytohilccbfdienaa
open Go.RowKit

theorem rows_mono (S : List Ed) : ∀ {n c : Nat}, c ≤ n → (rowsN S c).length ≤ (rowsN S n).length
  | 0, c, h => by obtain rfl : c = 0 := by omega
                  exact Nat.le_refl _
  | n + 1, c, h => by
    by_cases e : c = n + 1
    · subst e; exact Nat.le_refl _
    · have := rows_mono S (n := n) (c := c) (by omega)
      show _ ≤ (rowsN S n ++ flt n S).length
      rw [List.length_append]
      omega
theorem rows_next (S : List Ed) (c : Nat) : (rowsN S (c + 1)).length = (rowsN S c).length + (flt c S).length := by
  show (rowsN S c ++ flt c S).length = _
  rw [List.length_append]
theorem rows_at (S : List Ed) {c k : Nat} : ∀ {n : Nat}, c < n → k < (flt c S).length → (rowsN S n)[(rowsN S c).length + k]? = (flt c S)[k]?
  | 0, h, _ => by omega
  | n + 1, h, hk => by
    show (rowsN S n ++ flt n S)[_]? = _
    by_cases e : c = n
    · subst e
      rw [List.getElem?_append_right (by omega), Nat.add_sub_cancel_left]
    · have h1 := rows_mono S (n := n) (c := c + 1) (by omega)
      rw [rows_next] at h1
      rw [List.getElem?_append_left (by omega)]
      exact rows_at S (by omega) hk
theorem start_at {n c : Nat} (S : List Ed) (h : c ≤ n) : (grOf n S).start.getD c 0 = ((rowsN S c).length : Int) := by
  show ((List.range (n + 1)).map (stA S)).getD c 0 = _
  rw [List.getD_eq_getElem?_getD, List.getElem?_map, List.getElem?_range (by omega)]
  rfl
theorem start_len (n : Nat) (S : List Ed) : (grOf n S).start.length = n + 1 := by show ((List.range (n + 1)).map (stA S)).length = _; simp
theorem rows_le (S : List Ed) (n : Nat) : (rowsN S n).length ≤ S.length := by
  have := (stA_le S n).2
  unfold stA at this
  omega
theorem rowsN_mem {S : List Ed} {x : Ed} : ∀ {n : Nat}, x ∈ rowsN S n → x ∈ S
  | 0, h => by cases h
  | n + 1, h => by
    rcases List.mem_append.1 (show x ∈ rowsN S n ++ flt n S from h) with h | h
    · exact rowsN_mem h
    · exact (mem_flt.1 h).1
theorem rowsN_all {S : List Ed} {x : Ed} {c : Nat} (hx : x ∈ S) (hc : x.f = (c : Int)) : ∀ {n : Nat}, c < n → x ∈ rowsN S n
  | 0, h => by omega
  | n + 1, h => by
    show x ∈ rowsN S n ++ flt n S
    by_cases e : c = n
    · subst e; exact List.mem_append_right _ (mem_flt.2 ⟨hx, hc⟩)
    · exact List.mem_append_left _ (rowsN_all hx hc (by omega))
theorem grOf_ok {n : Nat} {S : List Ed} (hn1 : 1 ≤ n) (hn : n ≤ 1600) (hl : S.length ≤ 6400) (hS : Ec n S) : GrOk (grOf n S) := by
  have hT := rows_le S n
  have e0 : (grOf n S).n = (n : Int) := rfl
  have et : (grOf n S).n.toNat = n := rfl
  have hst : (grOf n S).start.getD n 0 = ((rowsN S n).length : Int) := start_at S (Nat.le_refl _)
  refine ⟨by rw [e0]; omega, by rw [e0]; omega, by rw [start_len, e0]; omega, start_at S (Nat.zero_le _), by rw [et, hst]; omega, ?_, ?_, ?_, fun c hc => ?_, fun e he => ?_⟩
  · rw [et, hst]; show (((rowsN S n).map (·.t)).length : Int) = _; rw [List.length_map]
  · rw [et, hst]; show (((rowsN S n).map (·.d)).length : Int) = _; rw [List.length_map]
  · rw [et, hst]; show (((rowsN S n).map (·.c)).length : Int) = _; rw [List.length_map]
  · rw [et] at hc
    rw [start_at S (by omega), start_at S (by omega), rows_next]
    omega
  · have he' : e < (rowsN S n).length := by
      have : e < ((rowsN S n).map (·.t)).length := he
      rwa [List.length_map] at this
    obtain ⟨x, hx⟩ : ∃ x, (rowsN S n)[e]? = some x := ⟨_, List.getElem?_eq_getElem he'⟩
    have hm := rowsN_mem (List.mem_of_getElem? hx)
    have g1 : (grOf n S).to.getD e 0 = x.t := by show ((rowsN S n).map (·.t)).getD e 0 = _; rw [List.getD_eq_getElem?_getD, List.getElem?_map, hx]; rfl
    have g2 : (grOf n S).dir.getD e 0 = x.d := by show ((rowsN S n).map (·.d)).getD e 0 = _; rw [List.getD_eq_getElem?_getD, List.getElem?_map, hx]; rfl
    have g3 : (grOf n S).cost.getD e 0 = x.c := by show ((rowsN S n).map (·.c)).getD e 0 = _; rw [List.getD_eq_getElem?_getD, List.getElem?_map, hx]; rfl
    have h1 := hS.tt x hm
    have h2 := hS.dd x hm
    have h3 := hS.cc x hm
    exact ⟨by rw [g1]; omega, by rw [g1, e0]; omega, by rw [g2]; omega, by rw [g2]; omega, by rw [g3]; omega, by rw [g3]; omega⟩
theorem segX (S : List Ed) {i : Nat} : ∀ {n : Nat}, i < (rowsN S n).length → ∃ c, c < n ∧ (rowsN S c).length ≤ i ∧ i < (rowsN S (c + 1)).length
  | 0, h => by simp [rowsN] at h
  | n + 1, h => by
    by_cases q : i < (rowsN S n).length
    · obtain ⟨c, h1, h2⟩ := segX S q
      exact ⟨c, by omega, h2⟩
    · exact ⟨n, by omega, by omega, h⟩
/-- Its edges are these. -/
theorem eds_grOf {n : Nat} {S : List Ed} (hn1 : 1 ≤ n) (hn : n ≤ 1600) (hl : S.length ≤ 6400) (hS : Ec n S) : eds (grOf n S) = rowsN S n := by
  have hok := grOf_ok hn1 hn hl hS
  have hlen : (grOf n S).to.length = (rowsN S n).length := by show ((rowsN S n).map (·.t)).length = _; rw [List.length_map]
  apply List.ext_getElem?
  intro i
  unfold eds edsTo
  rw [List.getElem?_map, hlen]
  by_cases hi : i < (rowsN S n).length
  · rw [List.getElem?_range hi]
    obtain ⟨c, h1, h2, h3⟩ := segX S hi
    have h4 := h3
    rw [rows_next] at h4
    have h5 := rows_at S h1 (k := i - (rowsN S c).length) (by omega)
    rw [show (rowsN S c).length + (i - (rowsN S c).length) = i by omega] at h5
    obtain ⟨x, hx⟩ : ∃ x, (flt c S)[i - (rowsN S c).length]? = some x := ⟨_, List.getElem?_eq_getElem (by omega)⟩
    rw [hx] at h5
    have hf := (mem_flt.1 (List.mem_of_getElem? hx)).2
    have hsrc := edAt_src hok (c := c) (e := i) h1 (by rw [start_at S (by omega)]; omega) (by rw [start_at S (by omega)]; omega)
    rw [h5]
    show some (edAt (grOf n S) i) = some x
    congr 1
    have g1 : (grOf n S).to.getD i 0 = x.t := by show ((rowsN S n).map (·.t)).getD i 0 = _; rw [List.getD_eq_getElem?_getD, List.getElem?_map, h5]; rfl
    have g2 : (grOf n S).dir.getD i 0 = x.d := by show ((rowsN S n).map (·.d)).getD i 0 = _; rw [List.getD_eq_getElem?_getD, List.getElem?_map, h5]; rfl
    have g3 : (grOf n S).cost.getD i 0 = x.c := by show ((rowsN S n).map (·.c)).getD i 0 = _; rw [List.getD_eq_getElem?_getD, List.getElem?_map, h5]; rfl
    unfold edAt
    rw [hsrc, g1, g2, g3, ← hf]
  · rw [List.getElem?_eq_none (by simpa using hi), List.getElem?_eq_none (by omega)]
    rfl
theorem rvS_ec {g : Gr} (h : GrOk g) : Ec g.n.toNat (rvS g) := by
  have he := eds_ec h
  refine ⟨fun e hm => ?_, fun e hm => ?_, fun e hm => ?_, fun e hm => ?_⟩ <;> obtain ⟨x, hx, rfl⟩ := List.mem_map.1 hm
  · exact he.tt x hx
  · exact he.ff x hx
  · exact he.cc x hx
  · exact he.dd x hx
theorem rvF_ok {g : Gr} (h : GrOk g) : GrOk (rvF g) := by
  rw [rvF_yes h]
  have h0 := h.n0
  have h1 := h.n1
  exact grOf_ok (by omega) (by omega) (by rw [rvS_length]; exact h.m) (rvS_ec h)
theorem rv_eds {g : Gr} (h : GrOk g) : eds (rvF g) = rowsN (rvS g) g.n.toNat := by
  rw [rvF_yes h]
  have h0 := h.n0
  have h1 := h.n1
  exact eds_grOf (by omega) (by omega) (by rw [rvS_length]; exact h.m) (rvS_ec h)
end Go.Proofs.Ytohilccbfdienaa
