/-
  Plainly: ways to a target over edges with costs, the least lengths of them, and the least first ways.
-/
import Derived.Test.YtohilccbfdienaaJCoRVP
import Derived.Test.YtohilccbfdienaaJCoMK
namespace Go.Proofs.Ytohilccbfdienaa
open Go.RowKit

/-- Edges among so many cells, with costs. -/
structure Ec (n : Nat) (E : List Ed) : Prop where
  ff : ∀ e ∈ E, 0 ≤ e.f ∧ e.f < n
  tt : ∀ e ∈ E, 0 ≤ e.t ∧ e.t < n
  cc : ∀ e ∈ E, 1 ≤ e.c ∧ e.c ≤ 9
  dd : ∀ e ∈ E, 0 ≤ e.d ∧ e.d ≤ 3
/-- A way from a cell to s, and its length. -/
inductive Way (E : List Ed) (s : Int) : Int → Int → Prop
  | base : Way E s s 0
  | step {e : Ed} {l : Int} : e ∈ E → Way E s e.t l → Way E s e.f (l + e.c)
theorem Way.nn {n : Nat} {E : List Ed} {s c l : Int} (hE : Ec n E) (h : Way E s c l) : 0 ≤ l := by
  induction h with
  | base => exact Int.le_refl _
  | step h1 _ ih => have := (hE.cc _ h1).1; omega
theorem Way.least {n : Nat} {E : List Ed} {s c l : Int} (hE : Ec n E) (h : Way E s c l) : ∃ m, Way E s c m ∧ ∀ l, Way E s c l → m ≤ l := by
  have key : ∀ k : Nat, ∀ l, Way E s c l → l ≤ (k : Int) → ∃ m, Way E s c m ∧ ∀ l, Way E s c l → m ≤ l := by
    intro k
    induction k with
    | zero => exact fun l hl hk => ⟨l, hl, fun l' h' => by have := h'.nn hE; omega⟩
    | succ k ih =>
      intro l hl hk
      by_cases h : ∃ l', Way E s c l' ∧ l' ≤ (k : Int)
      · obtain ⟨l', h1, h2⟩ := h
        exact ih l' h1 h2
      · exact ⟨l, hl, fun l' h' => by
          have : ¬ l' ≤ (k : Int) := fun q => h ⟨l', h', q⟩
          omega⟩
  exact key l.toNat l h (by have := h.nn hE; omega)
open Classical in
/-- The least length, or -1. -/
noncomputable def dsF (E : List Ed) (s : Int) (c : Nat) : Int := if h : ∃ m, Way E s (c : Int) m ∧ ∀ l, Way E s (c : Int) l → m ≤ l then Classical.choose h else -1
theorem dsF_some {n : Nat} {E : List Ed} {s l : Int} {c : Nat} (hE : Ec n E) (h : Way E s (c : Int) l) : Way E s (c : Int) (dsF E s c) ∧ ∀ l, Way E s (c : Int) l → dsF E s c ≤ l := by
  have := h.least hE
  unfold dsF
  rw [dif_pos this]
  exact Classical.choose_spec this
theorem dsF_none {E : List Ed} {s : Int} {c : Nat} (h : ∀ l, ¬ Way E s (c : Int) l) : dsF E s c = -1 := by
  unfold dsF
  rw [dif_neg (fun ⟨m, h1, _⟩ => h m h1)]
/-- What is found by steps that are all there is. -/
theorem ds_done {n : Nat} {E : List Ed} {s : Nat} {M : Nat → Int} (hE : Ec n E) (hM : ∀ c : Nat, c < n → M c < 0 → M c = -1) (hs : ∀ c : Nat, c < n → 0 ≤ M c → Way E (s : Int) (c : Int) (M c)) (hb : 0 ≤ M s ∧ M s ≤ 0)
    (hc : ∀ e ∈ E, 0 ≤ M e.t.toNat → 0 ≤ M e.f.toNat ∧ M e.f.toNat ≤ M e.t.toNat + e.c) (c : Nat) (hcn : c < n) : M c = dsF E (s : Int) c := by
  have key : ∀ x l : Int, Way E (s : Int) x l → 0 ≤ M x.toNat ∧ M x.toNat ≤ l := by
    intro x l hx
    induction hx with
    | base => rw [Int.toNat_natCast]; exact hb
    | step h1 _ ih =>
      have := hc _ h1 ih.1
      exact ⟨this.1, by omega⟩
  by_cases h : ∃ l, Way E (s : Int) (c : Int) l
  · obtain ⟨l, hl⟩ := h
    have h1 := dsF_some hE hl
    have h2 := key _ _ h1.1
    rw [Int.toNat_natCast] at h2
    have h3 := h1.2 _ (hs c hcn h2.1)
    omega
  · rw [dsF_none (fun l hl => h ⟨l, hl⟩)]
    rcases Int.lt_or_le (M c) 0 with h1 | h1
    · exact hM c hcn h1
    · exact absurd ⟨_, hs c hcn h1⟩ h
/-- One number is put. -/
def updI (M : Nat → Int) (t : Nat) (v : Int) : Nat → Int := fun j => if j = t then v else M j
theorem updI_same (M : Nat → Int) (t : Nat) (v : Int) : updI M t v t = v := by unfold updI; rw [if_pos rfl]
theorem updI_ne {M : Nat → Int} {t j : Nat} (h : j ≠ t) (v : Int) : updI M t v j = M j := by unfold updI; rw [if_neg h]
theorem row_setI {w : World} {B n t : Nat} {M : Nat → Int} {v : Int} (h : w.rowIs B 3 n (fun j => .int .i64 (M j))) : (w.setCell ⟨B, t, none⟩ (.int .i64 v)).rowIs B 3 n (fun j => .int .i64 (updI M t v j)) :=
  (h.set t _).congr fun j _ => by unfold updI; by_cases e : j = t <;> simp [e]
theorem row_is {w : World} {B n c : Nat} {L : List Int} (hl : L.length = n) (h : w.rowIs B 3 n (fun j => .int .i64 (L.getD j 0))) : IS w (.slice (some ⟨B, 0, none⟩) n c) L :=
  ⟨_, B, 0, c, by rw [hl], fun _ => rfl, fun j hj => by rw [Nat.zero_add]; exact h.cell (by omega)⟩
theorem row_if {w w0 : World} {B n c : Nat} {L : List Int} (hl : L.length = n) (h : w.rowIs B 3 n (fun j => .int .i64 (L.getD j 0))) (hB : w0.heap.size ≤ B) (hlt : B < w.heap.size) : ∃ bl, IF w (.slice (some ⟨B, 0, none⟩) n c) L bl ∧ Fr w0 w bl :=
  ⟨_, ⟨_, B, 0, c, by rw [hl], fun _ => rfl, rfl, fun j hj => by rw [Nat.zero_add]; exact ⟨h.cell (by omega), h.frozen j⟩⟩, Fr.one hB hlt _⟩
/-- How many have none yet. -/
def cntN (M : Nat → Int) : Nat → Nat
  | 0 => 0
  | n + 1 => cntN M n + (if M n < 0 then 1 else 0)
theorem cntN_le (M : Nat → Int) (n : Nat) : cntN M n ≤ n := by
  induction n with
  | zero => exact Nat.le_refl _
  | succ n ih => unfold cntN; split <;> omega
theorem cntN_upd_ge {M : Nat → Int} {t : Nat} {v : Int} : ∀ {n : Nat}, n ≤ t → cntN (updI M t v) n = cntN M n
  | 0, _ => rfl
  | n + 1, h => by
    unfold cntN
    rw [cntN_upd_ge (by omega), updI_ne (by omega)]
theorem cntN_upd {M : Nat → Int} {t : Nat} {v : Int} (ht : M t < 0) (hv : 0 ≤ v) : ∀ {n : Nat}, t < n → cntN (updI M t v) n + 1 = cntN M n
  | 0, h => by omega
  | n + 1, h => by
    unfold cntN
    by_cases e : t = n
    · subst e
      rw [cntN_upd_ge (Nat.le_refl _), updI_same, if_neg (by omega), if_pos ht]
    · have h1 := cntN_upd ht hv (n := n) (by omega)
      rw [updI_ne (fun q => e q.symm)]
      omega
theorem cntN_same {M : Nat → Int} {t : Nat} {v : Int} (ht : 0 ≤ M t) (hv : 0 ≤ v) : ∀ {n : Nat}, cntN (updI M t v) n = cntN M n
  | 0 => rfl
  | n + 1 => by
    unfold cntN
    rw [cntN_same ht hv]
    by_cases e : n = t
    · subst e
      rw [updI_same, if_neg (by omega), if_neg (by omega)]
    · rw [updI_ne e]
theorem cntN_all (n : Nat) : cntN (fun _ => -1) n = n := by
  induction n with
  | zero => rfl
  | succ n ih => unfold cntN; rw [ih, if_pos (by decide)]
/-- All lengths added up, where none is there so many. -/
def msN (K : Nat) (M : Nat → Int) : Nat → Nat
  | 0 => 0
  | n + 1 => msN K M n + (if M n < 0 then K else (M n).toNat)
theorem msN_upd_ge {K : Nat} {M : Nat → Int} {t : Nat} {v : Int} : ∀ {n : Nat}, n ≤ t → msN K (updI M t v) n = msN K M n
  | 0, _ => rfl
  | n + 1, h => by
    unfold msN
    rw [msN_upd_ge (by omega), updI_ne (by omega)]
theorem msN_upd {K : Nat} {M : Nat → Int} {t : Nat} {v : Int} (h0 : 0 ≤ v) (hv : (M t < 0 ∧ v < K) ∨ v < M t) : ∀ {n : Nat}, t < n → msN K (updI M t v) n + 1 ≤ msN K M n
  | 0, h => by omega
  | n + 1, h => by
    unfold msN
    by_cases e : t = n
    · subst e
      rw [msN_upd_ge (Nat.le_refl _), updI_same, if_neg (by omega)]
      by_cases q : M t < 0
      · rw [if_pos q]; omega
      · rw [if_neg q]; omega
    · have h1 := msN_upd h0 hv (n := n) (by omega)
      rw [updI_ne (fun q => e q.symm)]
      omega
/-- The least first way so far, one edge more. -/
def hpS (D H : Nat → Int) (e : Ed) : Nat → Int := if 0 ≤ D e.t.toNat ∧ D e.t.toNat + e.c = D e.f.toNat ∧ (H e.f.toNat < 0 ∨ e.d < H e.f.toNat) then updI H e.f.toNat e.d else H
theorem hpS_yes {D H : Nat → Int} {e : Ed} (h1 : 0 ≤ D e.t.toNat) (h2 : D e.t.toNat + e.c = D e.f.toNat) (h3 : H e.f.toNat < 0 ∨ e.d < H e.f.toNat) : hpS D H e = updI H e.f.toNat e.d := by unfold hpS; rw [if_pos ⟨h1, h2, h3⟩]
theorem hpS_no {D H : Nat → Int} {e : Ed} (h : ¬ (0 ≤ D e.t.toNat ∧ D e.t.toNat + e.c = D e.f.toNat ∧ (H e.f.toNat < 0 ∨ e.d < H e.f.toNat))) : hpS D H e = H := by unfold hpS; rw [if_neg h]
def hpF (D : Nat → Int) (E : List Ed) : Nat → Int := E.foldl (hpS D) (fun _ => -1)
theorem hpF_snoc (D : Nat → Int) (P : List Ed) (e : Ed) : hpF D (P ++ [e]) = hpS D (hpF D P) e := by unfold hpF; rw [List.foldl_append]; rfl
theorem hpF_take {D : Nat → Int} {E : List Ed} {k : Nat} {e : Ed} (h : E[k]? = some e) : hpF D (E.take (k + 1)) = hpS D (hpF D (E.take k)) e := by
  have hk : k < E.length := by
    rcases Nat.lt_or_ge k E.length with h1 | h1
    · exact h1
    · rw [List.getElem?_eq_none h1] at h; cases h
  rw [List.take_add_one, h]
  exact hpF_snoc _ _ _
theorem hpF_rng {D : Nat → Int} {n : Nat} {E : List Ed} (hE : Ec n E) (c : Nat) : -1 ≤ hpF D E c ∧ hpF D E c ≤ 3 := by
  have key : ∀ (L : List Ed) (H : Nat → Int), (∀ e ∈ L, 0 ≤ e.d ∧ e.d ≤ 3) → (∀ c, -1 ≤ H c ∧ H c ≤ 3) → ∀ c, -1 ≤ L.foldl (hpS D) H c ∧ L.foldl (hpS D) H c ≤ 3 := by
    intro L
    induction L with
    | nil => exact fun H _ h c => h c
    | cons a L ih =>
      intro H hL hH c
      refine ih _ (fun e he => hL e (List.mem_cons_of_mem _ he)) (fun c => ?_) c
      unfold hpS
      split
      · unfold updI
        split
        · have := hL a List.mem_cons_self; omega
        · exact hH c
      · exact hH c
  exact key E _ hE.dd (fun _ => by omega) c
theorem dsF_rng {n : Nat} {E : List Ed} (hE : Ec n E) (s : Int) (c : Nat) : -1 ≤ dsF E s c := by
  by_cases h : ∃ l, Way E s (c : Int) l
  · obtain ⟨l, hl⟩ := h
    have := (dsF_some hE hl).1.nn hE
    omega
  · rw [dsF_none (fun l hl => h ⟨l, hl⟩)]; omega
theorem dsF_self {n : Nat} {E : List Ed} (hE : Ec n E) (s : Nat) : dsF E (s : Int) s = 0 := by
  have h1 := dsF_some hE (Way.base (E := E) (s := (s : Int)))
  have h2 := h1.1.nn hE
  have h3 := h1.2 0 Way.base
  omega
/-- No edge from the target begins a least way. -/
theorem hp_target {n : Nat} {E : List Ed} (hE : Ec n E) {s : Nat} {e : Ed} (he : e ∈ E) (hs : e.f.toNat = s) (h0 : 0 ≤ dsF E (s : Int) e.t.toNat) : dsF E (s : Int) e.t.toNat + e.c ≠ dsF E (s : Int) e.f.toNat := by
  rw [hs, dsF_self hE]
  have := (hE.cc e he).1
  omega
theorem eds_ec {g : Gr} (h : GrOk g) : Ec g.n.toNat (eds g) := by
  have key : ∀ e ∈ eds g, ∃ k, k < g.to.length ∧ e = edAt g k := fun e he => by
    obtain ⟨k, hk, rfl⟩ := List.mem_map.1 he
    exact ⟨k, List.mem_range.1 hk, rfl⟩
  have h0 := h.n0
  refine ⟨fun e he => ?_, fun e he => ?_, fun e he => ?_, fun e he => ?_⟩ <;> obtain ⟨k, hk, rfl⟩ := key e he
  · have := srcUp_le g k (g.n.toNat - 1)
    show 0 ≤ ((srcUp g k (g.n.toNat - 1) : Nat) : Int) ∧ ((srcUp g k (g.n.toNat - 1) : Nat) : Int) < _
    omega
  · have h1 := (h.edges k hk).to0
    have h2 := (h.edges k hk).to1
    show 0 ≤ g.to.getD k 0 ∧ g.to.getD k 0 < _
    omega
  · have h1 := (h.edges k hk).cost0
    have h2 := (h.edges k hk).cost1
    show 1 ≤ g.cost.getD k 0 ∧ g.cost.getD k 0 ≤ 9
    omega
  · have h1 := (h.edges k hk).dir0
    have h2 := (h.edges k hk).dir1
    show 0 ≤ g.dir.getD k 0 ∧ g.dir.getD k 0 ≤ 3
    omega
/-- As lists. -/
noncomputable def dsL (n : Nat) (E : List Ed) (s : Int) : List Int := (List.range n).map (dsF E s)
def hpL (n : Nat) (D : Nat → Int) (E : List Ed) : List Int := (List.range n).map (hpF D E)
theorem dsL_length (n : Nat) (E : List Ed) (s : Int) : (dsL n E s).length = n := by unfold dsL; simp
theorem hpL_length (n : Nat) (D : Nat → Int) (E : List Ed) : (hpL n D E).length = n := by unfold hpL; simp
theorem dsL_getD {n c : Nat} (E : List Ed) (s : Int) (hc : c < n) : (dsL n E s).getD c 0 = dsF E s c := by
  unfold dsL; rw [List.getD_eq_getElem?_getD, List.getElem?_map, List.getElem?_range hc]; rfl
theorem hpL_getD {n c : Nat} (D : Nat → Int) (E : List Ed) (hc : c < n) : (hpL n D E).getD c 0 = hpF D E c := by
  unfold hpL; rw [List.getD_eq_getElem?_getD, List.getElem?_map, List.getElem?_range hc]; rfl
/-- When Route answers. -/
def RtOk (g : Gr) (s : Int) : Prop := GrOk g ∧ 0 ≤ s ∧ s < g.n
open Classical in
noncomputable def rtD (g : Gr) (s : Int) : List Int := if RtOk g s then dsL g.n.toNat (eds g) s else []
open Classical in
noncomputable def rtH (g : Gr) (s : Int) : List Int := if RtOk g s then hpL g.n.toNat (dsF (eds g) s) (eds g) else []
open Classical in
noncomputable def rtC (g : Gr) (s : Int) : Int := if RtOk g s then 0 else 1
theorem rt_yes {g : Gr} {s : Int} (h : RtOk g s) : rtD g s = dsL g.n.toNat (eds g) s ∧ rtH g s = hpL g.n.toNat (dsF (eds g) s) (eds g) ∧ rtC g s = 0 := by
  unfold rtD rtH rtC; rw [if_pos h, if_pos h, if_pos h]; exact ⟨rfl, rfl, rfl⟩
theorem rt_no {g : Gr} {s : Int} (h : ¬ RtOk g s) : rtD g s = [] ∧ rtH g s = [] ∧ rtC g s = 1 := by
  unfold rtD rtH rtC; rw [if_neg h, if_neg h, if_neg h]; exact ⟨rfl, rfl, rfl⟩
theorem rtD_len (g : Gr) (s : Int) : (rtD g s).length ≤ 1048576 := by
  by_cases h : RtOk g s
  · rw [(rt_yes h).1, dsL_length]; have := h.1.n1; omega
  · rw [(rt_no h).1]; simp
theorem rtH_len (g : Gr) (s : Int) : (rtH g s).length ≤ 1048576 := by
  by_cases h : RtOk g s
  · rw [(rt_yes h).2.1, hpL_length]; have := h.1.n1; omega
  · rw [(rt_no h).2.1]; simp
end Go.Proofs.Ytohilccbfdienaa
