/-
  What can be reached over edges, as a list of bools.
-/
import Derived.Test.YtonhehndoifipabJReachED
import Derived.Test.YtonhehndoifipabJReachBL0
namespace Go.Proofs.Ytonhehndoifipab
open Go.RowKit

/-- What can be reached. -/
inductive Rch (E : List Ed) (F : List Int) : Int → Prop
  | base {c : Int} : c ∈ F → Rch E F c
  | step {e : Ed} : e ∈ E → Rch E F e.f → Rch E F e.t
open Classical in
noncomputable def rchL (n : Nat) (E : List Ed) (F : List Int) : List Bool := (List.range n).map fun c : Nat => decide (Rch E F (c : Int))
theorem rchL_length (n : Nat) (E : List Ed) (F : List Int) : (rchL n E F).length = n := by unfold rchL; simp
theorem rchL_getD (n : Nat) (E : List Ed) (F : List Int) {c : Nat} (hc : c < n) : (rchL n E F).getD c false = true ↔ Rch E F (c : Int) := by
  unfold rchL
  rw [List.getD_eq_getElem?_getD, List.getElem?_map, List.getElem?_range hc]
  simp
/-- All edges and beginnings are among so many cells. -/
structure In (n : Nat) (E : List Ed) (F : List Int) : Prop where
  ff : ∀ e ∈ E, 0 ≤ e.f ∧ e.f < n
  tt : ∀ e ∈ E, 0 ≤ e.t ∧ e.t < n
  bb : ∀ c ∈ F, 0 ≤ c ∧ c < n
theorem Rch.inn {n : Nat} {E : List Ed} {F : List Int} (h : In n E F) {c : Int} (hr : Rch E F c) : 0 ≤ c ∧ c < n := by
  cases hr with
  | base h1 => exact h.bb _ h1
  | step h1 _ => exact h.tt _ h1
/-- A set that has what it must, and no more, and is closed. -/
theorem rch_done {n : Nat} {E : List Ed} {F : List Int} {M : Nat → Bool} (hs : ∀ c : Nat, c < n → M c = true → Rch E F (c : Int)) (hb : ∀ c ∈ F, M c.toNat = true)
    (hc : ∀ e ∈ E, M e.f.toNat = true → M e.t.toNat = true) (c : Nat) (hcn : c < n) : M c = (rchL n E F).getD c false := by
  have key : ∀ x : Int, Rch E F x → M x.toNat = true := by
    intro x hx
    induction hx with
    | base h1 => exact hb _ h1
    | step h1 _ ih => exact hc _ h1 ih
  rw [Bool.eq_iff_iff, rchL_getD n E F hcn]
  constructor
  · exact hs c hcn
  · intro h
    have := key _ h
    rwa [Int.toNat_natCast] at this
/-- One more is marked. -/
def upd (M : Nat → Bool) (t : Nat) : Nat → Bool := fun j => if j = t then true else M j
theorem upd_keeps {M : Nat → Bool} {t j : Nat} (h : M j = true) : upd M t j = true := by unfold upd; split <;> simp_all
/-- How many are not marked. -/
def cntF (M : Nat → Bool) : Nat → Nat
  | 0 => 0
  | n + 1 => cntF M n + (if M n = true then 0 else 1)
theorem cntF_le (M : Nat → Bool) (n : Nat) : cntF M n ≤ n := by
  induction n with
  | zero => exact Nat.le_refl _
  | succ n ih => unfold cntF; split <;> omega
theorem cntF_upd_ge {M : Nat → Bool} {t : Nat} : ∀ {n : Nat}, n ≤ t → cntF (upd M t) n = cntF M n
  | 0, _ => rfl
  | n + 1, h => by
    unfold cntF
    rw [cntF_upd_ge (by omega)]
    have : upd M t n = M n := by unfold upd; rw [if_neg (by omega)]
    rw [this]
theorem cntF_upd {M : Nat → Bool} {t : Nat} (ht : M t = false) : ∀ {n : Nat}, t < n → cntF (upd M t) n + 1 = cntF M n
  | 0, h => by omega
  | n + 1, h => by
    unfold cntF
    by_cases e : t = n
    · subst e
      rw [cntF_upd_ge (Nat.le_refl _)]
      have h1 : upd M t t = true := by unfold upd; rw [if_pos rfl]
      rw [if_pos h1, if_neg (by rw [ht]; decide)]
    · have h1 := cntF_upd ht (n := n) (by omega)
      have h2 : upd M t n = M n := by unfold upd; rw [if_neg (by omega)]
      rw [h2]
      omega
theorem row_set {w : World} {B n t : Nat} {M : Nat → Bool} (h : w.rowIs B 4 n (fun j => .bool (M j))) : (w.setCell ⟨B, t, none⟩ (.bool true)).rowIs B 4 n (fun j => .bool (upd M t j)) :=
  (h.set t _).congr fun j _ => by unfold upd; by_cases e : j = t <;> simp [e]
/-- A row that holds the bools of a list reads as it. -/
theorem row_vs {w : World} {B n c : Nat} {L : List Bool} (hl : L.length = n) (h : w.rowIs B 4 n (fun j => .bool (L.getD j false))) : VS w (.slice (some ⟨B, 0, none⟩) n c) L :=
  ⟨_, B, 0, c, by rw [hl], fun _ => rfl, fun j hj => by rw [Nat.zero_add]; exact h.cell (by omega)⟩
theorem row_vf {w w0 : World} {B n c : Nat} {L : List Bool} (hl : L.length = n) (h : w.rowIs B 4 n (fun j => .bool (L.getD j false))) (hB : w0.heap.size ≤ B) (hlt : B < w.heap.size) : ∃ bl, VF w (.slice (some ⟨B, 0, none⟩) n c) L bl ∧ Fr w0 w bl :=
  ⟨_, ⟨_, B, 0, c, by rw [hl], fun _ => rfl, rfl, fun j hj => by rw [Nat.zero_add]; exact ⟨h.cell (by omega), h.frozen j⟩⟩, Fr.one hB hlt _⟩
theorem Try.infoV : (Try.prog.info? 4).map (fun i => (i.zero, i.size, i.bytes)) = some (some (.bool false), 1, 1) := by kernel_rfl
end Go.Proofs.Ytonhehndoifipab
