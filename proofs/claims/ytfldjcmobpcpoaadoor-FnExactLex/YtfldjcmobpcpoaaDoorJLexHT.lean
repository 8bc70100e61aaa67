/-
  The walks of eqToken, eqTokenS, markTokenS and heldTokenS.
-/
import Derived.Test.YtfldjcmobpcpoaaDoorJLexHM
import Derived.Test.YtfldjcmobpcpoaaDoorJLexSL
import Derived.Test.YtfldjcmobpcpoaaDoorJLexTCL
import Derived.BigQuiet
import Derived.Deep.QuietTactic
namespace Go.Proofs.YtfldjcmobpcpoaaDoor
open Go.RowKit

/-- A token as a value. -/
def tagg (t : Nat × Nat × Nat) : Value := .agg #[.int .i64 (t.1 : Nat), .int .i64 (t.2.1 : Nat), .int .i64 (t.2.2 : Nat)]

set_option maxHeartbeats 1000000 in
set_option maxRecDepth 1000000 in
theorem eqTok_any (k a l : Nat) (w : World) :
    Calls Tryd.prog 32 #[tagg (k, a, l), tagg (k, a, l)] w fun e w' => e = .returned (.bool true) ∧ Below w.heap.size w w' := by
  have h1 : ((k : Int) != (k : Int)) = false := by simp
  have h2 : ((a : Int) != (a : Int)) = false := by simp
  have h3 : ((l : Int) != (l : Int)) = false := by simp
  unfold tagg
  go_enter Tryd.func32, Tryd.ntmps32
  go_wp2
  go_ret
  exact ⟨rfl, ((Below.refl _ w).alloc (Nat.le_refl _) _).alloc (by simp) _⟩

theorem TCells.below {w w' : World} {g B : Nat} {l : List (Nat × Nat × Nat)} (h : TCells w g l) (hg : 0 < l.length → g < B) (hb : Below B w w') : TCells w' g l := fun i hi => by
  have hgB := hg (by omega)
  obtain ⟨a, b, c⟩ := h i hi
  exact ⟨by rw [hb.cell (p := ⟨g, i * 3, none⟩) hgB]; exact a, by rw [hb.cell (p := ⟨g, i * 3 + 1, none⟩) hgB]; exact b, by rw [hb.cell (p := ⟨g, i * 3 + 2, none⟩) hgB]; exact c⟩

set_option maxHeartbeats 1000000 in
set_option maxRecDepth 1000000 in
theorem eqTS_any (a1 a2 : Option Addr) (g1 c1 g2 c2 : Nat) (l : List (Nat × Nat × Nat)) (w : World) (hn : l.length ≤ 100000000) (h1 : 0 < l.length → a1 = some ⟨g1, 0, none⟩) (h2 : 0 < l.length → a2 = some ⟨g2, 0, none⟩)
    (hc1 : TCells w g1 l) (hc2 : TCells w g2 l) :
    Calls Tryd.prog 19 #[.slice a1 l.length c1, .slice a2 l.length c2] w fun e w' => e = .returned (.bool true) ∧ Below w.heap.size w w' := by
  have hne : ((l.length : Int) != (l.length : Int)) = false := by simp
  have HC1 := hide hc1
  have HC2 := hide hc2
  clear hc1 hc2
  go_enter Tryd.func19, Tryd.ntmps19
  go_wp2
  go_loopw [5] (fun i wr => ∃ k : Nat, k ≤ l.length ∧ i = .int .i64 k ∧ Below w.heap.size w wr) (fun i _ => l.length - (intOf i).toNat)
  case atStart => exact ⟨0, Nat.zero_le _, rfl, Below.refl _ _⟩
  case round =>
    obtain ⟨k, hk, rfl, hb⟩ := hrel
    have HB := hide hb
    have hbs := hb.size
    by_cases hlt : k < l.length
    · obtain rfl := h1 (by omega)
      obtain rfl := h2 (by omega)
      have hlti : (k : Int) < (l.length : Int) := by omega
      obtain ⟨x0, x1, x2⟩ := HC1.out.below (fun _ => World.block_lt_of_cell? _ _ (HC1.out k hlt).1) hb k hlt
      obtain ⟨y0, y1, y2⟩ := HC2.out.below (fun _ => World.block_lt_of_cell? _ _ (HC2.out k hlt).1) hb k hlt
      obtain ⟨t, ht⟩ : ∃ t, l.getD k (0, 0, 0) = t := ⟨_, rfl⟩
      rw [ht] at x0 x1 x2 y0 y1 y2
      obtain ⟨ta, tb, tc⟩ := t
      simp only at x0 x1 x2 y0 y1 y2
      have HE := hide (fun w => eqTok_any ta tb tc w)
      clear ht hb
      unfold tagg at HE
      have hmx : Tryd.prog.follows .mixedOrders = true := by kernel_rfl
      go_wp2_with fail
      go_region_with (go_at_call 32; refine (HE.out _).mono ?_; rintro e w1 ⟨rfl, hb1⟩)
      all_goals have HB1 : Hid (Below w.heap.size w w1) := HB.out.drew.trans (hb1.mono hbs)
      all_goals clear hb1
      all_goals go_wp2
      all_goals
        go_roundw
        case rel => exact ⟨k + 1, by omega, by go_num, HB1.out⟩
        case measure => simp [intOf]; omega
    · go_wp2
      go_ret
      exact ⟨rfl, HB.out⟩

theorem set_at {W : World} {g o : Nat} {u : Value} (v : Value) (h : W.cell? ⟨g, o, none⟩ = some u) (j : Nat) : (W.setCell ⟨g, o, none⟩ v).cell? ⟨g, j, none⟩ = if j = o then some v else W.cell? ⟨g, j, none⟩ := by
  by_cases e : j = o
  · subst e; rw [if_pos rfl]; exact World.cell?_setCell_same _ _ _ h
  · rw [if_neg e]; exact World.cell?_setCell_other _ _ _ _ (fun h => e (by have := congrArg Addr.off h; exact this.symm))

set_option maxHeartbeats 1000000 in
set_option maxRecDepth 1000000 in
theorem markT_any (a0 : Option Addr) (g n cap k0 : Nat) (w : World) (hn : n ≤ 10000000) (hk0 : k0 ≤ 10000000) (ha : 0 < n → a0 = some ⟨g, 0, none⟩) (hc : ∀ j, j < n * 3 → ∃ v, w.cell? ⟨g, j, none⟩ = some (.int .i64 v)) (hf : ∀ j, j < n * 3 → w.frozen? ⟨g, j, none⟩ = false) :
    Calls Tryd.prog 20 #[.slice a0 n cap, .int .i64 k0] w fun e w' => e = .returned (.int .i64 (k0 + n * 3 : Nat)) ∧ Only g w w' ∧ ∀ j, j < n * 3 → w'.cell? ⟨g, j, none⟩ = some (.int .i64 (k0 + j : Nat)) := by
  have HC := hide hc
  have HF := hide hf
  clear hc hf
  go_enter Tryd.func20, Tryd.ntmps20
  go_wp2
  go_loopw [1, 5] (fun kk i wr => ∃ m : Nat, m ≤ n ∧ i = .int .i64 m ∧ kk = .int .i64 (k0 + m * 3 : Nat) ∧ Only g w wr ∧ (∀ j, j < m * 3 → wr.cell? ⟨g, j, none⟩ = some (.int .i64 (k0 + j : Nat))) ∧ (∀ j, j < n * 3 → ∃ v, wr.cell? ⟨g, j, none⟩ = some (.int .i64 v)) ∧ ∀ j, j < n * 3 → wr.frozen? ⟨g, j, none⟩ = false) (fun _ i _ => n - (intOf i).toNat)
  case atStart => exact ⟨0, Nat.zero_le _, rfl, rfl, Only.refl _ _, fun j hj => absurd hj (by omega), HC.out, HF.out⟩
  case round =>
    obtain ⟨m, hm, rfl, rfl, hon, hmk, hex, hfr⟩ := hrel
    have HM := hide hmk
    have HE := hide hex
    have HR := hide hfr
    have HON := hide hon
    by_cases hlt : m < n
    · obtain rfl := ha (by omega)
      have hlti : (m : Int) < (n : Int) := by omega
      obtain ⟨v0, p0⟩ := hex (m * 3) (by omega)
      obtain ⟨v1, p1⟩ := hex (m * 3 + 1) (by omega)
      obtain ⟨v2, p2⟩ := hex (m * 3 + 2) (by omega)
      have f0 := hfr (m * 3) (by omega)
      have f1 := hfr (m * 3 + 1) (by omega)
      have f2 := hfr (m * 3 + 2) (by omega)
      obtain ⟨K, hK⟩ : ∃ K : Nat, k0 + m * 3 = K := ⟨_, rfl⟩
      have HK := hide hK
      have hKb : K ≤ 40000000 := by omega
      rw [hK]
      clear hmk hex hfr hon hK
      go_wp2
      have q0 := set_at (.int .i64 (K : Nat)) p0
      have q1 := set_at (.int .i64 ((K : Int) + 1)) (W := wr.setCell ⟨g, m * 3, none⟩ (.int .i64 (K : Nat))) (o := m * 3 + 1) (by rw [q0, if_neg (by omega)]; exact p1)
      have q2 := set_at (.int .i64 ((K : Int) + 1 + 1)) (W := (wr.setCell ⟨g, m * 3, none⟩ (.int .i64 (K : Nat))).setCell ⟨g, m * 3 + 1, none⟩ (.int .i64 ((K : Int) + 1))) (o := m * 3 + 2) (by rw [q1, if_neg (by omega), q0, if_neg (by omega)]; exact p2)
      have hon := ((HON.out.setCell (m * 3) (.int .i64 (K : Nat))).setCell (m * 3 + 1) (.int .i64 ((K : Int) + 1))).setCell (m * 3 + 2) (.int .i64 ((K : Int) + 1 + 1))
      have hfz : ∀ j, j < n * 3 → (((wr.setCell ⟨g, m * 3, none⟩ (.int .i64 (K : Nat))).setCell ⟨g, m * 3 + 1, none⟩ (.int .i64 ((K : Int) + 1))).setCell ⟨g, m * 3 + 2, none⟩ (.int .i64 ((K : Int) + 1 + 1))).frozen? ⟨g, j, none⟩ = false := fun j hj => by
        rw [World.frozen?_setCell, World.frozen?_setCell, World.frozen?_setCell]; exact HR.out j hj
      have hcell : ∀ j, (((wr.setCell ⟨g, m * 3, none⟩ (.int .i64 (K : Nat))).setCell ⟨g, m * 3 + 1, none⟩ (.int .i64 ((K : Int) + 1))).setCell ⟨g, m * 3 + 2, none⟩ (.int .i64 ((K : Int) + 1 + 1))).cell? ⟨g, j, none⟩ = if j = m * 3 + 2 then some (.int .i64 ((K : Int) + 1 + 1)) else if j = m * 3 + 1 then some (.int .i64 ((K : Int) + 1)) else if j = m * 3 then some (.int .i64 (K : Nat)) else wr.cell? ⟨g, j, none⟩ := fun j => by rw [q2, q1, q0]
      have hKe := HK.out
      go_roundw
      case rel =>
        refine ⟨m + 1, by omega, by go_num, by go_num, hon, fun j hj => ?_, fun j hj => ?_, hfz⟩
        · rw [hcell]
          by_cases e2 : j = m * 3 + 2
          · rw [if_pos e2]; congr 2; omega
          rw [if_neg e2]
          by_cases e1 : j = m * 3 + 1
          · rw [if_pos e1]; congr 2; omega
          rw [if_neg e1]
          by_cases e0 : j = m * 3
          · rw [if_pos e0]; congr 2; omega
          rw [if_neg e0]; exact HM.out j (by omega)
        · rw [hcell]
          by_cases e2 : j = m * 3 + 2
          · rw [if_pos e2]; exact ⟨_, rfl⟩
          rw [if_neg e2]
          by_cases e1 : j = m * 3 + 1
          · rw [if_pos e1]; exact ⟨_, rfl⟩
          rw [if_neg e1]
          by_cases e0 : j = m * 3
          · rw [if_pos e0]; exact ⟨_, rfl⟩
          rw [if_neg e0]; exact HE.out j hj
      case measure => simp [intOf]; omega
    · have e : m = n := by omega
      subst e
      clear hmk hex hfr
      go_wp2
      go_ret
      exact ⟨rfl, hon, HM.out⟩

set_option maxHeartbeats 1000000 in
set_option maxRecDepth 1000000 in
theorem heldT_any (a0 : Option Addr) (g n cap k0 : Nat) (w : World) (hn : n ≤ 10000000) (hk0 : k0 ≤ 10000000) (ha : 0 < n → a0 = some ⟨g, 0, none⟩) (hc : ∀ j, j < n * 3 → w.cell? ⟨g, j, none⟩ = some (.int .i64 (k0 + j : Nat))) :
    Calls Tryd.prog 21 #[.slice a0 n cap, .int .i64 k0] w fun e w' => e = .returned (.int .i64 (k0 + n * 3 : Nat)) ∧ w' = w := by
  have HC := hide hc
  clear hc
  go_enter Tryd.func21, Tryd.ntmps21
  go_wp2
  go_loop [1, 5] (fun kk i => ∃ m : Nat, m ≤ n ∧ i = .int .i64 m ∧ kk = .int .i64 (k0 + m * 3 : Nat)) (fun _ i => n - (intOf i).toNat)
  case atStart => exact ⟨0, Nat.zero_le _, rfl, rfl⟩
  case round =>
    obtain ⟨m, hm, rfl, rfl⟩ := hrel
    by_cases hlt : m < n
    · obtain rfl := ha (by omega)
      have hlti : (m : Int) < (n : Int) := by omega
      obtain ⟨K, hK⟩ : ∃ K : Nat, k0 + m * 3 = K := ⟨_, rfl⟩
      have p0 : w.cell? ⟨g, m * 3, none⟩ = some (.int .i64 (K : Nat)) := by rw [← hK]; exact HC.out (m * 3) (by omega)
      have p1 : w.cell? ⟨g, m * 3 + 1, none⟩ = some (.int .i64 ((K : Int) + 1)) := by rw [HC.out (m * 3 + 1) (by omega)]; congr 2; omega
      have p2 : w.cell? ⟨g, m * 3 + 2, none⟩ = some (.int .i64 ((K : Int) + 1 + 1)) := by rw [HC.out (m * 3 + 2) (by omega)]; congr 2; omega
      have HK := hide hK
      have hKb : K ≤ 40000000 := by omega
      have h0 : ((K : Int) != (K : Int)) = false := by simp
      have h1 : ((K : Int) + 1 != (K : Int) + 1) = false := by simp
      have h2 : ((K : Int) + 1 + 1 != (K : Int) + 1 + 1) = false := by simp
      rw [hK]
      clear hK
      go_wp2
      have hKe := HK.out
      go_round
      case rel => exact ⟨m + 1, by omega, by go_num, by go_num⟩
      case measure => simp [intOf]; omega
    · have e : m = n := by omega
      subst e
      go_wp2
      go_ret
      exact ⟨rfl, rfl⟩
end Go.Proofs.YtfldjcmobpcpoaaDoor
