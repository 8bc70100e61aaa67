/-
  append of numbers onto a row of the call's own.
  Appends onto rows of numbers (AI0), beside those onto bytes (AP).
  The walk of l2kids.
-/
import Derived.Test.YtbjaccalloipcaaDoorJVtB0
import Derived.Test.YtbjaccalloipcaaDoorJVtMK
import Derived.Maps.AppendAt
import Derived.Test.YtbjaccalloipcaaDoorJVtAP
import Derived.Test.YtbjaccalloipcaaDoorJVtVG8
namespace Go.Proofs.YtbjaccalloipcaaDoor
open Go.RowKit

/-- Numbers in cells. -/
def ci (l : List Int) : List Value := l.map fun n => Value.int .i64 n
theorem ci_length (l : List Int) : (ci l).length = l.length := by simp [ci]
theorem ci_append (a b : List Int) : ci (a ++ b) = ci a ++ ci b := by simp [ci]
theorem ci_one (l : List Int) : ∀ u ∈ ci l, u.oneCell' = true := by
  intro u hu
  obtain ⟨n, _, rfl⟩ := List.mem_map.1 hu
  rfl
theorem Tryd.info3 : (Tryd.prog.info? 3).map (fun i => (i.zero, i.size, i.bytes)) = some (some (.int .i64 0), 1, 8) := by kernel_rfl

theorem info_partsI {P : Program} {t : TypeId} {z : Value} {a b : Nat} (h : (P.info? t).map (fun i => (i.zero, i.size, i.bytes)) = some (some z, a, b)) : ∃ i, P.info? t = some i ∧ i.zero = some z ∧ i.size = a ∧ i.bytes = b := by
  cases hi : P.info? t with
  | none => rw [hi] at h; cases h
  | some i => rw [hi] at h; simp at h; exact ⟨i, rfl, h.1, h.2.1, h.2.2⟩
/-- append of numbers onto a row of the call's own. -/
theorem wp_app_i {ops : Array Oper} {rest : List Oper} {o : Oper} {a : Act} {Q : Exit → Act → World → Prop} {w : World} (hgd : o.guard = none) (s x : Operand)
    (ho : o.op = .call { callee := .builtin .append, args := #[s, x], argTypes := #[32, 32] }) (B : Nat) (v : Value) (xs : List Int) (hs : a.eval s = v) (hown : w.ownsRow B 3 1 v xs.length (ci xs))
    (g c : Nat) (ys : List Int) (hx : a.eval x = .slice (some ⟨g, 0, none⟩) ys.length c) (hnews : ∀ j, j < ys.length → w.cell? ⟨g, j, none⟩ = some (.int .i64 (ys.getD j 0))) (hlen : xs.length + ys.length ≤ 100000000) (hbase : B ≤ w.heap.size)
    (h : ∀ v' w' l, Hid (l = xs ++ ys) → w'.ownsRow B 3 1 v' l.length (ci l) → w.grownBy w' v.ownBlock → wpList Tryd.prog ops Q rest (a.put o.dst v') w') : wpList Tryd.prog ops Q (o :: rest) a w := by
  obtain ⟨i0, hi, hz0, hz1, hz2⟩ := info_partsI Tryd.info3
  refine wpList_append_own _ hgd s x 32 ho B 3 i0 (.int .i64 0) 1 8 Tryd.underlying32 hi hz0 hz1 hz2 rfl (by decide) v xs.length (ci xs) hs hown ⟨g, 0, none⟩ ys.length c (ci ys) hx (by rw [ci_length, Nat.mul_one]) (fun j u hj => ?_) (ci_one ys) (by unfold maxLen; omega) (by omega) hbase (fun v' w' h1 h2 _ => ?_)
  · have hjl : j < ys.length := by
      rcases Nat.lt_or_ge j ys.length with h | h
      · exact h
      · rw [List.getElem?_eq_none (by rw [ci_length]; exact h)] at hj; cases hj
    have e : (⟨g, 0, none⟩ : Addr).add j = ⟨g, 0 + j, none⟩ := by unfold Addr.add; split <;> simp_all
    rw [e, Nat.zero_add, hnews j hjl, ← hj]
    simp [ci, List.getD, hjl]
  · refine h v' w' (xs ++ ys) rfl ?_ h2
    rw [List.length_append, ci_append]
    exact h1
theorem app_below_i {B : Nat} {w0 w w' : World} {v : Value} {n : Nat} {xs : List Value} (h : Below B w0 w) (hown : w.ownsRow B 3 1 v n xs) (hB : B ≤ w.heap.size) (hg : w.grownBy w' v.ownBlock) : Below B w0 w' :=
  h.grown hg hB (fun k hk => (hown.lt k hk).1)
theorem kept_i {w w' : World} {B : Nat} {v : Value} {n : Nat} {xs : List Value} (h : w.ownsRow B 3 1 v n xs) (hb : Below w.heap.size w w') : w'.ownsRow B 3 1 v n xs :=
  h.kept (row := none) ⟨hb.os, hb.tape, hb.output, hb.size, fun k hk _ => hb.block k hk⟩ (by cases v.ownBlock <;> simp)
theorem own_is {w : World} {B : Nat} {v : Value} {l : List Int} (h : w.ownsRow B 3 1 v l.length (ci l)) : IS w v l := by
  rcases h.2 with ⟨hv, h0⟩ | ⟨g, c, cur, hv, hb, hg, _⟩
  · have e : l = [] := List.length_eq_zero_iff.1 h0
    subst e
    exact ⟨none, 0, 0, 0, hv, fun h => absurd h (Nat.not_lt_zero _), fun j hj => absurd hj (Nat.not_lt_zero _)⟩
  · refine ⟨some ⟨g, 0, none⟩, g, 0, c, hv, fun _ => rfl, fun j hj => ?_⟩
    rw [hv] at h
    rw [Nat.zero_add, h.cellAt j (by omega)]
    simp [ci, List.getD, hj]
theorem is_nil (w : World) (c : Nat) : IS w (.slice none 0 c) [] := ⟨none, 0, 0, c, rfl, fun h => absurd h (by decide), fun j hj => absurd hj (Nat.not_lt_zero _)⟩
theorem if_nil (w : World) (c : Nat) : IF w (.slice none 0 c) [] [] := ⟨none, 0, 0, c, rfl, fun h => absurd h (by decide), rfl, fun j hj => absurd hj (Nat.not_lt_zero _)⟩
end Go.Proofs.YtbjaccalloipcaaDoor



namespace Go.Proofs.YtbjaccalloipcaaDoor
open Go.RowKit

/-- The places of c children from a on. -/
def kp (nx : Nat → Nat) : Nat → Nat → List Int
  | 0, _ => []
  | c + 1, a => (a : Int) :: kp nx c (nx a)
theorem kp_length (nx : Nat → Nat) : ∀ c a, (kp nx c a).length = c := by
  intro c
  induction c with
  | zero => intro a; rfl
  | succ c ih => intro a; simp [kp, ih]

set_option maxHeartbeats 1000000 in
set_option maxRecDepth 1000000 in
theorem l2kids_any (v : Value) (L : List Nd) (hl : L.length ≤ 1048576) (i e f : Nat) (w : World) (hi : i < L.length) (hf : f ≤ 60) (h0 : 0 ≤ cn L i) (hs : sLoop (sE L.length (cn L) f) (cn L i).toNat (i + 1) = some e) (h : NS w v L) :
    Calls Tryd.prog 19 #[v, .int .i64 i] w fun x w' => ∃ u, x = .returned u ∧ IS w' u (kp (nx L.length (cn L)) (cn L i).toNat (i + 1)) ∧ Below w.heap.size w w' := by
  have HNS := hide h
  obtain ⟨a, b, o, c, rfl, ha, hc⟩ := h
  obtain rfl := ha (by omega)
  obtain ⟨vt, vn, vy, hN, _⟩ := hc i hi
  have HG := hide hN.count
  obtain ⟨C, hC⟩ : ∃ C, cn L i = C := ⟨_, rfl⟩
  have hge := sLoop_ge (fun i e h => (sE_br _ _ _ i e h).lt) _ _ _ hs
  have hbr := br_loop (sE_br _ _ f) _ _ _ (by omega) hs
  have hC2 : (L.getD i .zero).count = C := hC
  rw [hC2] at HG
  rw [hC] at h0 hs hge ⊢
  have HS0 := hide hs
  have hcl : C.toNat ≤ 1048576 := by omega
  clear hc ha hN hC hC2 hs hge hbr
  go_enter Tryd.func19, Tryd.ntmps19
  go_wp2
  go_loopw [5, 6, 7] (fun out x ix wr => ∃ (k p : Nat) (X : List Int), k ≤ C.toNat ∧ ix = .int .i64 k ∧ x = .int .i64 p ∧ p ≤ L.length ∧ X.length = k ∧ sLoop (sE L.length (cn L) f) (C.toNat - k) p = some e ∧ X ++ kp (nx L.length (cn L)) (C.toNat - k) p = kp (nx L.length (cn L)) C.toNat (i + 1) ∧ wr.ownsRow w.heap.size 3 1 out X.length (ci X) ∧ Below w.heap.size w wr) (fun _ _ ix _ => C.toNat - (intOf ix).toNat)
  case atStart => exact ⟨0, i + 1, [], Nat.zero_le _, rfl, by go_num, by omega, rfl, HS0.out, rfl, World.ownsRow_nil _ _ _ _, Below.refl _ _⟩
  case round =>
    obtain ⟨k, p, X, hk, rfl, rfl, hp, hX, hs, hcat, hown, hb⟩ := hrel
    have HO := hide hown
    have HB := hide hb
    have g := cell_kept HG.out hb
    by_cases hlt : k < C.toNat
    · have hlti : decide ((k : Int) < C) = true := decide_eq_true (by omega)
      have hsp : C.toNat - k = (C.toNat - (k + 1)) + 1 := by omega
      rw [hsp, sLoop] at hs
      cases hx : sE L.length (cn L) f p with
      | none => rw [hx] at hs; cases hs
      | some q =>
        rw [hx] at hs
        rw [hsp, kp, nx_of hf hx] at hcat
        have hbr := sE_br _ _ _ _ _ hx
        have HBR := hide hbr
        have hql := hbr.le
        have HS := hide hs
        have HCAT := hide hcat
        have hwr := hb.size
        clear hs hcat hx hbr hown hb
        go_wp2_with (at_builtin; refine wp_app_i rfl _ _ rfl w.heap.size _ X rfl (HO.out.alloc _) wr.heap.size 1 [(p : Int)] rfl ?n1 ?l1 ?b1 ?_)
        case l1 => first | omega | (simp; omega)
        case b1 => first | omega | (simp; omega)
        intro v' w3 l hl3 ho hg
        have HO3 := hide ho
        have HB3 : Hid (Below w.heap.size w w3) := app_below_i (HB.out.alloc hwr _) (HO.out.alloc _) (by simp; omega) hg
        have HL := hl3
        have HX : Hid (l.length = k + 1) := by show _ = _; rw [hl3.out]; simp [hX]
        clear ho hg hl3
        go_wp2_with fail
        refine (l2next_any _ L hl p q w3 HBR.out (HNS.out.below HB3.out)).mono ?_
        rintro x w4 ⟨rfl, rfl⟩
        go_wp2
        go_roundw
        case rel => exact ⟨k + 1, q, l, by omega, by go_num, rfl, hql, HX.out, HS.out, by rw [HL.out, List.append_assoc]; exact HCAT.out, HO3.out, HB3.out⟩
        case measure => simp [intOf]; omega
    · have hlti : decide ((k : Int) < C) = false := decide_eq_false (by omega)
      have HE : Hid (X = kp (nx L.length (cn L)) C.toNat (i + 1)) := by show _ = _; rw [← hcat, show C.toNat - k = 0 by omega, kp, List.append_nil]
      clear hs hcat hown hb
      go_wp2
      go_ret
      exact ⟨_, rfl, by rw [← HE.out]; exact own_is HO.out, HB.out⟩
end Go.Proofs.YtbjaccalloipcaaDoor
