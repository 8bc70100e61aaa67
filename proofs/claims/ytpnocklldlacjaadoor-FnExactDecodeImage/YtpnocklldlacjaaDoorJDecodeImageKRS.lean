/-
  Goals that are alike, closed once.
  Appends onto rows of the call's own, as steps of regions that draw.
  Plainly: a row of an image, as impl reads it.
-/
import Derived.Test.YtpnocklldlacjaaDoorJDecodeImageT
import Derived.Test.YtpnocklldlacjaaDoorJDecodeImageIIOW
import Derived.Maps.AppendAt
import Derived.Deep.RegionLaw
import Derived.Test.YtpnocklldlacjaaDoorJDecodeImageIRB
namespace Go.Proofs.YtpnocklldlacjaaDoor
open Go.RowKit

theorem key_rest {T G : Prop} (rest : Hid T → G) (key : T) : G := rest (hide key)
end Go.Proofs.YtpnocklldlacjaaDoor

namespace Go.Proofs.YtpnocklldlacjaaDoor
open Go.RowKit

theorem step_appTg {ops : Array Oper} {o : Oper} {a : Act} {w : World} {K : Act → World → Prop} {Q : Exit → Act → World → Prop} {E : Prop} (hgd : o.guard = none) (s x : Operand)
    (ho : o.op = .call { callee := .builtin .append, args := #[s, x], argTypes := #[28, 28] }) (B : Nat) (v : Value) (xs : List (Tg × Value)) (hs : a.eval s = v) (hown : TgOw w B v xs)
    (g : Nat) (t : Tg) (u : Value) (hx : a.eval x = .slice (some ⟨g, 0, none⟩) 1 1) (hnews : ∀ i, i < 3 → w.cell? ⟨g, i, none⟩ = (tgc t u)[i]?) (hone : u.oneCell' = true) (hlen : xs.length + 1 ≤ 100000000) (hbase : B ≤ w.heap.size)
    (h : ∀ v' w' l, Hid (l = xs ++ [(t, u)]) → TgOw w' B v' l → w.grownBy w' v.ownBlock → K (a.put o.dst v') w') :
    if Region.wanted o (yielded ops a.tmps) = true then Oper.wp Tryd.prog o a w K Q else E := by
  have hw : Region.wanted o (yielded ops a.tmps) = true := by simp [Region.wanted, hgd]
  rw [if_pos hw]
  obtain ⟨i0, hi, hz0, hz1, hz2⟩ := info_partsTg Tryd.infoTg
  refine wp_append_own w s x 28 ho B 56 i0 _ 3 40 Tryd.underlying28 hi hz0 hz1 hz2 rfl (by decide) v xs.length (tgcs xs) hs hown ⟨g, 0, none⟩ 1 1 (tgcs [(t, u)]) hx (tgcs_length _) (fun j y hj => ?_) (tgcs_one (fun p hp => by rw [List.mem_singleton.1 hp]; exact hone)) (by unfold maxLen; omega) (by omega) hbase (fun v' w' h1 h2 _ => ?_)
  · have hjl : j < 3 := by
      rcases Nat.lt_or_ge j 3 with h | h
      · exact h
      · rw [List.getElem?_eq_none (by rw [tgcs_length]; exact h)] at hj; cases hj
    have e : (⟨g, 0, none⟩ : Addr).add j = ⟨g, j, none⟩ := by unfold Addr.add; split <;> simp_all
    have e2 : tgcs [(t, u)] = tgc t u := List.append_nil _
    rw [e, hnews j hjl, ← e2]
    exact hj
  · refine h v' w' (xs ++ [(t, u)]) rfl ?_ h2
    unfold TgOw
    rw [List.length_append, tgcs_append]
    exact h1
theorem step_appII {ops : Array Oper} {o : Oper} {a : Act} {w : World} {K : Act → World → Prop} {Q : Exit → Act → World → Prop} {E : Prop} (hgd : o.guard = none) (s x : Operand)
    (ho : o.op = .call { callee := .builtin .append, args := #[s, x], argTypes := #[23, 23] }) (B : Nat) (v : Value) (xs : List (List Int × Value)) (hs : a.eval s = v) (hown : IIOw w B v xs)
    (g : Nat) (t : List Int) (u : Value) (hx : a.eval x = .slice (some ⟨g, 0, none⟩) 1 1) (hnews : w.cell? ⟨g, 0, none⟩ = some u) (hone : u.oneCell' = true) (hlen : xs.length + 1 ≤ 100000000) (hbase : B ≤ w.heap.size)
    (h : ∀ v' w' l, Hid (l = xs ++ [(t, u)]) → IIOw w' B v' l → w.grownBy w' v.ownBlock → (v'.ownBlock = v.ownBlock ∨ v'.ownBlock = some w.heap.size) → K (a.put o.dst v') w') :
    if Region.wanted o (yielded ops a.tmps) = true then Oper.wp Tryd.prog o a w K Q else E := by
  have hw : Region.wanted o (yielded ops a.tmps) = true := by simp [Region.wanted, hgd]
  rw [if_pos hw]
  obtain ⟨i0, hi, hz0, hz1, hz2⟩ := info_partsII Tryd.infoII
  have hn : ∀ j y, (iics [(t, u)])[j]? = some y → w.cell? ((⟨g, 0, none⟩ : Addr).add j) = some y := fun j y hj => by
    match j, hj with
    | 0, hj =>
      have e : (⟨g, 0, none⟩ : Addr).add 0 = ⟨g, 0, none⟩ := by unfold Addr.add; split <;> simp_all
      rw [e, hnews, ← hj]
      rfl
  obtain ⟨v', w', hr, h1, h2, _, h4⟩ := run_append_own_at (P := Tryd.prog) w B 23 o.type 57 i0 _ 1 24 Tryd.underlying23 hi hz0 hz1 hz2 rfl (by decide) v xs.length (iics xs) hown ⟨g, 0, none⟩ 1 1 (iics [(t, u)]) (by rw [iics_length]; rfl) hn (fun y hy => by rw [List.mem_singleton.1 (show y ∈ [u] from hy)]; exact hone) (by unfold maxLen; omega) (by omega) hbase
  unfold Oper.wp execOp
  simp only [ho, resolve, invoke, builtin, Sem.run_bind, Sem.run_pure, Result.andThen_ok, List.map_toArray, List.map_cons, List.map_nil, hs, hx, hr]
  refine h v' w' (xs ++ [(t, u)]) rfl ?_ h2 h4
  unfold IIOw
  rw [List.length_append, iics_append]
  exact h1
end Go.Proofs.YtpnocklldlacjaaDoor

namespace Go.Proofs.YtpnocklldlacjaaDoor
open Go.RowKit

theorem rDs_all (f : Nat → Nat) (N p : Nat) : ∀ C, p + 2 * C ≤ N → rDs f N (p, false) C = ((List.range C).map (fun k => di (nv f (p + 2 * k) 2)), (p + 2 * C, false))
  | 0, _ => rfl
  | C + 1, h => by
    have ih := rDs_all f N p C (by omega)
    show ((rDs f N (p, false) C).1 ++ [di (rn f N (rDs f N (p, false) C).2 2).1], (rn f N (rDs f N (p, false) C).2 2).2) = _
    rw [ih]
    have e : rn f N (p + 2 * C, false) 2 = (nv f (p + 2 * C) 2, (p + 2 * C + 2, false)) := if_neg (by simp; omega)
    rw [e, List.range_succ, List.map_append]
    simp only [List.map_cons, List.map_nil]
    rw [show p + 2 * C + 2 = p + 2 * (C + 1) by omega]
theorem rDs_stuck (f : Nat → Nat) (N : Nat) {st : Nat × Bool} (h : st.2 = true) : ∀ C, (rDs f N st C).2.2 = true
  | 0 => h
  | C + 1 => by
    show (rn f N (rDs f N st C).2 2).2.2 = true
    unfold rn
    rw [if_pos (.inl (rDs_stuck f N h C))]
theorem rDs_short (f : Nat → Nat) (N p : Nat) (hp : p ≤ N) : ∀ C, N < p + 2 * C → (rDs f N (p, false) C).2.2 = true
  | 0, h => by omega
  | C + 1, h => by
    show (rn f N (rDs f N (p, false) C).2 2).2.2 = true
    by_cases q : p + 2 * C ≤ N
    · rw [rDs_all f N p C q]
      unfold rn
      rw [if_pos (.inr (by show N < p + 2 * C + 2; omega))]
    · unfold rn
      rw [if_pos (.inl (rDs_short f N p hp C (by omega)))]
theorem upC_empty {C : Nat} (h : 1 ≤ C) : upC ByteArray.empty (C : Nat) ≠ 0 := by
  have hn : ¬ upOk ByteArray.empty ((C : Nat) : Int).toNat = true := fun q => by
    have := upOk_size q
    rw [Int.toNat_natCast] at this
    have e : ByteArray.empty.size = 0 := rfl
    omega
  rw [upC_no (by omega) hn]
  decide
/-- What a row makes of the reader. -/
theorem row_ok {s : ByteArray} {st s4 : Nat × Bool} {C j m : Nat} {P D : List (List Int)} (hin : st.1 ≤ s.size) (hC : 1 ≤ C) (hst : st.2 = false) (hr : rRs (fb s) s.size C s4 j = some (P, D, st))
    {B : ByteArray} {sa sf sd : Nat × Bool} {t : ByteArray} (hB : (rb (fb s) s.size st ((3 * C + 7) / 8)).1 = B) (hsa : (rb (fb s) s.size st ((3 * C + 7) / 8)).2 = sa) (hsf : sf = (sa.1, sa.2 || !(upC B (C : Nat) == 0)))
    (ht : (rb (fb s) s.size sf (2 * C)).1 = t) (hsd : (rb (fb s) s.size sf (2 * C)).2 = sd) (hm : t.size = 2 * m) :
    (sd.2 = false → rRs (fb s) s.size C s4 (j + 1) = some (P ++ [upF B (C : Nat)], D ++ [(List.range m).map (dAtB t)], sd)) ∧ (sd.2 = true → rRs (fb s) s.size C s4 (j + 1) = none ∨ ∃ P' D' st', rRs (fb s) s.size C s4 (j + 1) = some (P', D', st') ∧ st'.2 = true) := by
  have hR : rRs (fb s) s.size C s4 (j + 1) = if upC B (C : Nat) = 0 then some (P ++ [upF B (C : Nat)], D ++ [(rDs (fb s) s.size sa C).1], (rDs (fb s) s.size sa C).2) else none := by
    show (match rRs (fb s) s.size C s4 j with | none => none | some (P, D, s0) => if s0.2 = true then some (P, D, s0) else if upC (rb (fb s) s.size s0 ((3 * C + 7) / 8)).1 (C : Nat) = 0 then some (P ++ [upF (rb (fb s) s.size s0 ((3 * C + 7) / 8)).1 (C : Nat)], D ++ [(rDs (fb s) s.size (rb (fb s) s.size s0 ((3 * C + 7) / 8)).2 C).1], (rDs (fb s) s.size (rb (fb s) s.size s0 ((3 * C + 7) / 8)).2 C).2) else none) = _
    rw [hr]
    simp only
    rw [if_neg (by rw [hst]; decide), hB, hsa]
  have hsain : sa.1 ≤ s.size := by rw [← hsa]; exact rb_in hin _
  have hcB : sa.2 = true → upC B (C : Nat) ≠ 0 := fun q => by
    have e : B = ByteArray.empty := by
      rw [← hB]
      unfold rb at hsa ⊢
      split at hsa
      · rename_i hx; rw [if_pos hx]
      · rename_i hx
        rw [← hsa] at q
        cases q
    rw [e]
    exact upC_empty hC
  rw [hR]
  by_cases qc : upC B (C : Nat) = 0
  · rw [if_pos qc]
    have hs2 : sa.2 = false := by
      cases h : sa.2 with
      | false => rfl
      | true => exact absurd qc (hcB h)
    have hsfe : sf = (sa.1, false) := by
      rw [hsf, hs2, qc]
      rfl
    obtain ⟨p, q⟩ := sa
    simp only at hs2 hsain hsfe
    subst hs2
    rw [hsfe] at ht hsd
    by_cases hx : p + 2 * C ≤ s.size
    · have hneg : ¬ ((p, false).2 = true ∨ s.size < (p, false).1 + 2 * C) := by simp; omega
      have et : t = byt ((List.range (2 * C)).map fun j => fb s (p + j)) := by rw [← ht]; unfold rb; rw [if_neg hneg]
      have ed : sd = (p + 2 * C, false) := by rw [← hsd]; unfold rb; rw [if_neg hneg]
      refine ⟨fun _ => ?_, fun h => by rw [ed] at h; cases h⟩
      have hmC : m = C := by
        rw [et, byt_size, List.length_map, List.length_range] at hm
        omega
      rw [rDs_all _ _ _ _ hx, ed, hmC]
      have hlo : Lo ((List.range (2 * C)).map fun j => fb s (p + j)) := fun x hx => by
        obtain ⟨j, _, rfl⟩ := List.mem_map.1 hx
        exact fb_lt s _
      have ht2 : ∀ i, i < 2 * C → fb t i = fb s (p + i) := fun i hi => by
        have h := lies_byt hlo i (by rw [List.length_map, List.length_range]; exact hi)
        rw [Nat.zero_add] at h
        rw [et]
        refine h.trans ?_
        rw [List.getD_eq_getElem?_getD, List.getElem?_map, List.getElem?_range hi]
        rfl
      have hl : (List.range C).map (fun k => di (nv (fb s) (p + 2 * k) 2)) = (List.range C).map (dAtB t) := by
        refine List.map_congr_left fun k hk => ?_
        have hk := List.mem_range.1 hk
        unfold dAtB
        rw [ht2 (2 * k) (by omega), ht2 (2 * k + 1) (by omega)]
        show di (fb s (p + 2 * k) + 256 * (fb s (p + 2 * k + 1) + 256 * 0)) = _
        congr 1
        rw [show p + (2 * k + 1) = p + 2 * k + 1 by omega]
        omega
      rw [hl]
    · have hpos : (p, false).2 = true ∨ s.size < (p, false).1 + 2 * C := .inr (by show s.size < p + 2 * C; omega)
      have ed : sd = (p, true) := by rw [← hsd]; unfold rb; rw [if_pos hpos]
      refine ⟨(fun h => by rw [ed] at h; cases h), fun _ => .inr ⟨_, _, _, rfl, rDs_short _ _ _ hsain _ (by omega)⟩⟩
  · rw [if_neg qc]
    refine ⟨fun h => ?_, fun _ => .inl rfl⟩
    exfalso
    have hsf2 : sf.2 = true := by
      rw [hsf]
      show (sa.2 || !(upC B (C : Nat) == 0)) = true
      rw [show (upC B (C : Nat) == 0) = false from beq_eq_false_iff_ne.2 qc]
      simp
    have : sd.2 = true := by rw [← hsd]; unfold rb; rw [if_pos (.inl hsf2)]
    rw [this] at h
    cases h
theorem row_bad {s : ByteArray} {st sa sf sd : Nat × Bool} {C q : Nat} {B : ByteArray} (hst : st.2 = true) (hsa : (rb (fb s) s.size st q).2 = sa) (hsf : sf = (sa.1, sa.2 || !(upC B (C : Nat) == 0))) (hsd : (rb (fb s) s.size sf (2 * C)).2 = sd) : sd.2 = true := by
  have h1 : sa.2 = true := by rw [← hsa]; unfold rb; rw [if_pos (.inl hst)]
  have h2 : sf.2 = true := by rw [hsf]; show (sa.2 || _) = true; rw [h1]; rfl
  rw [← hsd]
  unfold rb
  rw [if_pos (.inl h2)]
end Go.Proofs.YtpnocklldlacjaaDoor
