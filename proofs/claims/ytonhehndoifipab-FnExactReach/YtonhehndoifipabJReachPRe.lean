/-
  Proved: laws.FnExactReach answers true for every argument (Reach answers as its specification, in memory of its own, and writes into no argument); no condition.
-/
import Derived.Test.YtonhehndoifipabJReachLRe
import Derived.Test.YtonhehndoifipabJReachSRC
import Derived.Test.YtonhehndoifipabJReachIRF
import Derived.Test.YtonhehndoifipabJReachRGr
import Derived.Test.YtonhehndoifipabJReachRB
import Derived.WalkKit
import Derived.ProofKit
import Derived.OpenShut
import Derived.ShutString
import Derived.ChangeOld
import Derived.Below
namespace Go.Proofs.Ytonhehndoifipab.fnExactReach
open Go.ChangeShapes Go.WideShapes Go.ChangeAt Go.RowKit

theorem own : ownKnob Try.prog.godebug = none := by kernel_rfl
theorem laidOut : laidOutB Try.prog = true := by kernel_rfl

set_option maxRecDepth 100000 in
theorem lifted (os : Os) (started : os.Started) (H : Type) (enc : TypeId × Value → H) :
    ReturnsInHanded {} Try.checked os 3 .any (Rows.fnExactReachSpec.pre6 enc Try.prog Try.f3 Rows.fnExactReachRow.domain false) (Rows.fnExactReachSpec.post enc Try.prog Try.f3 false true false false) := by
  refine returnsInHanded_of_change (C := Try.checked) own started (by kernel_rfl) Try.func3
    (ChangeSpec.witness6 (enc := enc) (C := Try.checked) false ⟨#[], #[.agg #[.int .i64 0, .slice none 0 0, .slice none 0 0, .slice none 0 0, .slice none 0 0], .slice none 0 0], []⟩ 8 (by kernel_rfl) (by kernel_rfl) (by kernel_rfl) (by kernel_rfl)) ?_
  intro W base args ds gs before hval0 hW _ _
  have hval : ∀ (j : Nat) t v, Try.f3.params[j]? = some t → args[j]? = some v → Value.okWide Try.prog W .any base t v := hval0
  have hW' := hW
  obtain ⟨p, q, hA0, hV, rfl, hfz, hnd⟩ := hW
  have hA : DataW.TrodAll enc Try.prog W 0 (fun _ => true) true Try.f3.params.toList args.toList ds p := hA0
  rw [Try.params3] at hA hval
  obtain ⟨v0, vs0, d0, ds0, p0, q0, hargs, rfl, rfl, h0, r0⟩ := trodAll_cons hA
  obtain ⟨v1, vs1, d1, ds1, p1, q1, rfl, rfl, rfl, h1, r1⟩ := trodAll_cons r0
  obtain ⟨rfl, rfl, rfl⟩ := trodAll_nil r1
  obtain rfl : args = #[v0, v1] := by cases args; simp_all
  obtain ⟨rfl, rfl⟩ := trodVars_none hV
  obtain ⟨cs0, hcs0, hz0⟩ := okWide_struct Try.underlying24 (hval 0 24 v0 rfl rfl)
  have k0 := h0
  have lt0 : ∀ x ∈ p0, x.block < W.heap.size := by obtain ⟨m, hm⟩ := k0; exact DataW.trod_lt m _ _ _ hm
  obtain ⟨g0, u0_1, u0_2, u0_3, u0_4, he0, hv0, hl0⟩ := (show ∃ (d : Gr) (u0_1 u0_2 u0_3 u0_4 : Value), v0 = gragg d u0_1 u0_2 u0_3 u0_4 ∧ GrV W d u0_1 u0_2 u0_3 u0_4 ∧ GrL d from by
    obtain ⟨fuel, hf⟩ := h0
    obtain ⟨d, u0_1, u0_2, u0_3, u0_4, hc, hv, hl⟩ := gr_of Try.underlying3 (by kernel_rfl) Try.underlying22 (by kernel_rfl) Try.underlying24 (by kernel_rfl) ⟨rfl, rfl, rfl, rfl, rfl⟩ ⟨rfl, rfl, rfl, rfl, rfl⟩ hf
    refine ⟨d, u0_1, u0_2, u0_3, u0_4, ?_, hv, hl⟩
    rw [hcs0] at hc ⊢
    have hc' : cs0.toList = _ := hc
    unfold gragg
    rw [← hc'])
  subst he0
  obtain ⟨a1, len1, cap1, rfl⟩ := okWide_slice Try.underlying22 (hval 1 22 v1 rfl rfl)
  have k1 := h1
  have lt1 : ∀ x ∈ p1, x.block < W.heap.size := by obtain ⟨m, hm⟩ := k1; exact DataW.trod_lt m _ _ _ hm
  obtain ⟨s1, hs1, hl1⟩ := (show ∃ s : List Int, IS W (.slice a1 len1 cap1) s ∧ IL s from by obtain ⟨fuel, hf⟩ := h1; exact is_of Try.underlying22 Try.underlying3 (by kernel_rfl) hf)
  clear hA0 hval0
  refine (lawRe rcF rcC (fun d l _ _ => Nat.le_trans (rcF_le d l) (by decide)) (fun d v1 v2 v3 v4 l u w hb hl h hu => specReach_any d v1 v2 v3 v4 l u w hb hl h hu) (fun d v1 v2 v3 v4 l u w hb hl h hc hu => implReach_any d v1 v2 v3 v4 l u w hb hl h hc hu) g0 _ _ _ _ s1 _ W hl0 hl1 hv0 hs1).mono fun e W' ⟨he, bel⟩ => ?_
  subst he
  exact ⟨_, rfl, _, _, _, [], _, [], hW', trodAll_mk1 (shut_bool Try.underlying4 _), (trodAll_cons_mk (Below.trod laidOut (by kernel_rfl) (of_decide_eq_true (by kernel_rfl)) k0 bel lt0) (trodAll_cons_mk (Below.trod laidOut (by kernel_rfl) (of_decide_eq_true (by kernel_rfl)) k1 bel lt1) trodAll_mk0)), rfl, bel.frame _, fun h => by cases h⟩

theorem over : Rows.fnExactReachRow.holds Try.pinned (OpenSpec.ofChange Rows.fnExactReachSpec) :=
  OpenClaim.holds_of_wide 3 Try.f3 rfl rfl rfl rfl rfl rfl rfl ⟨rfl, rfl, rfl, rfl, rfl⟩ rfl rfl rfl rfl rfl (by kernel_rfl) Try.func3 (by kernel_rfl)
    (of_decide_eq_true (by kernel_rfl)) (by unfold Func.isWrapper; first | (rw [if_pos (by decide +kernel)]; kernel_rfl) | (rw [if_neg (by decide +kernel)]; exact ⟨rfl, rfl⟩))
    (fun os started H enc _ => lifted os started H enc)

end Go.Proofs.Ytonhehndoifipab.fnExactReach
namespace Go.Proofs.Ytonhehndoifipab
theorem reach_holds : Rows.FnExactReachSaid := fnExactReach.over
#print axioms reach_holds
end Go.Proofs.Ytonhehndoifipab
