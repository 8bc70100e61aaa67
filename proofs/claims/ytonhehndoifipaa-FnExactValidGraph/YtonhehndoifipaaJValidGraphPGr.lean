/-
  Proved: laws.FnExactValidGraph answers true for every argument (ValidGraph answers as its specification, and writes into no argument); no condition.
-/
import Derived.Test.YtonhehndoifipaaJValidGraphLGr
import Derived.Test.YtonhehndoifipaaJValidGraphSG
import Derived.Test.YtonhehndoifipaaJValidGraphIG
import Derived.Test.YtonhehndoifipaaJValidGraphRGr
import Derived.WalkKit
import Derived.ProofKit
import Derived.OpenShut
import Derived.ShutString
import Derived.ChangeOld
import Derived.Below
namespace Go.Proofs.Ytonhehndoifipaa.fnExactValidGraph
open Go.ChangeShapes Go.WideShapes Go.ChangeAt Go.RowKit

theorem own : ownKnob Try.prog.godebug = none := by kernel_rfl
theorem laidOut : laidOutB Try.prog = true := by kernel_rfl

set_option maxRecDepth 100000 in
theorem lifted (os : Os) (started : os.Started) (H : Type) (enc : TypeId × Value → H) :
    ReturnsInHanded {} Try.checked os 8 .any (Rows.fnExactValidGraphSpec.pre6 enc Try.prog Try.f8 Rows.fnExactValidGraphRow.domain false) (Rows.fnExactValidGraphSpec.post enc Try.prog Try.f8 false true false false) := by
  refine returnsInHanded_of_change (C := Try.checked) own started (by kernel_rfl) Try.func8
    (ChangeSpec.witness6 (enc := enc) (C := Try.checked) false ⟨#[], #[.agg #[.int .i64 0, .slice none 0 0, .slice none 0 0, .slice none 0 0, .slice none 0 0]], []⟩ 8 (by kernel_rfl) (by kernel_rfl) (by kernel_rfl) (by kernel_rfl)) ?_
  intro W base args ds gs before hval0 hW _ _
  have hval : ∀ (j : Nat) t v, Try.f8.params[j]? = some t → args[j]? = some v → Value.okWide Try.prog W .any base t v := hval0
  have hW' := hW
  obtain ⟨p, q, hA0, hV, rfl, hfz, hnd⟩ := hW
  have hA : DataW.TrodAll enc Try.prog W 0 (fun _ => true) true Try.f8.params.toList args.toList ds p := hA0
  rw [Try.params8] at hA hval
  obtain ⟨v0, vs0, d0, ds0, p0, q0, hargs, rfl, rfl, h0, r0⟩ := trodAll_cons hA
  obtain ⟨rfl, rfl, rfl⟩ := trodAll_nil r0
  obtain rfl : args = #[v0] := by cases args; simp_all
  obtain ⟨rfl, rfl⟩ := trodVars_none hV
  obtain ⟨cs0, hcs0, hz0⟩ := okWide_struct Try.underlying44 (hval 0 44 v0 rfl rfl)
  have k0 := h0
  have lt0 : ∀ x ∈ p0, x.block < W.heap.size := by obtain ⟨m, hm⟩ := k0; exact DataW.trod_lt m _ _ _ hm
  obtain ⟨g0, u0_1, u0_2, u0_3, u0_4, he0, hv0, hl0⟩ := (show ∃ (d : Gr) (u0_1 u0_2 u0_3 u0_4 : Value), v0 = gragg d u0_1 u0_2 u0_3 u0_4 ∧ GrV W d u0_1 u0_2 u0_3 u0_4 ∧ GrL d from by
    obtain ⟨fuel, hf⟩ := h0
    obtain ⟨d, u0_1, u0_2, u0_3, u0_4, hc, hv, hl⟩ := gr_of Try.underlying3 (by kernel_rfl) Try.underlying31 (by kernel_rfl) Try.underlying44 (by kernel_rfl) ⟨rfl, rfl, rfl, rfl, rfl⟩ ⟨rfl, rfl, rfl, rfl, rfl⟩ hf
    refine ⟨d, u0_1, u0_2, u0_3, u0_4, ?_, hv, hl⟩
    rw [hcs0] at hc ⊢
    have hc' : cs0.toList = _ := hc
    unfold gragg
    rw [← hc'])
  subst he0
  clear hA0 hval0
  refine (lawGr GrOk (fun _ _ => True) (fun _ _ _ _ _ => trivial) (fun d _ _ _ _ w hb _ h => specGraph_any d _ _ _ _ w hb h) (fun d _ _ _ _ w hb _ h => implGraph_any d _ _ _ _ w hb h) g0 _ _ _ _ W hl0 trivial hv0).mono fun e W' ⟨he, bel⟩ => ?_
  subst he
  exact ⟨_, rfl, _, _, _, [], _, [], hW', trodAll_mk1 (shut_bool Try.underlying4 _), (trodAll_cons_mk (Below.trod laidOut (by kernel_rfl) (of_decide_eq_true (by kernel_rfl)) k0 bel lt0) trodAll_mk0), rfl, bel.frame _, fun h => by cases h⟩

theorem over : Rows.fnExactValidGraphRow.holds Try.pinned (OpenSpec.ofChange Rows.fnExactValidGraphSpec) :=
  OpenClaim.holds_of_wide 8 Try.f8 rfl rfl rfl rfl rfl rfl rfl ⟨rfl, rfl, rfl, rfl, rfl⟩ rfl rfl rfl rfl rfl (by kernel_rfl) Try.func8 (by kernel_rfl)
    (of_decide_eq_true (by kernel_rfl)) (by unfold Func.isWrapper; first | (rw [if_pos (by decide +kernel)]; kernel_rfl) | (rw [if_neg (by decide +kernel)]; exact ⟨rfl, rfl⟩))
    (fun os started H enc _ => lifted os started H enc)

end Go.Proofs.Ytonhehndoifipaa.fnExactValidGraph
namespace Go.Proofs.Ytonhehndoifipaa
theorem validGraph_holds : Rows.FnExactValidGraphSaid := fnExactValidGraph.over
#print axioms validGraph_holds
end Go.Proofs.Ytonhehndoifipaa
