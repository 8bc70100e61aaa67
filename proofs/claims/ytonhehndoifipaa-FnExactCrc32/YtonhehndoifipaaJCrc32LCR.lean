/-
  The walk of laws.FnExactCrc32, out of what impl.Crc32 answers.
-/
import Derived.Test.YtonhehndoifipaaJCrc32CR
import Derived.Test.YtonhehndoifipaaJCrc32IB
namespace Go.Proofs.Ytonhehndoifipaa
open Go.RowKit

set_option maxHeartbeats 1000000 in
set_option maxRecDepth 1000000 in
theorem lawCrc (Q : World → Prop) (hQ : ∀ w w', Q w → Below w.heap.size w w' → Q w')
    (HI0 : ∀ v s w, s.size ≤ 1048576 → Q w → BS w v s → Calls Try.prog 14 #[v] w fun e w' => e = .returned (.int .u32 (crc s : Nat)) ∧ Below w.heap.size w w')
    (v : Value) (s : ByteArray) (w : World) (hn : (s.size : Int) ≤ 9223372036854775807) (hq : Q w) (h : BS w v s) :
    Calls Try.prog 4 #[v] w fun e w' => e = .returned (.bool true) ∧ Below w.heap.size w w' := by
  obtain ⟨a, c, hv⟩ : ∃ a c, v = .slice a s.size c := by obtain ⟨a, _, _, c, h, _⟩ := h; exact ⟨a, c, h⟩
  by_cases hs : ¬ s.size ≤ 1048576
  · have d0 : decide ((1048576 : Int) < (s.size : Int)) = true := decide_eq_true (by omega)
    subst hv
    clear h hs hq HI0 hQ
    go_enter Try.func4, Try.ntmps4
    go_wp2
    go_ret
    exact ⟨rfl, Below.refl _ _⟩
  have hs' : s.size ≤ 1048576 := by omega
  have d0 : decide ((1048576 : Int) < (s.size : Int)) = false := decide_eq_false (by omega)
  have HTO := hide (fun w2 (hb2 : Below w.heap.size w w2) => toB_bs (w := w2) hs' (h.below hb2))
  have HQ := hide (fun w2 (hb2 : Below w.heap.size w w2) => hQ w w2 hq hb2)
  have HS := hide (fun v w2 h2 => specCrc_any v s w2 hs' h2)
  have HI := hide (fun v w2 h1 h2 => HI0 v s w2 hs' h1 h2)
  have HE := hide (fun v1 v2 w2 => eqB_self (w := w2) (v1 := v1) (v2 := v2) hs')
  obtain ⟨R, hR⟩ : ∃ R, crc s = R := ⟨_, rfl⟩
  simp only [hR] at HS HI
  have t1 : ((R : Int) != (R : Int)) = false := by simp
  subst hv
  clear h hs hq HI0 hQ hR hs'
  go_enter Try.func4, Try.ntmps4
  go_wp2_with fail
  refine (HTO.out _ (Below.refl _ _)).mono ?_
  rintro e w1 ⟨rfl, hn1, hb1⟩
  have HN1 := hide hn1
  have HB1 := hide hb1
  obtain ⟨g1, hg1⟩ : ∃ g, w.heap.size = g := ⟨_, rfl⟩
  rw [hg1] at HN1 ⊢
  clear hn1 hb1
  go_wp2_with fail
  refine (HS.out _ _ (HN1.out.bs _)).mono ?_
  rintro e w2 ⟨rfl, rfl⟩
  go_wp2_with fail
  refine (HTO.out _ HB1.out).mono ?_
  rintro e w3 ⟨rfl, hn3, hb3⟩
  have HN3 := hide hn3
  have HB3 : Hid (Below w.heap.size w w3) := HB1.out.trans (hb3.mono HB1.out.size)
  obtain ⟨g3, hg3⟩ : ∃ g, w2.heap.size = g := ⟨_, rfl⟩
  rw [hg3] at HN3 ⊢
  clear hn3 hb3
  go_wp2_with fail
  refine (HI.out _ _ (HQ.out _ HB3.out) (HN3.out.bs _)).mono ?_
  rintro e w4 ⟨rfl, hb4⟩
  have HN4 := hide (HN3.out.below hb4)
  have HB4 : Hid (Below w.heap.size w w4) := HB3.out.trans (hb4.mono HB3.out.size)
  clear hb4
  go_wp2_with fail
  refine (HTO.out _ HB4.out).mono ?_
  rintro e w5 ⟨rfl, hn5, hb5⟩
  have HN5 := hide hn5
  have HN6 := hide (HN4.out.below hb5)
  have HB5 : Hid (Below w.heap.size w w5) := HB4.out.trans (hb5.mono HB4.out.size)
  obtain ⟨g5, hg5⟩ : ∃ g, w4.heap.size = g := ⟨_, rfl⟩
  rw [hg5] at HN5 ⊢
  clear hn5 hb5
  go_wp2_with fail
  refine (HE.out _ _ _ (HN6.out.bs _) (HN5.out.bs _)).mono ?_
  rintro e w6 ⟨rfl, hb6⟩
  have HB6 : Hid (Below w.heap.size w w6) := HB5.out.trans (hb6.mono HB5.out.size)
  clear hb6
  go_wp2
  go_ret
  exact ⟨rfl, HB6.out⟩
end Go.Proofs.Ytonhehndoifipaa
