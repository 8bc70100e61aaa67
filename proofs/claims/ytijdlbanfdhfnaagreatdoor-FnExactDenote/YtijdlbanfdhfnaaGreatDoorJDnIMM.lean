/-
  Impl's methods that lay an area: each is lay with its own closure.
  A declaration of an area, applied by impl.
  Impl's floor while a target is added.
-/
import Derived.Test.YtijdlbanfdhfnaaGreatDoorJDnIMC
namespace Go.Proofs.YtijdlbanfdhfnaaGreatDoor
open Go.RowKit

/-- The world in which a method calls lay: the declaration's box lies there. -/
def dcW (w : World) (d : Dc) (v7 : Value) : World := w.alloc (.cells #[.int .i64 d.kind, .int .i64 d.x1, .int .i64 d.y1, .int .i64 d.x2, .int .i64 d.y2, .int .i64 d.dir, .int .i64 d.cost, v7, .int .i64 d.node] 42)
theorem dcW_below (w : World) (d : Dc) (v7 : Value) : Below w.heap.size w (dcW w d v7) := (Below.refl _ w).alloc (Nat.le_refl _) _
theorem dcW_blk (w : World) (d : Dc) (v7 : Value) : Blk (dcW w d v7) w.heap.size 42 #[.int .i64 d.kind, .int .i64 d.x1, .int .i64 d.y1, .int .i64 d.x2, .int .i64 d.y2, .int .i64 d.dir, .int .i64 d.cost, v7, .int .i64 d.node] := Blk.new _ _ _
set_option maxHeartbeats 2000000 in
set_option maxRecDepth 1000000 in
/-- Out of the floor: nothing is laid. -/
theorem lay_out (F fw fh : Nat) (d : Dc) (v7 : Value) (g : Nat) (cx : Array Value) (w : World) (h7 : ∃ a n c, v7 = .slice a n c)
    (f0 : w.cell? ⟨F, 0, none⟩ = some (.int .i64 (fw : Nat))) (f1 : w.cell? ⟨F, 1, none⟩ = some (.int .i64 (fh : Nat))) (hn : ¬ inF fw fh d) :
    Calls Tryz.prog 50 #[.pointer (some ⟨F, 0, none⟩), dcagg d v7, .func (.func g) #[] cx] w fun e w' => e = .returned (.int .i64 8) ∧ Below w.heap.size w w' := by
  obtain ⟨a7, n7, c7, rfl⟩ := h7
  have HFT := hide (fun V (hV : Below w.heap.size w V) => fits_any F fw fh d (.slice a7 n7 c7) V ⟨_, _, _, rfl⟩ (cell_kept f0 hV) (cell_kept f1 hV))
  have hff : (insd fw fh d.x1 d.y1 && insd fw fh d.x2 d.y2) = false := by
    have h := inF_iff fw fh d
    cases hb : (insd fw fh d.x1 d.y1 && insd fw fh d.x2 d.y2) with
    | false => rfl
    | true => exact absurd (h.1 hb) hn
  rw [hff] at HFT
  unfold dcagg at HFT ⊢
  have HB3 : ∀ o o' o'', Hid (Below w.heap.size w (((w.alloc o).alloc o').alloc o'')) := fun o o' o'' => (((Below.refl _ w).alloc (Nat.le_refl _) _).alloc (by simp) _).alloc (by simp; omega) _
  clear f0 f1 hn hff
  refine (callsIn_wide (n := 3)).1 ?_
  refine callsIn_of_wp_marks Tryz.func50 rfl trivial ?_ rfl
  simp only [Tryz.ntmps50, List.size_toArray, List.length_cons, List.length_nil, Nat.reduceAdd, Nat.reduceSub, Array.replicate_succ, Array.replicate_zero, List.push_toArray, List.append_toArray, List.nil_append, List.cons_append]
  gi_wp2_with fail
  refine ⟨trivial, (callsIn_wide.2 (HFT.out _ (HB3 _ _ _).out)).mono ?_⟩
  rintro e w4 ⟨rfl, hb4⟩
  have HB4 : Hid (Below w.heap.size w w4) := (HB3 _ _ _).out.trans (hb4.mono (HB3 _ _ _).out.size)
  clear hb4
  gi_wp2_with fail
  exact ⟨_, results_tmp rfl _ _ _, rfl, HB4.out⟩
set_option maxHeartbeats 2000000 in
set_option maxRecDepth 1000000 in
theorem wall_walk (F : Nat) (d : Dc) (v7 : Value) (w : World) (Q : Ending → World → Prop) (h7 : ∃ a n c, v7 = .slice a n c)
    (HL : Calls Tryz.prog 50 #[.pointer (some ⟨F, 0, none⟩), dcagg d v7, .func (.func 51) #[] #[]] (dcW w d v7) fun e w' => ∃ b : Int, e = .returned (.int .i64 b) ∧ Q e w') :
    Calls Tryz.prog 20 #[.pointer (some ⟨F, 0, none⟩), dcagg d v7] w Q := by
  obtain ⟨a7, n7, c7, rfl⟩ := h7
  have HH := hide HL
  clear HL
  unfold dcagg dcW at HH
  unfold dcagg
  have HC := HH
  clear HH
  go_enter Tryz.func20, Tryz.ntmps20
  go_wp2_with (go_at_call 50; refine HC.out.mono ?_; rintro e w' ⟨b, rfl, hQ⟩; have HQ := hide hQ; clear hQ)
  exact HQ.out
set_option maxHeartbeats 2000000 in
set_option maxRecDepth 1000000 in
theorem open_walk (F : Nat) (d : Dc) (v7 : Value) (w : World) (Q : Ending → World → Prop) (h7 : ∃ a n c, v7 = .slice a n c)
    (HL : Calls Tryz.prog 50 #[.pointer (some ⟨F, 0, none⟩), dcagg d v7, .func (.func 52) #[] #[]] (dcW w d v7) fun e w' => ∃ b : Int, e = .returned (.int .i64 b) ∧ Q e w') :
    Calls Tryz.prog 21 #[.pointer (some ⟨F, 0, none⟩), dcagg d v7] w Q := by
  obtain ⟨a7, n7, c7, rfl⟩ := h7
  have HH := hide HL
  clear HL
  unfold dcagg dcW at HH
  unfold dcagg
  have HC := HH
  clear HH
  go_enter Tryz.func21, Tryz.ntmps21
  go_wp2_with (go_at_call 50; refine HC.out.mono ?_; rintro e w' ⟨b, rfl, hQ⟩; have HQ := hide hQ; clear hQ)
  exact HQ.out
set_option maxHeartbeats 2000000 in
set_option maxRecDepth 1000000 in
theorem lane_walk (F : Nat) (d : Dc) (v7 : Value) (w : World) (Q : Ending → World → Prop) (h7 : ∃ a n c, v7 = .slice a n c)
    (HL : Calls Tryz.prog 50 #[.pointer (some ⟨F, 0, none⟩), dcagg d v7, .func (.func 53) #[] #[.pointer (some ⟨w.heap.size, 0, none⟩)]] (dcW w d v7) fun e w' => ∃ b : Int, e = .returned (.int .i64 b) ∧ Q e w') :
    Calls Tryz.prog 22 #[.pointer (some ⟨F, 0, none⟩), dcagg d v7] w Q := by
  obtain ⟨a7, n7, c7, rfl⟩ := h7
  have HH := hide HL
  clear HL
  unfold dcagg dcW at HH
  unfold dcagg
  have HC := HH
  clear HH
  go_enter Tryz.func22, Tryz.ntmps22
  go_wp2_with (go_at_call 50; refine HC.out.mono ?_; rintro e w' ⟨b, rfl, hQ⟩; have HQ := hide hQ; clear hQ)
  exact HQ.out
set_option maxHeartbeats 2000000 in
set_option maxRecDepth 1000000 in
theorem gate_walk (F : Nat) (d : Dc) (v7 : Value) (w : World) (Q : Ending → World → Prop) (h7 : ∃ a n c, v7 = .slice a n c)
    (HL : Calls Tryz.prog 50 #[.pointer (some ⟨F, 0, none⟩), dcagg d v7, .func (.func 54) #[] #[.pointer (some ⟨w.heap.size, 0, none⟩)]] (dcW w d v7) fun e w' => ∃ b : Int, e = .returned (.int .i64 b) ∧ Q e w') :
    Calls Tryz.prog 23 #[.pointer (some ⟨F, 0, none⟩), dcagg d v7] w Q := by
  obtain ⟨a7, n7, c7, rfl⟩ := h7
  have HH := hide HL
  clear HL
  unfold dcagg dcW at HH
  unfold dcagg
  have HC := HH
  clear HH
  go_enter Tryz.func23, Tryz.ntmps23
  go_wp2_with (go_at_call 50; refine HC.out.mono ?_; rintro e w' ⟨b, rfl, hQ⟩; have HQ := hide hQ; clear hQ)
  exact HQ.out
set_option maxHeartbeats 2000000 in
set_option maxRecDepth 1000000 in
theorem bar_walk (F : Nat) (d : Dc) (v7 : Value) (w : World) (Q : Ending → World → Prop) (h7 : ∃ a n c, v7 = .slice a n c)
    (HL : Calls Tryz.prog 50 #[.pointer (some ⟨F, 0, none⟩), dcagg d v7, .func (.func 55) #[] #[.pointer (some ⟨w.heap.size, 0, none⟩)]] (dcW w d v7) fun e w' => ∃ b : Int, e = .returned (.int .i64 b) ∧ Q e w') :
    Calls Tryz.prog 24 #[.pointer (some ⟨F, 0, none⟩), dcagg d v7] w Q := by
  obtain ⟨a7, n7, c7, rfl⟩ := h7
  have HH := hide HL
  clear HL
  unfold dcagg dcW at HH
  unfold dcagg
  have HC := HH
  clear HH
  go_enter Tryz.func24, Tryz.ntmps24
  go_wp2_with (go_at_call 50; refine HC.out.mono ?_; rintro e w' ⟨b, rfl, hQ⟩; have HQ := hide hQ; clear hQ)
  exact HQ.out
set_option maxHeartbeats 2000000 in
set_option maxRecDepth 1000000 in
theorem zone_walk (F : Nat) (d : Dc) (v7 : Value) (w : World) (Q : Ending → World → Prop) (h7 : ∃ a n c, v7 = .slice a n c) (hz : ¬ (1 ≤ d.cost ∧ d.cost ≤ 9) → Q (.returned (.int .i64 8)) (dcW w d v7))
    (HL : (1 ≤ d.cost ∧ d.cost ≤ 9) → Calls Tryz.prog 50 #[.pointer (some ⟨F, 0, none⟩), dcagg d v7, .func (.func 56) #[] #[.pointer (some ⟨w.heap.size, 0, none⟩)]] (dcW w d v7) fun e w' => ∃ b : Int, e = .returned (.int .i64 b) ∧ Q e w') :
    Calls Tryz.prog 25 #[.pointer (some ⟨F, 0, none⟩), dcagg d v7] w Q := by
  obtain ⟨a7, n7, c7, rfl⟩ := h7
  have HH := hide HL
  clear HL
  unfold dcagg dcW at HH
  unfold dcagg
  have HZ := hide hz
  unfold dcW at HZ
  clear hz
  by_cases hc : 1 ≤ d.cost ∧ d.cost ≤ 9
  · have HC := hide (HH.out hc)
    clear HH HZ
    obtain ⟨hc1, hc9⟩ := hc
    go_enter Tryz.func25, Tryz.ntmps25
    go_wp2_with (go_at_call 50; refine HC.out.mono ?_; rintro e w' ⟨b, rfl, hQ⟩; have HQ := hide hQ; clear hQ)
    exact HQ.out
  · have HQ := hide (HZ.out hc)
    clear HH HZ
    by_cases h1 : 1 ≤ d.cost
    · have h9 : 9 < d.cost := by omega
      clear hc
      go_enter Tryz.func25, Tryz.ntmps25
      go_wp2
      exact HQ.out
    · have h9 : d.cost < 1 := by omega
      clear hc
      go_enter Tryz.func25, Tryz.ntmps25
      go_wp2
      exact HQ.out
end Go.Proofs.YtijdlbanfdhfnaaGreatDoor

namespace Go.Proofs.YtijdlbanfdhfnaaGreatDoor
open Go.RowKit
set_option linter.unusedVariables false

/-- What a call of a method for a declaration leaves. -/
def ApQ (w : World) (F cb cc M : Nat) (f : Flo) (d : Dc) (i : Nat) (e : Ending) (w' : World) : Prop :=
  ∃ b : Int, e = .returned (.int .i64 b) ∧ b = apC f d ∧ Below M w w' ∧ w.heap.size ≤ w'.heap.size ∧ (∀ (g : Nat) (t : TypeId) (cs : Array Value), t ≠ 63 → t ≠ 50 → t ≠ 58 → Blk w g t cs → Blk w' g t cs) ∧ (b = 0 → ∃ mn vt ns, FlI w' F cb cc M mn (apF f d i) vt ns)
/-- A function with a body is entered. -/
theorem call_enter {P : Program} {f : FuncId} {fn : Func} {c : Code} (hf : P.funcs[f]? = some fn) (hname : (fn.name == "runtime.NumGoroutine") = false) (hb : fn.body = some c) (args : Array Value) (w : World) : (callFunc f args).run P w = .ok (.enter f args) w := by
  have h1 : fn.name ≠ "runtime.NumGoroutine" := by simpa using hname
  simp [callFunc, hf, h1, hb]
open Classical in
theorem apC_area {f : Flo} {d : Dc} (h7 : d.kind ≠ 7) (hn : nmK d.kind = false) : apC f d = if ¬ inF f.w f.h d ∨ (d.kind = 13 ∧ (d.cost < 1 ∨ 9 < d.cost)) then 8 else 0 := by
  unfold apC
  rw [if_neg h7, hn]
  by_cases h : ¬ inF f.w f.h d ∨ (d.kind = 13 ∧ (d.cost < 1 ∨ 9 < d.cost))
  · rw [if_pos h, if_pos h]
  · rw [if_neg h, if_neg h, if_neg (by decide)]
/-- From lay's ending to a method's. -/
theorem apQ_of {w W w' : World} {F cb cc M mn : Nat} {f : Flo} {d : Dc} {i : Nat} {vt : Value} {ns : List (Tg × Value)} {e : Ending} (hm : FlI w F cb cc M mn f vt ns) (hM : M < F) (h7 : d.kind ≠ 7) (hn : nmK d.kind = false) (hc : d.kind = 13 → 1 ≤ d.cost ∧ d.cost ≤ 9) (hB : Below w.heap.size w W)
    (h : ∃ b : Int, e = .returned (.int .i64 b) ∧ (b = 0 ∨ b = 8) ∧ (b = 0 ↔ inF f.w f.h d) ∧ (b = 0 → FlI w' F cb cc M mn (layN d f (arL f.w d)) vt ns) ∧ KpC cb W w') : ∃ b : Int, e = .returned (.int .i64 b) ∧ ApQ w F cb cc M f d i e w' := by
  obtain ⟨b, he, hb, hin, hf, hk⟩ := h
  have hkw : KpC cb w w' := (KpC.of_below hB).trans hk
  have hlc := hm.lc
  have hls := hm.blk.lt
  refine ⟨b, he, b, he, ?_, hkw.below (by omega) (by omega), hkw.size, ?_, ?_⟩
  · rw [apC_area h7 hn]
    by_cases hi : inF f.w f.h d
    · rw [if_neg (fun q => by rcases q with h | ⟨h, q⟩; exact h hi; have := hc h; omega)]; exact hin.2 hi
    · rw [if_pos (.inl hi)]
      rcases hb with h | h
      · exact absurd (hin.1 h) hi
      · exact h
  · intro g t cs h1 _ _ hg
    refine hkw.block hg ?_
    rintro rfl
    obtain ⟨ds, hds, _⟩ := hm.ce
    unfold Blk at hg hds
    rw [hg] at hds
    injection hds with hds
    injection hds with _ h2
    exact h1 h2
  · intro hb0
    refine ⟨mn, vt, ns, ?_⟩
    unfold apF
    rw [hn]
    exact hf hb0
theorem wall_ap (F cb cc M mn : Nat) (f : Flo) (vt : Value) (ns : List (Tg × Value)) (d : Dc) (v7 : Value) (i : Nat) (w : World) (h7 : ∃ a n c, v7 = .slice a n c) (hf : FloOk f) (hm : FlI w F cb cc M mn f vt ns) (hM : M < F) (hd : DcOk d) (hk : d.kind = 8) :
    Calls Tryz.prog 20 #[.pointer (some ⟨F, 0, none⟩), dcagg d v7] w (ApQ w F cb cc M f d i) := by
  have hn : nmK d.kind = false := by rw [hk]; rfl
  have hB := dcW_below w d v7
  have hne : w.heap.size ≠ cb := by have := hm.ce.lt; omega
  refine wall_walk F d v7 w _ h7 ?_
  refine (lay_any F cb cc M mn f vt ns d v7 _ _ _ h7 hf (hm.below hB) (call_enter Tryz.func51 (by kernel_rfl) rfl) (fun f' c V _ _ _ => wallC_any d hk f' c V) (fun h => by omega)).mono (fun e w' h => ?_)
  exact apQ_of hm hM (by omega) hn (fun h => by omega) hB h
theorem open_ap (F cb cc M mn : Nat) (f : Flo) (vt : Value) (ns : List (Tg × Value)) (d : Dc) (v7 : Value) (i : Nat) (w : World) (h7 : ∃ a n c, v7 = .slice a n c) (hf : FloOk f) (hm : FlI w F cb cc M mn f vt ns) (hM : M < F) (hd : DcOk d) (hk : d.kind = 9) :
    Calls Tryz.prog 21 #[.pointer (some ⟨F, 0, none⟩), dcagg d v7] w (ApQ w F cb cc M f d i) := by
  have hn : nmK d.kind = false := by rw [hk]; rfl
  have hB := dcW_below w d v7
  have hne : w.heap.size ≠ cb := by have := hm.ce.lt; omega
  refine open_walk F d v7 w _ h7 ?_
  refine (lay_any F cb cc M mn f vt ns d v7 _ _ _ h7 hf (hm.below hB) (call_enter Tryz.func52 (by kernel_rfl) rfl) (fun f' c V _ _ _ => openC_any d hk f' c V) (fun h => by omega)).mono (fun e w' h => ?_)
  exact apQ_of hm hM (by omega) hn (fun h => by omega) hB h
theorem lane_ap (F cb cc M mn : Nat) (f : Flo) (vt : Value) (ns : List (Tg × Value)) (d : Dc) (v7 : Value) (i : Nat) (w : World) (h7 : ∃ a n c, v7 = .slice a n c) (hf : FloOk f) (hm : FlI w F cb cc M mn f vt ns) (hM : M < F) (hd : DcOk d) (hk : d.kind = 10) :
    Calls Tryz.prog 22 #[.pointer (some ⟨F, 0, none⟩), dcagg d v7] w (ApQ w F cb cc M f d i) := by
  have hn : nmK d.kind = false := by rw [hk]; rfl
  have hB := dcW_below w d v7
  have hne : w.heap.size ≠ cb := by have := hm.ce.lt; omega
  refine lane_walk F d v7 w _ h7 ?_
  refine (lay_any F cb cc M mn f vt ns d v7 _ _ _ h7 hf (hm.below hB) (call_enter Tryz.func53 (by kernel_rfl) rfl) (fun f' c V _ hk' _ => laneC_any d hk f' c V w.heap.size (hk'.cell (by have h := (dcW_blk w d v7).cell 5; simpa using h) hne) ⟨hd.d0, hd.d1⟩) (fun h => by omega)).mono (fun e w' h => ?_)
  exact apQ_of hm hM (by omega) hn (fun h => by omega) hB h
theorem gate_ap (F cb cc M mn : Nat) (f : Flo) (vt : Value) (ns : List (Tg × Value)) (d : Dc) (v7 : Value) (i : Nat) (w : World) (h7 : ∃ a n c, v7 = .slice a n c) (hf : FloOk f) (hm : FlI w F cb cc M mn f vt ns) (hM : M < F) (hd : DcOk d) (hk : d.kind = 11) :
    Calls Tryz.prog 23 #[.pointer (some ⟨F, 0, none⟩), dcagg d v7] w (ApQ w F cb cc M f d i) := by
  have hn : nmK d.kind = false := by rw [hk]; rfl
  have hB := dcW_below w d v7
  have hne : w.heap.size ≠ cb := by have := hm.ce.lt; omega
  refine gate_walk F d v7 w _ h7 ?_
  refine (lay_any F cb cc M mn f vt ns d v7 _ _ _ h7 hf (hm.below hB) (call_enter Tryz.func54 (by kernel_rfl) rfl) (fun f' c V _ hk' _ => gateC_any d hk f' c V w.heap.size (hk'.cell (by have h := (dcW_blk w d v7).cell 5; simpa using h) hne) ⟨hd.d0, hd.d1⟩) (fun h => by omega)).mono (fun e w' h => ?_)
  exact apQ_of hm hM (by omega) hn (fun h => by omega) hB h
theorem bar_ap (F cb cc M mn : Nat) (f : Flo) (vt : Value) (ns : List (Tg × Value)) (d : Dc) (v7 : Value) (i : Nat) (w : World) (h7 : ∃ a n c, v7 = .slice a n c) (hf : FloOk f) (hm : FlI w F cb cc M mn f vt ns) (hM : M < F) (hd : DcOk d) (hk : d.kind = 12) :
    Calls Tryz.prog 24 #[.pointer (some ⟨F, 0, none⟩), dcagg d v7] w (ApQ w F cb cc M f d i) := by
  have hn : nmK d.kind = false := by rw [hk]; rfl
  have hB := dcW_below w d v7
  have hne : w.heap.size ≠ cb := by have := hm.ce.lt; omega
  refine bar_walk F d v7 w _ h7 ?_
  refine (lay_any F cb cc M mn f vt ns d v7 _ _ _ h7 hf (hm.below hB) (call_enter Tryz.func55 (by kernel_rfl) rfl) (fun f' c V _ hk' _ => barC_any d hk f' c V w.heap.size (hk'.cell (by have h := (dcW_blk w d v7).cell 5; simpa using h) hne) ⟨hd.d0, hd.d1⟩) (fun h => by omega)).mono (fun e w' h => ?_)
  exact apQ_of hm hM (by omega) hn (fun h => by omega) hB h
theorem zone_ap (F cb cc M mn : Nat) (f : Flo) (vt : Value) (ns : List (Tg × Value)) (d : Dc) (v7 : Value) (i : Nat) (w : World) (h7 : ∃ a n c, v7 = .slice a n c) (hf : FloOk f) (hm : FlI w F cb cc M mn f vt ns) (hM : M < F) (hd : DcOk d) (hk : d.kind = 13) :
    Calls Tryz.prog 25 #[.pointer (some ⟨F, 0, none⟩), dcagg d v7] w (ApQ w F cb cc M f d i) := by
  have hn : nmK d.kind = false := by rw [hk]; rfl
  have hB := dcW_below w d v7
  have hne : w.heap.size ≠ cb := by have := hm.ce.lt; omega
  refine zone_walk F d v7 w _ h7 (fun hc => ?_) (fun hz => ?_)
  · refine ⟨8, rfl, ?_, hB.mono (by have := hm.blk.lt; omega), hB.size, fun g t cs _ _ _ q => q.below hB, fun h => by omega⟩
    rw [apC_area (by omega) hn, if_pos]
    exact .inr ⟨hk, by omega⟩
  refine (lay_any F cb cc M mn f vt ns d v7 _ _ _ h7 hf (hm.below hB) (call_enter Tryz.func56 (by kernel_rfl) rfl) (fun f' c V _ hk' _ => zoneC_any d hk f' c V w.heap.size (hk'.cell (by have h := (dcW_blk w d v7).cell 6; simpa using h) hne)) (fun h => hz)).mono (fun e w' h => ?_)
  exact apQ_of hm hM (by omega) hn (fun h => hz) hB h
end Go.Proofs.YtijdlbanfdhfnaaGreatDoor

namespace Go.Proofs.YtijdlbanfdhfnaaGreatDoor
open Go.RowKit

theorem cel_app {w w' : World} {B b e sz n : Nat} {v : Value} {xs : List Value} {t : TypeId} {cs : Array Value} {fr : Nat × Nat} (h : w.heap[b]? = some (.cells cs t fr)) (ht : t ≠ e) (hown : w.ownsRow B e sz v n xs) (hg : w.grownBy w' v.ownBlock) : w'.heap[b]? = some (.cells cs t fr) := by
  refine (hg.block b (lt_heap h) (fun q => ?_)).trans h
  rcases hown.2 with ⟨rfl, _⟩ | ⟨g, cap, cur, rfl, _, hgg, _⟩
  · cases q
  · injection q with q
    subst q
    rw [h] at hgg
    injection hgg with h1
    injection h1 with _ h2
    exact ht h2
theorem cel_map {w w' : World} {M g : Nat} {t : TypeId} {cs : Array Value} {fr : Nat × Nat} (h : w.heap[g]? = some (.cells cs t fr)) (hM : ∃ es c, w.heap[M]? = some (.map es c)) (hg : w.grownBy w' (some M)) : w'.heap[g]? = some (.cells cs t fr) := by
  obtain ⟨es, c, hm⟩ := hM
  refine (hg.block g (lt_heap h) (fun e => ?_)).trans h
  injection e with e
  subst e
  rw [h] at hm
  cases hm
structure FlJ (w : World) (F cb cc M mn fw fh : Nat) (gr : Nat → Nat → Value) (mp : ByteArray → Nat) (vt : Value) (ns : List (Tg × Value)) : Prop where
  blk : Blk w F 58 #[.int .i64 (fw : Nat), .int .i64 (fh : Nat), .slice (some ⟨cb, 0, none⟩) (fw * fh) cc, vt, .map (some M)]
  ce : GrR w cb (fw * fh) gr
  mp : MapN w M mn mp
  tg : TgOw w (F + 1) vt ns
  tn : ∀ p ∈ ns, TgNf w p
  nd : (ns.map fun p => p.2.ownBlock).Nodup
  nf : ∀ p ∈ ns, ∀ g, p.2.ownBlock = some g → F < g
  lc : F < cb
  lm : F < M ∨ M < F
theorem FlI.toJ {w : World} {F cb cc M mn : Nat} {f : Flo} {vt : Value} {ns : List (Tg × Value)} (h : FlI w F cb cc M mn f vt ns) : FlJ w F cb cc M mn f.w f.h (grv f) (nmC f.tgs) vt ns :=
  ⟨h.blk, h.ce, h.mp, h.tg, h.tn, h.nd, h.nf, h.lc, h.lm⟩
theorem FlJ.toI {w : World} {F cb cc M mn : Nat} {f : Flo} {vt : Value} {ns : List (Tg × Value)} (h : FlJ w F cb cc M mn f.w f.h (grv f) (nmC f.tgs) vt ns) (h1 : mn ≤ f.tgs.length) (h2 : ns.map Prod.fst = f.tgs) : FlI w F cb cc M mn f vt ns :=
  ⟨h.blk, h.ce, h.mp, h1, h.tg, h.tn, h2, h.nd, h.nf, h.lc, h.lm⟩
theorem FlJ.below {w w' : World} {F cb cc M mn fw fh : Nat} {gr : Nat → Nat → Value} {mp : ByteArray → Nat} {vt : Value} {ns : List (Tg × Value)} (h : FlJ w F cb cc M mn fw fh gr mp vt ns) (hb : Below w.heap.size w w') : FlJ w' F cb cc M mn fw fh gr mp vt ns :=
  ⟨h.blk.below hb, h.ce.below hb, h.mp.keep (hb.block _ h.mp.lt), h.tg.kept hb, fun p hp => (h.tn p hp).keep fun q => cel_below q hb, h.nd, h.nf, h.lc, h.lm⟩
/-- The map of names was written. -/
theorem FlJ.map {w w' : World} {F cb cc M mn mn' fw fh : Nat} {gr : Nat → Nat → Value} {mp mp' : ByteArray → Nat} {vt : Value} {ns : List (Tg × Value)} (h : FlJ w F cb cc M mn fw fh gr mp vt ns) (hm : MapN w' M mn' mp') (hg : w.grownBy w' (some M)) : FlJ w' F cb cc M mn' fw fh gr mp' vt ns :=
  ⟨map_typed h.blk h.mp.obj hg, h.ce.keep fun _ q => map_typed q h.mp.obj hg, hm, own_typed h.tg fun _ _ q => map_typed q h.mp.obj hg, fun p hp => (h.tn p hp).keep fun q => cel_map q h.mp.obj hg, h.nd, h.nf, h.lc, h.lm⟩
/-- A ground was written. -/
theorem FlJ.gr {w : World} {F cb cc M mn fw fh : Nat} {gr : Nat → Nat → Value} {mp : ByteArray → Nat} {vt : Value} {ns : List (Tg × Value)} (h : FlJ w F cb cc M mn fw fh gr mp vt ns) {c i : Nat} (hc : c < fw * fh) (hi : i < 4) (v : Value) : FlJ (w.setCell ⟨cb, c * 4 + i, none⟩ v) F cb cc M mn fw fh (fun x j => if x = c ∧ j = i then v else gr x j) mp vt ns := by
  obtain ⟨cs, hcs, hcv⟩ := h.ce
  exact ⟨set_typed hcs h.blk (by decide), h.ce.set hc hi v, h.mp.set hcs, own_typed h.tg fun _ _ q => set_typed hcs q (by decide), fun p hp => (h.tn p hp).keep fun q => cel_set hcs q (by decide), h.nd, h.nf, h.lc, h.lm⟩
/-- A target was appended, and the row written back. -/
theorem FlJ.app {w w9 : World} {F cb cc M mn fw fh : Nat} {gr : Nat → Nat → Value} {mp : ByteArray → Nat} {vt v' : Value} {ns : List (Tg × Value)} (h : FlJ w F cb cc M mn fw fh gr mp vt ns) {p : Tg × Value} (h1 : TgOw w9 (F + 1) v' (ns ++ [p])) (h2 : w.grownBy w9 vt.ownBlock) (hp : TgNf w p) (hn : ∀ q ∈ ns, q.2.ownBlock ≠ p.2.ownBlock) (hF : ∀ g, p.2.ownBlock = some g → F < g) :
    FlJ (w9.setCell ⟨F, 3, none⟩ v') F cb cc M mn fw fh gr mp v' (ns ++ [p]) := by
  have hblk : Blk w9 F 58 _ := app_typed h.blk (by decide) h.tg h2
  have ky : ∀ {g : Nat} {t : TypeId} {cs : Array Value} {fr : Nat × Nat}, t ≠ 50 → t ≠ 58 → w.heap[g]? = some (.cells cs t fr) → (w9.setCell ⟨F, 3, none⟩ v').heap[g]? = some (.cells cs t fr) := fun e1 e2 q => cel_set hblk (cel_app q e1 h.tg h2) e2
  refine ⟨hblk.set 3 v', h.ce.keep fun _ q => ky (by decide) (by decide) q, (h.mp.grown h.tg h2).set hblk, own_typed h1 fun _ _ q => set_typed hblk q (by decide), fun q hq => ?_, ?_, fun q hq => ?_, h.lc, h.lm⟩
  · rcases List.mem_append.1 hq with e | e
    · exact (h.tn q e).keep fun q => ky (by decide) (by decide) q
    · rw [List.mem_singleton.1 e]; exact hp.keep fun q => ky (by decide) (by decide) q
  · rw [List.map_append]
    refine List.nodup_append.2 ⟨h.nd, by simp, fun a ha b hb e => ?_⟩
    obtain ⟨q, hq, rfl⟩ := List.mem_map.1 ha
    have hb' : b = p.2.ownBlock := by simpa using hb
    exact hn q hq (e.trans hb')
  · rcases List.mem_append.1 hq with e | e
    · exact h.nf q e
    · rw [List.mem_singleton.1 e]; exact hF
/-- Blocks of other types stay. -/
theorem FlJ.app_cel {w w9 : World} {F cb cc M mn fw fh : Nat} {gr : Nat → Nat → Value} {mp : ByteArray → Nat} {vt v' : Value} {ns : List (Tg × Value)} (h : FlJ w F cb cc M mn fw fh gr mp vt ns) (h2 : w.grownBy w9 vt.ownBlock) {g : Nat} {t : TypeId} {cs : Array Value} (e1 : t ≠ 50) (e2 : t ≠ 58) (q : Blk w g t cs) : Blk (w9.setCell ⟨F, 3, none⟩ v') g t cs :=
  set_typed (app_typed h.blk (by decide) h.tg h2) (app_typed q e1 h.tg h2) e2
theorem tgnf_old {w : World} {p : Tg × Value} (h : TgNf w p) : ∃ g, p.2.ownBlock = some g ∧ g < w.heap.size := by
  obtain ⟨g, c, cs, fr, e1, e2, _⟩ := h
  exact ⟨g, by rw [e1]; rfl, lt_heap e2⟩
/-- A target's ground and name, behind those before. -/
theorem grv_tg (f : Flo) (t : Tg) (fr : List Nat) (c : Nat) (hc : t.cell = (c : Int)) (x i : Nat) (hi : i < 4) : (if x = c ∧ i = 3 then .bool true else grv f x i) = grv { f with tgs := f.tgs ++ [t], frs := fr } x i := by
  have h3 : ∀ y, tkB (f.tgs ++ [t]) y = (tkB f.tgs y || decide (y = c)) := fun y => by
    unfold tkB
    rw [List.any_append]
    congr 1
    simp only [List.any_cons, List.any_nil, Bool.or_false, hc]
    by_cases e : y = c
    · subst e; simp
    · rw [decide_eq_false e, decide_eq_false (by omega)]
  match i, hi with
  | 0, _ => rw [if_neg (by omega)]; rfl
  | 1, _ => rw [if_neg (by omega)]; rfl
  | 2, _ => rw [if_neg (by omega)]; rfl
  | 3, _ =>
    show _ = Value.bool (tkB (f.tgs ++ [t]) x)
    rw [h3 x]
    by_cases e : x = c
    · rw [if_pos ⟨e, rfl⟩, decide_eq_true e, Bool.or_true]
    · rw [if_neg (fun q => e q.1), decide_eq_false e, Bool.or_false]; rfl
theorem nmC_snoc (L : List Tg) (t : Tg) : (fun x => nmC L x + (if t.name = x then 1 else 0)) = nmC (L ++ [t]) := by
  funext x
  unfold nmC
  rw [List.countP_append]
  congr 1
  by_cases e : t.name = x
  · rw [if_pos e, List.countP_cons]; simp [e]
  · rw [if_neg e, List.countP_cons]; simp [e]
end Go.Proofs.YtijdlbanfdhfnaaGreatDoor
