/-
  The walk of impl.Lex.
-/
import Derived.Test.YteojiblglbmmdaaGreatDoorJFTextsRG
namespace Go.Proofs.YteojiblglbmmdaaGreatDoor
open Go.RowKit Go.Shelf

attribute [local go_sem] Oper.semAt_some

set_option maxRecDepth 1000000 in
set_option maxHeartbeats 2000000 in
theorem implLex_big (b off cap : Nat) (s : ByteArray) (w : World) (h : 5000 < s.size) :
    Calls Tryz.prog 9 #[.slice (some ⟨b, off, none⟩) s.size cap] w fun e w' => LexGives w w' e (lexed s) := by
  have HR : Hid (lexed s = ([], 4, 5000)) := by show _ = _; unfold lexed; rw [if_pos h]
  have t0 : decide ((5000 : Int) < (s.size : Int)) = true := decide_eq_true (by omega)
  have hmx : Tryz.prog.follows .mixedOrders = true := by kernel_rfl
  clear h
  refine (callsIn_wide (n := 3)).1 ?_
  refine callsIn_of_wp_marks Tryz.func9 rfl trivial ?_ rfl
  simp only [Tryz.ntmps9, List.size_toArray, List.length_cons, List.length_nil, Nat.reduceAdd, Nat.reduceSub, Array.replicate_succ, Array.replicate_zero, List.push_toArray, List.append_toArray, List.nil_append, List.cons_append]
  gi_wp2
  have y0 : Boxed (((w.alloc (.cells #[.slice none 0 0] 28)).alloc (.cells #[.int .i64 4] 3)).alloc (.cells #[.int .i64 5000] 3)) w.heap.size 28 (.slice none 0 0) := ((Boxed.new w _ _).alloc _).alloc _
  have y1 : Boxed (((w.alloc (.cells #[.slice none 0 0] 28)).alloc (.cells #[.int .i64 4] 3)).alloc (.cells #[.int .i64 5000] 3)) (w.heap.size + 1) 3 (.int .i64 4) := by
    have := (Boxed.new (w.alloc (.cells #[.slice none 0 0] 28)) 3 (.int .i64 4)).alloc (.cells #[.int .i64 5000] 3)
    rwa [World.size_alloc] at this
  have y2 : Boxed (((w.alloc (.cells #[.slice none 0 0] 28)).alloc (.cells #[.int .i64 4] 3)).alloc (.cells #[.int .i64 5000] 3)) (w.heap.size + 1 + 1) 3 (.int .i64 5000) := by
    have := Boxed.new ((w.alloc (.cells #[.slice none 0 0] 28)).alloc (.cells #[.int .i64 4] 3)) 3 (.int .i64 5000)
    rwa [World.size_alloc, World.size_alloc] at this
  have hB0 : Below w.heap.size w (((w.alloc (.cells #[.slice none 0 0] 28)).alloc (.cells #[.int .i64 4] 3)).alloc (.cells #[.int .i64 5000] 3)) := (((Below.refl _ w).alloc (Nat.le_refl _) _).alloc (by simp) _).alloc (by simp; omega) _
  have z0 := y0.cell
  have z1 := y1.cell
  have z2 := y2.cell
  generalize ((w.alloc (.cells #[.slice none 0 0] 28)).alloc (.cells #[.int .i64 4] 3)).alloc (.cells #[.int .i64 5000] 3) = X at *
  refine ⟨.tuple #[.slice none 0 0, .int .i64 4, .int .i64 5000], ?_, ?_⟩
  · simp [results, Tryz.f9, go_sem, z0, z1, z2]
  · exact lexGives_nil HR.out hB0

set_option maxRecDepth 1000000 in
set_option maxHeartbeats 2000000 in
theorem implLex_bad (b off cap : Nat) (s : ByteArray) (w : World) (m : Int) (te1 te2 : TypeId) (pe1 pe2 : Value) (hs : s.size ≤ 5000) (hlib : LibOk w m te1 te2 pe1 pe2) (hc : ∀ j, j < s.size → w.cell? ⟨b, off + j, none⟩ = some (bts s j)) (hg : (chk s).1 ≠ 0) :
    Calls Tryz.prog 9 #[.slice (some ⟨b, off, none⟩) s.size cap] w fun e w' => LexGives w w' e (lexed s) := by
  have H := fun w1 (hb : Below w.heap.size w w1) => implCheck_any b off cap s w1 (by omega) (Utf8Tabs_below hlib.tabs hb) (fun j hj => by rw [hb.cell (p := ⟨b, off + j, none⟩) (World.block_lt_of_cell? _ _ (hc j hj))]; exact hc j hj)
  obtain ⟨A, D, hAD⟩ : ∃ A D, chk s = (A, D) := ⟨_, _, rfl⟩
  rw [pairVal_of hAD] at H
  have H' := hide H
  have HR : Hid (lexed s = ([], A, D)) := by show _ = _; unfold lexed; rw [if_neg (by omega), if_neg hg, hAD]
  rw [hAD] at hg
  have t1 : ((A : Int) != 0) = true := by rw [bne_iff_ne]; simp only at hg; omega
  have t0 : decide ((5000 : Int) < (s.size : Int)) = false := decide_eq_false (by omega)
  have hmx : Tryz.prog.follows .mixedOrders = true := by kernel_rfl
  have hB0 : Below w.heap.size w (((w.alloc (.cells #[.slice none 0 0] 28)).alloc (.cells #[.int .i64 0] 3)).alloc (.cells #[.int .i64 0] 3)) := (((Below.refl _ w).alloc (Nat.le_refl _) _).alloc (by simp) _).alloc (by simp; omega) _
  have b0 : Boxed (((w.alloc (.cells #[.slice none 0 0] 28)).alloc (.cells #[.int .i64 0] 3)).alloc (.cells #[.int .i64 0] 3)) w.heap.size 28 (.slice none 0 0) := ((Boxed.new w _ _).alloc _).alloc _
  have b1 : Boxed (((w.alloc (.cells #[.slice none 0 0] 28)).alloc (.cells #[.int .i64 0] 3)).alloc (.cells #[.int .i64 0] 3)) (w.heap.size + 1) 3 (.int .i64 0) := by
    have := (Boxed.new (w.alloc (.cells #[.slice none 0 0] 28)) 3 (.int .i64 0)).alloc (.cells #[.int .i64 0] 3)
    rwa [World.size_alloc] at this
  have b2 : Boxed (((w.alloc (.cells #[.slice none 0 0] 28)).alloc (.cells #[.int .i64 0] 3)).alloc (.cells #[.int .i64 0] 3)) (w.heap.size + 1 + 1) 3 (.int .i64 0) := by
    have := Boxed.new ((w.alloc (.cells #[.slice none 0 0] 28)).alloc (.cells #[.int .i64 0] 3)) 3 (.int .i64 0)
    rwa [World.size_alloc, World.size_alloc] at this
  have HB0 := hide hB0
  have Hb0 := hide b0
  have Hb1 := hide b1
  have Hb2 := hide b2
  clear H hAD hg hc hlib hB0 b0 b1 b2
  refine (callsIn_wide (n := 3)).1 ?_
  refine callsIn_of_wp_marks Tryz.func9 rfl trivial ?_ rfl
  simp only [Tryz.ntmps9, List.size_toArray, List.length_cons, List.length_nil, Nat.reduceAdd, Nat.reduceSub, Array.replicate_succ, Array.replicate_zero, List.push_toArray, List.append_toArray, List.nil_append, List.cons_append]
  gi_wp2_with fail
  refine ⟨trivial, ?_⟩
  refine (callsIn_wide.2 (H'.out _ HB0.out)).mono ?_
  rintro e w1 ⟨rfl, hb1⟩
  have hB1 := HB0.out.trans (hb1.mono HB0.out.size)
  have c0 := Hb0.out.kept (below_grown hb1) (by simp)
  have c1 := Hb1.out.kept (below_grown hb1) (by simp)
  have c2 := Hb2.out.kept (below_grown hb1) (by simp)
  clear hb1 HB0 Hb0 Hb1 Hb2 H'
  have HB1 := hide hB1
  have HC0 := hide c0
  have HC1 := hide c1
  have HC2 := hide c2
  have r0c := c0.cell
  have r0f := c0.frozen
  have r1c := c1.cell
  have r1f := c1.frozen
  have r2c := c2.cell
  have r2f := c2.frozen
  clear hB1 c0 c1 c2
  gi_wp2
  have i0 := ((HC0.out.set (.slice none 0 0)).other (B' := w.heap.size + 1) (by omega) (.int .i64 A)).other (B' := w.heap.size + 1 + 1) (by omega) (.int .i64 D)
  have i1 := ((HC1.out.other (B' := w.heap.size) (by omega) (.slice none 0 0)).set (.int .i64 A)).other (B' := w.heap.size + 1 + 1) (by omega) (.int .i64 D)
  have i2 := ((HC2.out.other (B' := w.heap.size) (by omega) (.slice none 0 0)).other (B' := w.heap.size + 1) (by omega) (.int .i64 A)).set (.int .i64 D)
  have hBX := ((HB1.out.setCell (p := ⟨w.heap.size, 0, none⟩) (Nat.le_refl _) (.slice none 0 0)).setCell (p := ⟨w.heap.size + 1, 0, none⟩) (by simp) (.int .i64 A)).setCell (p := ⟨w.heap.size + 1 + 1, 0, none⟩) (by simp; omega) (.int .i64 D)
  have z0 := i0.cell
  have z1 := i1.cell
  have z2 := i2.cell
  generalize ((w1.setCell ⟨w.heap.size, 0, none⟩ (.slice none 0 0)).setCell ⟨w.heap.size + 1, 0, none⟩ (.int .i64 A)).setCell ⟨w.heap.size + 1 + 1, 0, none⟩ (.int .i64 D) = X at *
  refine ⟨.tuple #[.slice none 0 0, .int .i64 A, .int .i64 D], ?_, ?_⟩
  · simp [results, Tryz.f9, go_sem, z0, z1, z2]
  · exact lexGives_nil HR.out hBX

theorem implLex_any (b off cap : Nat) (s : ByteArray) (w : World) (m : Int) (te1 te2 : TypeId) (pe1 pe2 : Value) (hlib : LibOk w m te1 te2 pe1 pe2) (hc : ∀ j, j < s.size → w.cell? ⟨b, off + j, none⟩ = some (bts s j)) :
    Calls Tryz.prog 9 #[.slice (some ⟨b, off, none⟩) s.size cap] w fun e w' => LexGives w w' e (lexed s) := by
  by_cases h : 5000 < s.size
  · exact implLex_big b off cap s w h
  · by_cases hg : (chk s).1 = 0
    · exact implLex_good b off cap s w m te1 te2 pe1 pe2 (by omega) hlib hc hg
    · exact implLex_bad b off cap s w m te1 te2 pe1 pe2 (by omega) hlib hc hg
end Go.Proofs.YteojiblglbmmdaaGreatDoor
