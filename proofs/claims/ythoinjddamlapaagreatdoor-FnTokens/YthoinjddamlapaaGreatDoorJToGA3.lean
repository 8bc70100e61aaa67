/-
  spec.l9anySource: the branches that fill.
-/
import Derived.Test.YthoinjddamlapaaGreatDoorJToGFL
import Derived.Test.YthoinjddamlapaaGreatDoorJToGFL
namespace Go.Proofs.YthoinjddamlapaaGreatDoor
open Go.RowKit

set_option maxHeartbeats 4000000 in
set_option maxRecDepth 1000000 in
theorem any_3 (w : World) (R : Nat) (a0 : Option Addr) (b off n cap : Nat) (cs : ByteArray) (i : Nat) (hn : n ≤ 600) (h : RdAt w R a0 b off n cap cs i) (hk : nx cs n i = 3) :
    Calls Tryz.prog 9 #[.pointer (some ⟨R, 0, none⟩)] w (AnQ R a0 b off n cap cs (gY cs n i) w) := by
  have HN := hide (next_rd hn h)
  have HX1 : Hid (∀ V, RdAt V R a0 b off n cap cs (i + 1) → Calls Tryz.prog 8 #[.pointer (some ⟨R, 0, none⟩)] V fun r w' => r = .returned (.int .i64 (nx cs n (i + 1) : Nat)) ∧ RdAt w' R a0 b off n cap cs (i + 2) ∧ Gw (· = R) V w') := fun V hV => next_rd hn hV
  have hv := nx_lt cs n (i + 1)
  obtain ⟨y, hy⟩ : ∃ x, nx cs n (i + 1) = x := ⟨_, rfl⟩
  obtain ⟨m, hm⟩ : ∃ m, y % 3 = m := ⟨_, rfl⟩
  have hG : gY cs n i = (lst (⟨#[103, 114, 105, 100, 32, 49, 44, 49, 59]⟩ : ByteArray) ++ List.replicate (4990 + m) 32, i + 2) := by unfold gY gYk; rw [hk, hy, hm]; rfl
  rw [hy] at HX1 hv
  rw [hG]
  obtain ⟨x, hx0⟩ : ∃ x, nx cs n i = x := ⟨_, rfl⟩
  rw [hx0] at HN hk
  have hx0 := hk
  have t3 : ((x : Int) == 3) = true := by rw [hx0]; rfl
  have tm : (y : Int).tmod 3 = (m : Int) := by rw [← hm]; rfl
  have tb : IntKind.i64.wrap (4990 + (m : Int)) = ((4990 + m : Nat) : Int) := by rw [IntKind.wrap_i64]; omega
  obtain ⟨c, hc⟩ : ∃ c, 4990 + m = c := ⟨_, rfl⟩
  have hcb : c ≤ 5000 := by omega
  have hc0 : 0 < c := by omega
  rw [hc] at tb ⊢
  have HF := hide (fun V => fill_any V 32 c (by omega))
  obtain ⟨ys, hys⟩ : ∃ l, List.replicate c 32 = l := ⟨_, rfl⟩
  have hyl : ys.length = c := by rw [← hys, List.length_replicate]
  have HYO : Hid (Lo ys) := fun z hz => by rw [← hys] at hz; rw [List.eq_of_mem_replicate hz]; decide
  rw [hys] at HF ⊢
  have HYL := hide hyl
  have HEN : Hid (∀ l V v' B, w.heap.size ≤ B → l = lst (⟨#[103, 114, 105, 100, 32, 49, 44, 49, 59]⟩ : ByteArray) ++ ys → V.ownsRow B 5 1 v' l.length (cv l) → Gw (· = R) w V → RdAt V R a0 b off n cap cs (i + 2) → AnQ R a0 b off n cap cs (lst (⟨#[103, 114, 105, 100, 32, 49, 44, 49, 59]⟩ : ByteArray) ++ ys, i + 2) w (.returned v') V) := fun l V v' B hB hl ho hg hr => by
    rw [← hl]
    refine ⟨v', rfl, own_nr ho hB, ?_, ?_, hg, hr⟩
    · rw [hl]; exact (lst_lo _).app HYO.out
    · show l.length ≤ _
      rw [hl]; simp only [List.length_append, lst_len, HYL.out]
      have e1 : (⟨#[103, 114, 105, 100, 32, 49, 44, 49, 59]⟩ : ByteArray).size = 9 := rfl
      omega
  clear h hk hy hm hG hc hx0 hys hyl
  go_enter Tryz.func9, Tryz.ntmps9
  go_wp2_with fail
  refine HN.out.mono ?_
  rintro r w1 ⟨rfl, hr1, hg1⟩
  obtain ⟨G, hG⟩ : ∃ G, w1.heap.size = G := ⟨_, rfl⟩
  obtain ⟨w2, hw2⟩ : ∃ W, w1.alloc (.cells #[.int .u8 103, .int .u8 114, .int .u8 105, .int .u8 100, .int .u8 32, .int .u8 49, .int .u8 44, .int .u8 49, .int .u8 59] 5 (9, 9 + 1)) = W := ⟨_, rfl⟩
  have hb2 : Below w1.heap.size w1 w2 := by rw [← hw2]; exact (Below.refl _ _).alloc (Nat.le_refl _) _
  have HO2 : Hid (∀ j, j < ([103, 114, 105, 100, 32, 49, 44, 49, 59] : List Nat).length → w2.cell? ⟨G, j, none⟩ = some (.int .u8 (([103, 114, 105, 100, 32, 49, 44, 49, 59] : List Nat).getD j 0 : Nat))) := fun j hj => by
    rw [← hw2, ← hG]
    refine (cell_of_row _ _ j _ _ _ (heap_alloc_new w1 _)).trans ?_
    match j, hj with
    | 0, _ => rfl
    | 1, _ => rfl
    | 2, _ => rfl
    | 3, _ => rfl
    | 4, _ => rfl
    | 5, _ => rfl
    | 6, _ => rfl
    | 7, _ => rfl
    | 8, _ => rfl
  have kc : (convert 22 22 (.slice (some ⟨G, 0, none⟩) 9 9)).run Tryz.prog (w1.alloc (.cells #[.int .u8 103, .int .u8 114, .int .u8 105, .int .u8 100, .int .u8 32, .int .u8 49, .int .u8 44, .int .u8 49, .int .u8 59] 5)) = .ok (.slice (some ⟨G, 0, none⟩) 9 9) w2 := by
    rw [← hG, ← hw2]
    exact Lib.run_convert_bytes_const (P := Tryz.prog) w1 22 5 _ 9 9 Tryz.underlying22 Tryz.underlying5
  have HW2 : Hid (Gw (· = R) w w2) := hg1.bel hb2
  have HN2 := hide (HX1.out w2 (hr1.bel hb2))
  have HR0 : Hid (R < w1.heap.size) := hr1.lt
  have HGG : Hid (w1.heap.size = G) := hG
  clear hr1 hg1 HN hw2 hb2
  go_wp2_with fail
  refine HN2.out.mono ?_
  rintro r w3 ⟨rfl, hr3, hg3⟩
  have HW3 := hide (HW2.out.then hg3)
  have hc3 : ∀ j, j < ([103, 114, 105, 100, 32, 49, 44, 49, 59] : List Nat).length → w3.cell? ⟨G, j, none⟩ = some (.int .u8 (([103, 114, 105, 100, 32, 49, 44, 49, 59] : List Nat).getD j 0 : Nat)) := fun j hj => hg3.cell (HO2.out j hj) (by show ¬ G = R; have h1 := HR0.out; have h2 := HGG.out; omega)
  clear hg3 HN2 HX1
  go_wp2_with fail
  refine (HF.out w3).mono ?_
  rintro r w4 ⟨v4, rfl, ho4, hb4⟩
  clear kc hG
  obtain ⟨g, c4, rfl, hg, hlt, hcc, _⟩ := own_slice ho4 (by have := HYL.out; omega)
  have HB4 := hide hb4
  have HRD := hide (hr3.bel hb4)
  have HW4 := hide (HW3.out.bel hb4)
  have HP4 : Hid (∀ j, j < ([103, 114, 105, 100, 32, 49, 44, 49, 59] : List Nat).length → w4.cell? ⟨G, j, none⟩ = some (.int .u8 (([103, 114, 105, 100, 32, 49, 44, 49, 59] : List Nat).getD j 0 : Nat))) := fun j hj => cell_kept (hc3 j hj) hb4
  have HCC := hide hcc
  have HYZ : Hid (0 < ys.length) := by show 0 < ys.length; have := HYL.out; omega
  have HYB : Hid (ys.length ≤ 5000) := by show ys.length ≤ 5000; have := HYL.out; omega
  clear ho4 hb4 hg hlt hcc hr3 hc3
  go_wp2_with (at_builtin; refine wp_app_full rfl _ _ rfl w4.heap.size G [103, 114, 105, 100, 32, 49, 44, 49, 59] rfl HP4.out g c4 ys rfl HCC.out HYZ.out (by have := HYB.out; simp only [List.length_cons, List.length_nil]; omega) (Nat.le_refl _) ?_; intro v5 w5 l5 hl5 ho5 hb5; have HO5 := hide ho5; have HL5 := hide hl5.out; have HB5 := hide hb5; clear ho5 hl5 hb5)
  go_ret
  exact HEN.out l5 w5 _ w4.heap.size HW4.out.size (by rw [HL5.out]; rfl) HO5.out (HW4.out.bel HB5.out) (HRD.out.bel HB5.out)

set_option maxHeartbeats 4000000 in
set_option maxRecDepth 1000000 in
theorem any_4 (w : World) (R : Nat) (a0 : Option Addr) (b off n cap : Nat) (cs : ByteArray) (i : Nat) (hn : n ≤ 600) (h : RdAt w R a0 b off n cap cs i) (hk : nx cs n i = 4) :
    Calls Tryz.prog 9 #[.pointer (some ⟨R, 0, none⟩)] w (AnQ R a0 b off n cap cs (gY cs n i) w) := by
  have HN := hide (next_rd hn h)
  have HX1 : Hid (∀ V, RdAt V R a0 b off n cap cs (i + 1) → Calls Tryz.prog 8 #[.pointer (some ⟨R, 0, none⟩)] V fun r w' => r = .returned (.int .i64 (nx cs n (i + 1) : Nat)) ∧ RdAt w' R a0 b off n cap cs (i + 2) ∧ Gw (· = R) V w') := fun V hV => next_rd hn hV
  have hv := nx_lt cs n (i + 1)
  obtain ⟨y, hy⟩ : ∃ x, nx cs n (i + 1) = x := ⟨_, rfl⟩
  obtain ⟨m, hm⟩ : ∃ m, y % 4 = m := ⟨_, rfl⟩
  have hG : gY cs n i = (lst (⟨#[108, 101, 116, 32, 97, 32, 61, 32]⟩ : ByteArray) ++ List.replicate (56 + m) 45 ++ lst (⟨#[49, 59]⟩ : ByteArray), i + 2) := by unfold gY gYk; rw [hk, hy, hm]; rfl
  rw [hy] at HX1 hv
  rw [hG]
  obtain ⟨x, hx0⟩ : ∃ x, nx cs n i = x := ⟨_, rfl⟩
  rw [hx0] at HN hk
  have hx0 := hk
  have t3 : ((x : Int) == 3) = false := by rw [hx0]; rfl
  have t4 : ((x : Int) == 4) = true := by rw [hx0]; rfl
  have tm : (y : Int).tmod 4 = (m : Int) := by rw [← hm]; rfl
  have tb : IntKind.i64.wrap (56 + (m : Int)) = ((56 + m : Nat) : Int) := by rw [IntKind.wrap_i64]; omega
  obtain ⟨c, hc⟩ : ∃ c, 56 + m = c := ⟨_, rfl⟩
  have hcb : c ≤ 5000 := by omega
  have hc0 : 0 < c := by omega
  rw [hc] at tb ⊢
  have HF := hide (fun V => fill_any V 45 c (by omega))
  obtain ⟨ys, hys⟩ : ∃ l, List.replicate c 45 = l := ⟨_, rfl⟩
  have hyl : ys.length = c := by rw [← hys, List.length_replicate]
  have HYO : Hid (Lo ys) := fun z hz => by rw [← hys] at hz; rw [List.eq_of_mem_replicate hz]; decide
  rw [hys] at HF ⊢
  have HYL := hide hyl
  have HEN : Hid (∀ l V v' B, w.heap.size ≤ B → l = lst (⟨#[108, 101, 116, 32, 97, 32, 61, 32]⟩ : ByteArray) ++ (ys ++ lst (⟨#[49, 59]⟩ : ByteArray)) → V.ownsRow B 5 1 v' l.length (cv l) → Gw (· = R) w V → RdAt V R a0 b off n cap cs (i + 2) → AnQ R a0 b off n cap cs (lst (⟨#[108, 101, 116, 32, 97, 32, 61, 32]⟩ : ByteArray) ++ (ys ++ lst (⟨#[49, 59]⟩ : ByteArray)), i + 2) w (.returned v') V) := fun l V v' B hB hl ho hg hr => by
    rw [← hl]
    refine ⟨v', rfl, own_nr ho hB, ?_, ?_, hg, hr⟩
    · rw [hl]; exact (lst_lo _).app (HYO.out.app (lst_lo _))
    · show l.length ≤ _
      rw [hl]; simp only [List.length_append, lst_len, HYL.out]
      have e1 : (⟨#[108, 101, 116, 32, 97, 32, 61, 32]⟩ : ByteArray).size = 8 := rfl
      have e2 : (⟨#[49, 59]⟩ : ByteArray).size = 2 := rfl
      omega
  clear h hk hy hm hG hc hx0 hys hyl
  go_enter Tryz.func9, Tryz.ntmps9
  go_wp2_with fail
  refine HN.out.mono ?_
  rintro r wx ⟨rfl, hr1, hg1⟩
  have HN2 := hide (HX1.out wx hr1)
  have HW1 := hide hg1
  clear hr1 hg1 HX1
  go_wp2_with fail
  refine HN2.out.mono ?_
  rintro r w1 ⟨rfl, hr1, hg1⟩
  obtain ⟨G, hG⟩ : ∃ G, w1.heap.size = G := ⟨_, rfl⟩
  obtain ⟨w2, hw2⟩ : ∃ W, w1.alloc (.cells #[.int .u8 108, .int .u8 101, .int .u8 116, .int .u8 32, .int .u8 97, .int .u8 32, .int .u8 61, .int .u8 32] 5 (8, 8 + 1)) = W := ⟨_, rfl⟩
  have hb2 : Below w1.heap.size w1 w2 := by rw [← hw2]; exact (Below.refl _ _).alloc (Nat.le_refl _) _
  have HO2 : Hid (∀ j, j < ([108, 101, 116, 32, 97, 32, 61, 32] : List Nat).length → w2.cell? ⟨G, j, none⟩ = some (.int .u8 (([108, 101, 116, 32, 97, 32, 61, 32] : List Nat).getD j 0 : Nat))) := fun j hj => by
    rw [← hw2, ← hG]
    refine (cell_of_row _ _ j _ _ _ (heap_alloc_new w1 _)).trans ?_
    match j, hj with
    | 0, _ => rfl
    | 1, _ => rfl
    | 2, _ => rfl
    | 3, _ => rfl
    | 4, _ => rfl
    | 5, _ => rfl
    | 6, _ => rfl
    | 7, _ => rfl
  have kc : (convert 22 22 (.slice (some ⟨G, 0, none⟩) 8 8)).run Tryz.prog (w1.alloc (.cells #[.int .u8 108, .int .u8 101, .int .u8 116, .int .u8 32, .int .u8 97, .int .u8 32, .int .u8 61, .int .u8 32] 5)) = .ok (.slice (some ⟨G, 0, none⟩) 8 8) w2 := by
    rw [← hG, ← hw2]
    exact Lib.run_convert_bytes_const (P := Tryz.prog) w1 22 5 _ 8 8 Tryz.underlying22 Tryz.underlying5
  have HW2 : Hid (Gw (· = R) w w2) := (HW1.out.then hg1).bel hb2
  have HR2 := hide (hr1.bel hb2)
  have HR0 : Hid (R < w1.heap.size) := hr1.lt
  have HGG : Hid (w1.heap.size = G) := hG
  clear hr1 hg1 HN hw2 hb2
  go_wp2_with fail
  refine (HF.out w2).mono ?_
  rintro r w4 ⟨v4, rfl, ho4, hb4⟩
  have hr3 := HR2.out
  have HW3 := hide HW2.out
  have hc3 := HO2.out
  clear kc hG
  obtain ⟨g, c4, rfl, hg, hlt, hcc, _⟩ := own_slice ho4 (by have := HYL.out; omega)
  have HB4 := hide hb4
  have HRD := hide (hr3.bel hb4)
  have HW4 := hide (HW3.out.bel hb4)
  have HP4 : Hid (∀ j, j < ([108, 101, 116, 32, 97, 32, 61, 32] : List Nat).length → w4.cell? ⟨G, j, none⟩ = some (.int .u8 (([108, 101, 116, 32, 97, 32, 61, 32] : List Nat).getD j 0 : Nat))) := fun j hj => cell_kept (hc3 j hj) hb4
  have HCC := hide hcc
  have HYZ : Hid (0 < ys.length) := by show 0 < ys.length; have := HYL.out; omega
  have HYB : Hid (ys.length ≤ 5000) := by show ys.length ≤ 5000; have := HYL.out; omega
  clear ho4 hb4 hg hlt hcc hr3 hc3
  go_wp2_with (first | (at_builtin; refine wp_app_full rfl _ _ rfl w4.heap.size G [108, 101, 116, 32, 97, 32, 61, 32] rfl HP4.out g c4 ys rfl HCC.out HYZ.out (by have := HYB.out; simp only [List.length_cons, List.length_nil]; omega) (Nat.le_refl _) ?_; intro v5 w5 l5 hl5 ho5 hb5; have HO5 := hide ho5; have HL5 := hide hl5.out; have HB5 := hide hb5; have HS5 : Hid (l5.length ≤ 6000) := (by show l5.length ≤ 6000; rw [hl5.out]; have := HYB.out; simp only [List.length_append, List.length_cons, List.length_nil]; omega); clear ho5 hl5 hb5) | (at_builtin; refine wp_app_strG rfl _ _ rfl w4.heap.size _ l5 rfl HO5.out _ [49, 59] rfl rfl (by have := HS5.out; simp only [List.length_cons, List.length_nil]; omega) HB5.out.size ?_; intro v6 w6 l6 hl6 ho6 hg6; have HO6 := hide ho6; have HL6 := hide hl6.out; have HB6 : Hid (Below w4.heap.size w4 w6) := HB5.out.grown hg6 HB5.out.size (fun k hk => (HO5.out.lt k hk).1); clear ho6 hl6 hg6))
  go_ret
  exact HEN.out l6 w6 _ w4.heap.size HW4.out.size (by rw [HL6.out, HL5.out, List.append_assoc]; rfl) HO6.out (HW4.out.bel HB6.out) (HRD.out.bel HB6.out)

set_option maxHeartbeats 4000000 in
set_option maxRecDepth 1000000 in
theorem any_5 (w : World) (R : Nat) (a0 : Option Addr) (b off n cap : Nat) (cs : ByteArray) (i : Nat) (hn : n ≤ 600) (h : RdAt w R a0 b off n cap cs i) (hk : nx cs n i = 5) :
    Calls Tryz.prog 9 #[.pointer (some ⟨R, 0, none⟩)] w (AnQ R a0 b off n cap cs (gY cs n i) w) := by
  have HN := hide (next_rd hn h)
  have HX1 : Hid (∀ V, RdAt V R a0 b off n cap cs (i + 1) → Calls Tryz.prog 8 #[.pointer (some ⟨R, 0, none⟩)] V fun r w' => r = .returned (.int .i64 (nx cs n (i + 1) : Nat)) ∧ RdAt w' R a0 b off n cap cs (i + 2) ∧ Gw (· = R) V w') := fun V hV => next_rd hn hV
  have hv := nx_lt cs n (i + 1)
  obtain ⟨y, hy⟩ : ∃ x, nx cs n (i + 1) = x := ⟨_, rfl⟩
  obtain ⟨m, hm⟩ : ∃ m, y % 3 = m := ⟨_, rfl⟩
  have hG : gY cs n i = (lst (⟨#[108, 101, 116, 32]⟩ : ByteArray) ++ List.replicate (29 + m) 97 ++ lst (⟨#[32, 61, 32, 49, 59]⟩ : ByteArray), i + 2) := by unfold gY gYk; rw [hk, hy, hm]; rfl
  rw [hy] at HX1 hv
  rw [hG]
  obtain ⟨x, hx0⟩ : ∃ x, nx cs n i = x := ⟨_, rfl⟩
  rw [hx0] at HN hk
  have hx0 := hk
  have t3 : ((x : Int) == 3) = false := by rw [hx0]; rfl
  have t4 : ((x : Int) == 4) = false := by rw [hx0]; rfl
  have t5 : ((x : Int) == 5) = true := by rw [hx0]; rfl
  have tm : (y : Int).tmod 3 = (m : Int) := by rw [← hm]; rfl
  have tb : IntKind.i64.wrap (29 + (m : Int)) = ((29 + m : Nat) : Int) := by rw [IntKind.wrap_i64]; omega
  obtain ⟨c, hc⟩ : ∃ c, 29 + m = c := ⟨_, rfl⟩
  have hcb : c ≤ 5000 := by omega
  have hc0 : 0 < c := by omega
  rw [hc] at tb ⊢
  have HF := hide (fun V => fill_any V 97 c (by omega))
  obtain ⟨ys, hys⟩ : ∃ l, List.replicate c 97 = l := ⟨_, rfl⟩
  have hyl : ys.length = c := by rw [← hys, List.length_replicate]
  have HYO : Hid (Lo ys) := fun z hz => by rw [← hys] at hz; rw [List.eq_of_mem_replicate hz]; decide
  rw [hys] at HF ⊢
  have HYL := hide hyl
  have HEN : Hid (∀ l V v' B, w.heap.size ≤ B → l = lst (⟨#[108, 101, 116, 32]⟩ : ByteArray) ++ (ys ++ lst (⟨#[32, 61, 32, 49, 59]⟩ : ByteArray)) → V.ownsRow B 5 1 v' l.length (cv l) → Gw (· = R) w V → RdAt V R a0 b off n cap cs (i + 2) → AnQ R a0 b off n cap cs (lst (⟨#[108, 101, 116, 32]⟩ : ByteArray) ++ (ys ++ lst (⟨#[32, 61, 32, 49, 59]⟩ : ByteArray)), i + 2) w (.returned v') V) := fun l V v' B hB hl ho hg hr => by
    rw [← hl]
    refine ⟨v', rfl, own_nr ho hB, ?_, ?_, hg, hr⟩
    · rw [hl]; exact (lst_lo _).app (HYO.out.app (lst_lo _))
    · show l.length ≤ _
      rw [hl]; simp only [List.length_append, lst_len, HYL.out]
      have e1 : (⟨#[108, 101, 116, 32]⟩ : ByteArray).size = 4 := rfl
      have e2 : (⟨#[32, 61, 32, 49, 59]⟩ : ByteArray).size = 5 := rfl
      omega
  clear h hk hy hm hG hc hx0 hys hyl
  go_enter Tryz.func9, Tryz.ntmps9
  go_wp2_with fail
  refine HN.out.mono ?_
  rintro r w1 ⟨rfl, hr1, hg1⟩
  obtain ⟨G, hG⟩ : ∃ G, w1.heap.size = G := ⟨_, rfl⟩
  obtain ⟨w2, hw2⟩ : ∃ W, w1.alloc (.cells #[.int .u8 108, .int .u8 101, .int .u8 116, .int .u8 32] 5 (4, 4 + 1)) = W := ⟨_, rfl⟩
  have hb2 : Below w1.heap.size w1 w2 := by rw [← hw2]; exact (Below.refl _ _).alloc (Nat.le_refl _) _
  have HO2 : Hid (∀ j, j < ([108, 101, 116, 32] : List Nat).length → w2.cell? ⟨G, j, none⟩ = some (.int .u8 (([108, 101, 116, 32] : List Nat).getD j 0 : Nat))) := fun j hj => by
    rw [← hw2, ← hG]
    refine (cell_of_row _ _ j _ _ _ (heap_alloc_new w1 _)).trans ?_
    match j, hj with
    | 0, _ => rfl
    | 1, _ => rfl
    | 2, _ => rfl
    | 3, _ => rfl
  have kc : (convert 22 22 (.slice (some ⟨G, 0, none⟩) 4 4)).run Tryz.prog (w1.alloc (.cells #[.int .u8 108, .int .u8 101, .int .u8 116, .int .u8 32] 5)) = .ok (.slice (some ⟨G, 0, none⟩) 4 4) w2 := by
    rw [← hG, ← hw2]
    exact Lib.run_convert_bytes_const (P := Tryz.prog) w1 22 5 _ 4 4 Tryz.underlying22 Tryz.underlying5
  have HW2 : Hid (Gw (· = R) w w2) := hg1.bel hb2
  have HN2 := hide (HX1.out w2 (hr1.bel hb2))
  have HR0 : Hid (R < w1.heap.size) := hr1.lt
  have HGG : Hid (w1.heap.size = G) := hG
  clear hr1 hg1 HN hw2 hb2
  go_wp2_with fail
  refine HN2.out.mono ?_
  rintro r w3 ⟨rfl, hr3, hg3⟩
  have HW3 := hide (HW2.out.then hg3)
  have hc3 : ∀ j, j < ([108, 101, 116, 32] : List Nat).length → w3.cell? ⟨G, j, none⟩ = some (.int .u8 (([108, 101, 116, 32] : List Nat).getD j 0 : Nat)) := fun j hj => hg3.cell (HO2.out j hj) (by show ¬ G = R; have h1 := HR0.out; have h2 := HGG.out; omega)
  clear hg3 HN2 HX1
  go_wp2_with fail
  refine (HF.out w3).mono ?_
  rintro r w4 ⟨v4, rfl, ho4, hb4⟩
  clear kc hG
  obtain ⟨g, c4, rfl, hg, hlt, hcc, _⟩ := own_slice ho4 (by have := HYL.out; omega)
  have HB4 := hide hb4
  have HRD := hide (hr3.bel hb4)
  have HW4 := hide (HW3.out.bel hb4)
  have HP4 : Hid (∀ j, j < ([108, 101, 116, 32] : List Nat).length → w4.cell? ⟨G, j, none⟩ = some (.int .u8 (([108, 101, 116, 32] : List Nat).getD j 0 : Nat))) := fun j hj => cell_kept (hc3 j hj) hb4
  have HCC := hide hcc
  have HYZ : Hid (0 < ys.length) := by show 0 < ys.length; have := HYL.out; omega
  have HYB : Hid (ys.length ≤ 5000) := by show ys.length ≤ 5000; have := HYL.out; omega
  clear ho4 hb4 hg hlt hcc hr3 hc3
  go_wp2_with (first | (at_builtin; refine wp_app_full rfl _ _ rfl w4.heap.size G [108, 101, 116, 32] rfl HP4.out g c4 ys rfl HCC.out HYZ.out (by have := HYB.out; simp only [List.length_cons, List.length_nil]; omega) (Nat.le_refl _) ?_; intro v5 w5 l5 hl5 ho5 hb5; have HO5 := hide ho5; have HL5 := hide hl5.out; have HB5 := hide hb5; have HS5 : Hid (l5.length ≤ 6000) := (by show l5.length ≤ 6000; rw [hl5.out]; have := HYB.out; simp only [List.length_append, List.length_cons, List.length_nil]; omega); clear ho5 hl5 hb5) | (at_builtin; refine wp_app_strG rfl _ _ rfl w4.heap.size _ l5 rfl HO5.out _ [32, 61, 32, 49, 59] rfl rfl (by have := HS5.out; simp only [List.length_cons, List.length_nil]; omega) HB5.out.size ?_; intro v6 w6 l6 hl6 ho6 hg6; have HO6 := hide ho6; have HL6 := hide hl6.out; have HB6 : Hid (Below w4.heap.size w4 w6) := HB5.out.grown hg6 HB5.out.size (fun k hk => (HO5.out.lt k hk).1); clear ho6 hl6 hg6))
  go_ret
  exact HEN.out l6 w6 _ w4.heap.size HW4.out.size (by rw [HL6.out, HL5.out, List.append_assoc]; rfl) HO6.out (HW4.out.bel HB6.out) (HRD.out.bel HB6.out)

set_option maxHeartbeats 4000000 in
set_option maxRecDepth 1000000 in
theorem any_6 (w : World) (R : Nat) (a0 : Option Addr) (b off n cap : Nat) (cs : ByteArray) (i : Nat) (hn : n ≤ 600) (h : RdAt w R a0 b off n cap cs i) (hk : nx cs n i = 6) :
    Calls Tryz.prog 9 #[.pointer (some ⟨R, 0, none⟩)] w (AnQ R a0 b off n cap cs (gY cs n i) w) := by
  have HN := hide (next_rd hn h)
  have HX1 : Hid (∀ V, RdAt V R a0 b off n cap cs (i + 1) → Calls Tryz.prog 8 #[.pointer (some ⟨R, 0, none⟩)] V fun r w' => r = .returned (.int .i64 (nx cs n (i + 1) : Nat)) ∧ RdAt w' R a0 b off n cap cs (i + 2) ∧ Gw (· = R) V w') := fun V hV => next_rd hn hV
  have hv := nx_lt cs n (i + 1)
  obtain ⟨y, hy⟩ : ∃ x, nx cs n (i + 1) = x := ⟨_, rfl⟩
  obtain ⟨m, hm⟩ : ∃ m, y % 3 = m := ⟨_, rfl⟩
  have hG : gY cs n i = (lst (⟨#[108, 101, 116, 32, 97, 32, 61, 32, 34]⟩ : ByteArray) ++ List.replicate (59 + m) 116 ++ lst (⟨#[34, 59]⟩ : ByteArray), i + 2) := by unfold gY gYk; rw [hk, hy, hm]; rfl
  rw [hy] at HX1 hv
  rw [hG]
  obtain ⟨x, hx0⟩ : ∃ x, nx cs n i = x := ⟨_, rfl⟩
  rw [hx0] at HN hk
  have hx0 := hk
  have t3 : ((x : Int) == 3) = false := by rw [hx0]; rfl
  have t4 : ((x : Int) == 4) = false := by rw [hx0]; rfl
  have t5 : ((x : Int) == 5) = false := by rw [hx0]; rfl
  have t6 : ((x : Int) == 6) = true := by rw [hx0]; rfl
  have tm : (y : Int).tmod 3 = (m : Int) := by rw [← hm]; rfl
  have tb : IntKind.i64.wrap (59 + (m : Int)) = ((59 + m : Nat) : Int) := by rw [IntKind.wrap_i64]; omega
  obtain ⟨c, hc⟩ : ∃ c, 59 + m = c := ⟨_, rfl⟩
  have hcb : c ≤ 5000 := by omega
  have hc0 : 0 < c := by omega
  rw [hc] at tb ⊢
  have HF := hide (fun V => fill_any V 116 c (by omega))
  obtain ⟨ys, hys⟩ : ∃ l, List.replicate c 116 = l := ⟨_, rfl⟩
  have hyl : ys.length = c := by rw [← hys, List.length_replicate]
  have HYO : Hid (Lo ys) := fun z hz => by rw [← hys] at hz; rw [List.eq_of_mem_replicate hz]; decide
  rw [hys] at HF ⊢
  have HYL := hide hyl
  have HEN : Hid (∀ l V v' B, w.heap.size ≤ B → l = lst (⟨#[108, 101, 116, 32, 97, 32, 61, 32, 34]⟩ : ByteArray) ++ (ys ++ lst (⟨#[34, 59]⟩ : ByteArray)) → V.ownsRow B 5 1 v' l.length (cv l) → Gw (· = R) w V → RdAt V R a0 b off n cap cs (i + 2) → AnQ R a0 b off n cap cs (lst (⟨#[108, 101, 116, 32, 97, 32, 61, 32, 34]⟩ : ByteArray) ++ (ys ++ lst (⟨#[34, 59]⟩ : ByteArray)), i + 2) w (.returned v') V) := fun l V v' B hB hl ho hg hr => by
    rw [← hl]
    refine ⟨v', rfl, own_nr ho hB, ?_, ?_, hg, hr⟩
    · rw [hl]; exact (lst_lo _).app (HYO.out.app (lst_lo _))
    · show l.length ≤ _
      rw [hl]; simp only [List.length_append, lst_len, HYL.out]
      have e1 : (⟨#[108, 101, 116, 32, 97, 32, 61, 32, 34]⟩ : ByteArray).size = 9 := rfl
      have e2 : (⟨#[34, 59]⟩ : ByteArray).size = 2 := rfl
      omega
  clear h hk hy hm hG hc hx0 hys hyl
  go_enter Tryz.func9, Tryz.ntmps9
  go_wp2_with fail
  refine HN.out.mono ?_
  rintro r w1 ⟨rfl, hr1, hg1⟩
  obtain ⟨G, hG⟩ : ∃ G, w1.heap.size = G := ⟨_, rfl⟩
  obtain ⟨w2, hw2⟩ : ∃ W, w1.alloc (.cells #[.int .u8 108, .int .u8 101, .int .u8 116, .int .u8 32, .int .u8 97, .int .u8 32, .int .u8 61, .int .u8 32, .int .u8 34] 5 (9, 9 + 1)) = W := ⟨_, rfl⟩
  have hb2 : Below w1.heap.size w1 w2 := by rw [← hw2]; exact (Below.refl _ _).alloc (Nat.le_refl _) _
  have HO2 : Hid (∀ j, j < ([108, 101, 116, 32, 97, 32, 61, 32, 34] : List Nat).length → w2.cell? ⟨G, j, none⟩ = some (.int .u8 (([108, 101, 116, 32, 97, 32, 61, 32, 34] : List Nat).getD j 0 : Nat))) := fun j hj => by
    rw [← hw2, ← hG]
    refine (cell_of_row _ _ j _ _ _ (heap_alloc_new w1 _)).trans ?_
    match j, hj with
    | 0, _ => rfl
    | 1, _ => rfl
    | 2, _ => rfl
    | 3, _ => rfl
    | 4, _ => rfl
    | 5, _ => rfl
    | 6, _ => rfl
    | 7, _ => rfl
    | 8, _ => rfl
  have kc : (convert 22 22 (.slice (some ⟨G, 0, none⟩) 9 9)).run Tryz.prog (w1.alloc (.cells #[.int .u8 108, .int .u8 101, .int .u8 116, .int .u8 32, .int .u8 97, .int .u8 32, .int .u8 61, .int .u8 32, .int .u8 34] 5)) = .ok (.slice (some ⟨G, 0, none⟩) 9 9) w2 := by
    rw [← hG, ← hw2]
    exact Lib.run_convert_bytes_const (P := Tryz.prog) w1 22 5 _ 9 9 Tryz.underlying22 Tryz.underlying5
  have HW2 : Hid (Gw (· = R) w w2) := hg1.bel hb2
  have HN2 := hide (HX1.out w2 (hr1.bel hb2))
  have HR0 : Hid (R < w1.heap.size) := hr1.lt
  have HGG : Hid (w1.heap.size = G) := hG
  clear hr1 hg1 HN hw2 hb2
  go_wp2_with fail
  refine HN2.out.mono ?_
  rintro r w3 ⟨rfl, hr3, hg3⟩
  have HW3 := hide (HW2.out.then hg3)
  have hc3 : ∀ j, j < ([108, 101, 116, 32, 97, 32, 61, 32, 34] : List Nat).length → w3.cell? ⟨G, j, none⟩ = some (.int .u8 (([108, 101, 116, 32, 97, 32, 61, 32, 34] : List Nat).getD j 0 : Nat)) := fun j hj => hg3.cell (HO2.out j hj) (by show ¬ G = R; have h1 := HR0.out; have h2 := HGG.out; omega)
  clear hg3 HN2 HX1
  go_wp2_with fail
  refine (HF.out w3).mono ?_
  rintro r w4 ⟨v4, rfl, ho4, hb4⟩
  clear kc hG
  obtain ⟨g, c4, rfl, hg, hlt, hcc, _⟩ := own_slice ho4 (by have := HYL.out; omega)
  have HB4 := hide hb4
  have HRD := hide (hr3.bel hb4)
  have HW4 := hide (HW3.out.bel hb4)
  have HP4 : Hid (∀ j, j < ([108, 101, 116, 32, 97, 32, 61, 32, 34] : List Nat).length → w4.cell? ⟨G, j, none⟩ = some (.int .u8 (([108, 101, 116, 32, 97, 32, 61, 32, 34] : List Nat).getD j 0 : Nat))) := fun j hj => cell_kept (hc3 j hj) hb4
  have HCC := hide hcc
  have HYZ : Hid (0 < ys.length) := by show 0 < ys.length; have := HYL.out; omega
  have HYB : Hid (ys.length ≤ 5000) := by show ys.length ≤ 5000; have := HYL.out; omega
  clear ho4 hb4 hg hlt hcc hr3 hc3
  go_wp2_with (first | (at_builtin; refine wp_app_full rfl _ _ rfl w4.heap.size G [108, 101, 116, 32, 97, 32, 61, 32, 34] rfl HP4.out g c4 ys rfl HCC.out HYZ.out (by have := HYB.out; simp only [List.length_cons, List.length_nil]; omega) (Nat.le_refl _) ?_; intro v5 w5 l5 hl5 ho5 hb5; have HO5 := hide ho5; have HL5 := hide hl5.out; have HB5 := hide hb5; have HS5 : Hid (l5.length ≤ 6000) := (by show l5.length ≤ 6000; rw [hl5.out]; have := HYB.out; simp only [List.length_append, List.length_cons, List.length_nil]; omega); clear ho5 hl5 hb5) | (at_builtin; refine wp_app_strG rfl _ _ rfl w4.heap.size _ l5 rfl HO5.out _ [34, 59] rfl rfl (by have := HS5.out; simp only [List.length_cons, List.length_nil]; omega) HB5.out.size ?_; intro v6 w6 l6 hl6 ho6 hg6; have HO6 := hide ho6; have HL6 := hide hl6.out; have HB6 : Hid (Below w4.heap.size w4 w6) := HB5.out.grown hg6 HB5.out.size (fun k hk => (HO5.out.lt k hk).1); clear ho6 hl6 hg6))
  go_ret
  exact HEN.out l6 w6 _ w4.heap.size HW4.out.size (by rw [HL6.out, HL5.out, List.append_assoc]; rfl) HO6.out (HW4.out.bel HB6.out) (HRD.out.bel HB6.out)

end Go.Proofs.YthoinjddamlapaaGreatDoor
