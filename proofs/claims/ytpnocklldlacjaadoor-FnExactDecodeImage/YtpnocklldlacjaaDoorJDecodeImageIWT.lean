/-
  The walk of the image's writer: target.
  The walks of isSide, isInside, neighbor.
-/
import Derived.Test.YtpnocklldlacjaaDoorJDecodeImageIWN
import Derived.Test.YtpnocklldlacjaaDoorJDecodeImageSL4
import Derived.BigQuiet
import Derived.Deep.QuietTactic
namespace Go.Proofs.YtpnocklldlacjaaDoor
open Go.RowKit

/-- A row that is laid out for a call reads so. -/
theorem lit_is {P : Nat} {w V : World} (L : List Int) (c : Nat) (hk : Kp P (w.alloc (.cells (L.map fun x => Value.int .i64 x).toArray 3)) V) : IS V (.slice (some ⟨w.heap.size, 0, none⟩) L.length c) L := by
  refine ⟨_, w.heap.size, 0, c, rfl, fun _ => rfl, fun j hj => ?_⟩
  have h := (hk.row w.heap.size 3 _ (by decide) (by decide) (Blk.new _ _ _)).cell j
  rw [Nat.zero_add, h]
  simp [List.getD, hj]

/-- numbers of one number. -/
theorem num1_any (P F s : Nat) (x : Int) (l : List Nat) (V : World) (hs : s = 1 ∨ s = 2 ∨ s = 4) (hl0 : 0 < l.length) (hl : l.length ≤ 1000000) (hPF : P < F) (hF : F ≤ V.heap.size) (him : Im V P F l) :
    Calls Tryd.prog 36 #[.pointer (some ⟨P, 0, none⟩), .int .i64 s, .slice (some ⟨V.heap.size, 0, none⟩) 1 1] (V.alloc (.cells #[.int .i64 x] 3)) fun e w' => e = .returned (.tuple #[]) ∧ ImO w' P F (l ++ le s (md s x)) ∧ Kp P V w' := by
  refine (numbers_any P F s _ [x] l (V.alloc (.cells #[.int .i64 x] 3)) hs hl0 hl Nat.zero_lt_one (by simp) hPF (by rw [World.size_alloc]; omega) (him.below ((Below.refl _ _).alloc (Nat.le_refl _) _)) (fun W hW => lit_is [x] 1 hW)).mono ?_
  rintro e w' ⟨rfl, h1, h2⟩
  exact ⟨rfl, h1, ((Kp.refl P V).alloc (by omega) _).trans h2⟩

set_option maxHeartbeats 4000000 in
set_option maxRecDepth 1000000 in
theorem target_any (P F : Nat) (t : Tg) (vn : Value) (l : List Nat) (w : World) (hl0 : 0 < l.length) (hl : l.length ≤ 900000) (hPF : P < F) (hF : F ≤ w.heap.size) (him : Im w P F l)
    (hn : ∀ V, Kp P w V → BS V vn t.name) (hn0 : 0 < t.name.size) (hn1 : t.name.size < 256) (hk0 : 0 ≤ t.kind) (hk1 : t.kind < 256) (hc0 : 0 ≤ t.cell) (hc1 : t.cell < 65536) :
    Calls Tryd.prog 37 #[.pointer (some ⟨P, 0, none⟩), .agg #[vn, .int .i64 t.kind, .int .i64 t.cell]] w fun e w' => e = .returned (.tuple #[]) ∧ ImO w' P F (l ++ imT t) ∧ Kp P w w' := by
  obtain ⟨nm, kd, cl⟩ := t
  simp only at hn hn0 hn1 hk0 hk1 hc0 hc1 ⊢
  have HN := hide hn
  obtain ⟨a, b, o, c, rfl, ha, hc⟩ := hn w (Kp.refl _ _)
  obtain rfl := ha hn0
  have HIM := hide him
  obtain ⟨W0, hW0⟩ : ∃ W, w.alloc (.cells #[.slice (some ⟨b, o, none⟩) nm.size c, .int .i64 kd, .int .i64 cl] 56) = W := ⟨_, rfl⟩
  have hS0 : w.heap.size + 1 = W0.heap.size := by rw [← hW0, World.size_alloc]
  have HA0 : Hid (Blk W0 w.heap.size 56 #[.slice (some ⟨b, o, none⟩) nm.size c, .int .i64 kd, .int .i64 cl]) := by rw [← hW0]; exact Blk.new _ _ _
  have HK0 : Hid (Kp P w W0) := by rw [← hW0]; exact (Kp.refl P w).alloc (by omega) _
  have HIM0 : Hid (Im W0 P F l) := by rw [← hW0]; exact him.below ((Below.refl _ _).alloc (Nat.le_refl _) _)
  have HW0 := hide hW0
  have HS0 := hide hS0
  have hF0 : F ≤ W0.heap.size := by omega
  clear hn hc ha him hW0 hS0
  go_enter Tryd.func37, Tryd.ntmps37
  go_wp2_with fail
  rw [HW0.out, HS0.out]
  refine (num1_any P F 1 kd l W0 (.inl rfl) hl0 (by omega) hPF hF0 HIM0.out).mono ?_
  rintro e w1 ⟨rfl, him1, hk1'⟩
  have HK1 : Hid (Kp P w w1) := HK0.out.trans hk1'
  have HA1 := hide (hk1'.row _ _ _ (by decide) (by decide) HA0.out)
  have hF1 : F ≤ w1.heap.size := by have := hk1'.bel.size; omega
  rw [le_md1 hk0 hk1] at him1
  obtain ⟨l1, hl1⟩ : ∃ l1, l ++ [kd.toNat] = l1 := ⟨_, rfl⟩
  rw [hl1] at him1
  have HL1 := hide hl1
  have hll1 : l1.length = l.length + 1 := by rw [← hl1, List.length_append, List.length_singleton]
  have hl10 : 0 < l1.length := by omega
  have hl11 : l1.length ≤ 900001 := by omega
  have HIM1 := hide him1.im
  clear hk1' him1 hl1 hll1
  have y0 := HA1.out.cell 0
  have y1 := HA1.out.cell 1
  have y2 := HA1.out.cell 2
  simp only [List.getElem?_toArray, List.getElem?_cons_succ, List.getElem?_cons_zero] at y0 y1 y2
  go_wp2_with fail
  refine (num1_any P F 2 cl l1 w1 (.inr (.inl rfl)) hl10 (by omega) hPF hF1 HIM1.out).mono ?_
  rintro e w2 ⟨rfl, him2, hk2'⟩
  have HK2 : Hid (Kp P w w2) := HK1.out.trans hk2'
  have HA2 := hide (hk2'.row _ _ _ (by decide) (by decide) HA1.out)
  have hF2 : F ≤ w2.heap.size := by have := hk2'.bel.size; omega
  obtain ⟨l2, hl2⟩ : ∃ l2, l1 ++ le 2 (md 2 cl) = l2 := ⟨_, rfl⟩
  rw [hl2] at him2
  have HL2 := hide hl2
  have hll2 : l2.length = l1.length + 2 := by rw [← hl2, List.length_append, le_len]
  have hl20 : 0 < l2.length := by omega
  have hl21 : l2.length ≤ 900003 := by omega
  have HIM2 := hide him2.im
  clear hk2' him2 hl2 hll2 y0 y1 y2
  have y0 := HA2.out.cell 0
  have y1 := HA2.out.cell 1
  have y2 := HA2.out.cell 2
  simp only [List.getElem?_toArray, List.getElem?_cons_succ, List.getElem?_cons_zero] at y0 y1 y2
  go_wp2_with fail
  refine (num1_any P F 1 (nm.size : Int) l2 w2 (.inl rfl) hl20 (by omega) hPF hF2 HIM2.out).mono ?_
  rintro e w3 ⟨rfl, him3, hk3'⟩
  have HK3 : Hid (Kp P w w3) := HK2.out.trans hk3'
  have HA3 := hide (hk3'.row _ _ _ (by decide) (by decide) HA2.out)
  have hF3 : F ≤ w3.heap.size := by have := hk3'.bel.size; omega
  rw [le_md1 (by omega) (by omega)] at him3
  obtain ⟨l3, hl3⟩ : ∃ l3, l2 ++ [((nm.size : Int)).toNat] = l3 := ⟨_, rfl⟩
  rw [hl3] at him3
  have HL3 := hide hl3
  have hll3 : l3.length = l2.length + 1 := by rw [← hl3, List.length_append, List.length_singleton]
  have hl30 : 0 < l3.length := by omega
  have hl31 : l3.length ≤ 900004 := by omega
  obtain ⟨v3, hb3, ho3⟩ := him3
  obtain ⟨g3, c3, rfl, _⟩ := own_slice ho3 hl30
  have HB3 := hide hb3
  have HO3 := hide ho3
  clear hk3' hl3 hll3 y0 y1 y2 hb3 ho3
  have y0 := HA3.out.cell 0
  have y1 := HA3.out.cell 1
  have y2 := HA3.out.cell 2
  have p0 := HB3.out.cell 0
  have p1 := HB3.out.frozen 0
  simp only [List.getElem?_toArray, List.getElem?_cons_succ, List.getElem?_cons_zero] at y0 y1 y2 p0
  have HNM : Hid (∀ j, j < (nb nm).length → w3.drew.cell? ⟨b, o + j, none⟩ = some (.int .u8 ((nb nm).getD j 0 : Nat))) := fun j hj => by
    rw [nb_len] at hj
    rw [nb_at nm hj]
    obtain ⟨a', b', o', c', h1, h2, h3⟩ := HN.out w3 HK3.out
    injection h1 with h4 h5 h6
    have h7 := h2 hn0
    rw [← h4] at h7
    cases h7
    exact h3 j hj
  have HIV : Hid (ImV w3.drew F (.slice (some ⟨g3, 0, none⟩) l3.length c3) l3) := .inl HO3.out.drew
  have hnl : (nb nm).length = nm.size := nb_len nm
  have HNL := hide hnl
  have hnb0 : 0 < (nb nm).length := by omega
  have hnb1 : (nb nm).length < 256 := by omega
  obtain ⟨N, hN⟩ : ∃ N, nb nm = N := ⟨_, rfl⟩
  rw [hN] at HNM hnb0 hnb1 hnl
  have HSZ : Hid (nm.size = N.length) := hnl.symm
  have HNN := hide hN
  clear hN hnl
  go_wp2
  go_region_law (first
    | (refine step_app_im rfl (.tmp 24) (.tmp 26) rfl F (.slice (some ⟨g3, 0, none⟩) l3.length c3) l3 rfl HIV.out b o c N ?ex HNM.out hnb0 ?len ?bas ?_
       case ex => (show Value.slice (some ⟨b, o, none⟩) nm.size c = _; rw [HSZ.out])
       case len => omega
       case bas => exact hF3
       intro v' w' l' hl' ho hbs hbl
       have hl1 : 0 < l'.length := (by rw [hl'.out, List.length_append]; omega)
       obtain ⟨g1, c1, rfl, _⟩ := own_slice ho hl1
       have HO := hide ho
       have HBS := hide hbs
       have HBL := hide hbl
       have HP1 := hide (hbs P _ _ (by decide) HB3.out)
       have z0 := HP1.out.cell 0
       have z1 := HP1.out.frozen 0
       simp only [List.getElem?_toArray, List.getElem?_cons_zero] at z0
       clear ho hbs hbl p0 p1))
  all_goals
    have HKS : Hid (Kp P w (w'.setCell ⟨P, 0, none⟩ (.slice (some ⟨g1, 0, none⟩) l'.length c1))) := (Kp.app HK3.out.drew (by omega) HBS.out HBL.out).set HP1.out (Nat.le_refl _) 0 _
    have HLL : Hid (l' = l ++ imT ⟨nm, kd, cl⟩) := by
      show _ = _
      unfold imT
      rw [hl'.out, ← HL3.out, ← HL2.out, ← HL1.out, ← HNN.out, Int.toNat_natCast]
      simp only [List.append_assoc]
      rw [show md 2 cl = cl.toNat by unfold md; omega]
    have HOS : Hid (ImO (w'.setCell ⟨P, 0, none⟩ (.slice (some ⟨g1, 0, none⟩) l'.length c1)) P F (l ++ imT ⟨nm, kd, cl⟩)) := by
      show ImO _ _ _ _
      have h := im_set HO.out hPF HP1.out
      revert h
      generalize w'.setCell ⟨P, 0, none⟩ (.slice (some ⟨g1, 0, none⟩) l'.length c1) = V
      rw [HLL.out]
      exact fun h => h
    clear z0 z1
    go_wp2
    go_end0
    exact ⟨rfl, HOS.out, HKS.out⟩
end Go.Proofs.YtpnocklldlacjaaDoor

namespace Go.Proofs.YtpnocklldlacjaaDoor
open Go.RowKit

/-- What wayMoves holds. -/
structure MvOk (w : World) : Prop where
  a0 : w.cell? ⟨2, 0, none⟩ = some (.int .i64 0)
  a1 : w.cell? ⟨2, 1, none⟩ = some (.int .i64 (-1))
  a2 : w.cell? ⟨2, 2, none⟩ = some (.int .i64 1)
  a3 : w.cell? ⟨2, 3, none⟩ = some (.int .i64 0)
  a4 : w.cell? ⟨2, 4, none⟩ = some (.int .i64 0)
  a5 : w.cell? ⟨2, 5, none⟩ = some (.int .i64 1)
  a6 : w.cell? ⟨2, 6, none⟩ = some (.int .i64 (-1))
  a7 : w.cell? ⟨2, 7, none⟩ = some (.int .i64 0)
theorem MvOk.below {w w' : World} (h : MvOk w) (hb : Below w.heap.size w w') : MvOk w' :=
  ⟨cell_kept h.a0 hb, cell_kept h.a1 hb, cell_kept h.a2 hb, cell_kept h.a3 hb, cell_kept h.a4 hb, cell_kept h.a5 hb, cell_kept h.a6 hb, cell_kept h.a7 hb⟩

set_option maxRecDepth 1000000 in
theorem isSide_any (n : Int) (w : World) :
    Calls Tryd.prog 30 #[.int .i64 n] w fun e w' => e = .returned (.bool (decide (1 ≤ n) && decide (n ≤ 40))) ∧ w' = w := by
  obtain ⟨b0, t0⟩ : ∃ b, decide (1 ≤ n) = b := ⟨_, rfl⟩
  obtain ⟨b1, t1⟩ : ∃ b, decide (n ≤ 40) = b := ⟨_, rfl⟩
  rw [t0, t1]
  cases b0 <;> cases b1
  all_goals
    go_enter Tryd.func30, Tryd.ntmps30
    go_wp2
    go_ret
    exact ⟨rfl, rfl⟩

/-- Whether a place is one of the grid. -/
def insd (W H x y : Int) : Bool := decide (0 ≤ x) && decide (x < W) && decide (0 ≤ y) && decide (y < H)
set_option maxRecDepth 1000000 in
theorem isInside_any (W H x y : Int) (w : World) :
    Calls Tryd.prog 88 #[.int .i64 W, .int .i64 H, .int .i64 x, .int .i64 y] w fun e w' => e = .returned (.bool (insd W H x y)) ∧ w' = w := by
  unfold insd
  obtain ⟨b0, t0⟩ : ∃ b, decide (0 ≤ x) = b := ⟨_, rfl⟩
  obtain ⟨b1, t1⟩ : ∃ b, decide (x < W) = b := ⟨_, rfl⟩
  obtain ⟨b2, t2⟩ : ∃ b, decide (0 ≤ y) = b := ⟨_, rfl⟩
  obtain ⟨b3, t3⟩ : ∃ b, decide (y < H) = b := ⟨_, rfl⟩
  rw [t0, t1, t2, t3]
  cases b0 <;> cases b1 <;> cases b2 <;> cases b3
  all_goals
    go_enter Tryd.func88, Tryd.ntmps88
    go_wp2
    go_ret
    exact ⟨rfl, rfl⟩

/-- By how much a way leads on. -/
def dxw (d : Nat) : Int := if d = 1 then 1 else if d = 3 then -1 else 0
def dyw (d : Nat) : Int := if d = 0 then -1 else if d = 2 then 1 else 0
/-- The cell's number that neighbor answers. -/
def nbv (W c : Int) (d : Nat) : Int := (c / W + dyw d) * W + (c % W + dxw d)
theorem insd_toC {W H c : Int} {d : Nat} (hw0 : 1 ≤ W) (hc0 : 0 ≤ c) (hc1 : c < W * H) (hd : d < 4) :
    insd W H (c % W + dxw d) (c / W + dyw d) = decide (0 ≤ toC W H c d) ∧ (0 ≤ toC W H c d → nbv W c d = toC W H c d) := by
  obtain ⟨hy0, hy1, hx0, hx1⟩ := toC_div hw0 hc0 hc1
  unfold nbv toC insd dxw dyw
  generalize c / W = y at *
  generalize c % W = x at *
  have e1 : (y - 1) * W = y * W - W := by rw [Int.sub_mul, Int.one_mul]
  have e2 : (y + 1) * W = y * W + W := by rw [Int.add_mul, Int.one_mul]
  have e3 : (y + -1) * W = y * W - W := by rw [Int.add_mul, Int.neg_mul, Int.one_mul]; omega
  have e4 : (y + 0) * W = y * W := by rw [Int.add_zero]
  have p1 : 0 ≤ y * W := Int.mul_nonneg hy0 (by omega)
  have p2 : 1 ≤ y → W ≤ y * W := fun h => by have := Int.mul_le_mul_of_nonneg_right h (show 0 ≤ W by omega); omega
  have hd4 : d = 0 ∨ d = 1 ∨ d = 2 ∨ d = 3 := by omega
  rcases hd4 with rfl | rfl | rfl | rfl
  all_goals simp (decide := true) only [↓reduceIte, e1, e2, e3, e4]
  all_goals
    refine ⟨?_, ?_⟩
    · rw [Bool.eq_iff_iff]
      simp only [Bool.and_eq_true, decide_eq_true_eq]
      split <;> constructor <;> intro h <;> omega
    · split <;> intro h <;> omega

set_option maxHeartbeats 1000000 in
set_option maxRecDepth 1000000 in
theorem neighbor_any (W H c : Int) (d : Nat) (w : World) (hm : MvOk w) (hw0 : 1 ≤ W) (hw1 : W ≤ 40) (hh1 : H ≤ 40) (hc0 : 0 ≤ c) (hc1 : c < W * H) (hd : d < 4) :
    Calls Tryd.prog 80 #[.int .i64 W, .int .i64 H, .int .i64 c, .int .i64 d] w fun e w' => e = .returned (.tuple #[.int .i64 (nbv W c d), .bool (decide (0 ≤ toC W H c d))]) ∧ Below w.heap.size w w' := by
  obtain ⟨hy0, hy1, hx0, hx1⟩ := toC_div hw0 hc0 hc1
  obtain ⟨hin, _⟩ := insd_toC hw0 hc0 hc1 hd
  rw [← hin]
  clear hin
  have hdm : c.tdiv W = c / W := Int.tdiv_eq_ediv_of_nonneg hc0
  have hmm : c.tmod W = c % W := Int.tmod_eq_emod_of_nonneg hc0
  have hWne : (W == 0) = false := by rw [beq_eq_false_iff_ne]; omega
  unfold nbv
  generalize c / W = y at *
  generalize c % W = x at *
  have p1 : 0 ≤ y * W ∧ y * W ≤ 1600 := ⟨Int.mul_nonneg hy0 (by omega), by have := Int.mul_le_mul (show y ≤ 40 by omega) hw1 (by omega) (by omega); omega⟩
  have HI := hide (fun x y w => isInside_any W H x y w)
  obtain ⟨m0, m1, m2, m3, m4, m5, m6, m7⟩ := hm
  have hd4 : d = 0 ∨ d = 1 ∨ d = 2 ∨ d = 3 := by omega
  clear hd hc0 hc1
  have p2 : (y + -1) * W = y * W - W := by rw [Int.add_mul, Int.neg_mul, Int.one_mul]; omega
  have p3 : (y + 1) * W = y * W + W := by rw [Int.add_mul, Int.one_mul]
  have p4 : -1000 ≤ (y + -1) * W ∧ (y + -1) * W ≤ 1700 := by omega
  have p5 : -1000 ≤ (y + 1) * W ∧ (y + 1) * W ≤ 1700 := by omega
  clear p2 p3
  rcases hd4 with rfl | rfl | rfl | rfl
  all_goals
    simp (decide := true) only [dxw, dyw, ↓reduceIte, Int.add_zero]
    go_enter Tryd.func80, Tryd.ntmps80
    go_wp2_with fail
    go_quiet (fail)
    go_wp2_with fail
    go_quiet (fail)
    go_wp2_with fail
    refine (HI.out _ _ _).mono ?_
    rintro e w1 ⟨rfl, rfl⟩
    go_wp2
    go_ret2
    exact ⟨rfl, below_drewN (Below.refl _ _) _⟩
end Go.Proofs.YtpnocklldlacjaaDoor
