/-
  spec.l9name2.
-/
import Derived.Test.YthoinjddamlapaaGreatDoorJToG2
import Derived.Lib.ConvBytes
import Derived.Deep.RegionHeld3
namespace Go.Proofs.YthoinjddamlapaaGreatDoor
open Go.RowKit

theorem dg_loG (k : Nat) (h : k < 16) : dg k < 256 := by unfold dg; split <;> omega
theorem qb_loG {c : Nat} (h : c < 256) : Lo (qb c) := by
  unfold qb
  split
  · exact Lo.cons (by decide) (Lo.one h)
  · split
    · refine Lo.app (Lo.app (Lo.cons (by decide) (Lo.cons (by decide) (Lo.one (by decide)))) ?_) (Lo.one (by decide))
      unfold hexL
      split
      · exact Lo.one (dg_loG _ (by omega))
      · exact Lo.cons (dg_loG _ (by omega)) (Lo.one (dg_loG _ (by omega)))
    · exact Lo.one h
theorem quoted_loG (s : ByteArray) : Lo (quoted s) := by
  unfold quoted
  split
  · refine Lo.app ?_ (Lo.one (by decide))
    generalize s.size = k
    induction k with
    | zero => exact Lo.one (by decide)
    | succ k ih => exact Lo.app ih (qb_loG (s.get! _).toNat_lt)
  · exact Lo.nil
theorem quoted_leG (s : ByteArray) : (quoted s).length ≤ 6 * s.size + 2 := by
  unfold quoted
  split
  · rw [List.length_append]; have := qTo_le s s.size; simp only [List.length_singleton]; omega
  · simp
theorem gN1_le (e : GE) (i : Nat) : (gN1 e i).1.size ≤ 60 := by
  have h1 := quoted_leG (wdN.getD (e.nx i % 5) ⟨#[]⟩)
  have h2 := getD_le (L := wdN) (n := 7) (by decide) (e.nx i % 5)
  have h3 := decB_le (e.nx (i + 1) % 30)
  unfold gN1
  split
  · simp only [ByteArray.size_append, lsz, List.size_toArray, List.length_cons, List.length_nil, byt_size]
    omega
  · simp only [byt_size]
    omega
theorem gN2_le {ints : List ByteArray} (h : ∀ x ∈ ints, x.size ≤ 4) (k : Nat) (o : ByteArray) : (gN2 ints k o).size ≤ o.size + 7 := by
  have h1 := getD_le h (k % ints.length)
  unfold gN2
  split
  · simp only [ByteArray.size_append, lsz, List.size_toArray, List.length_cons, List.length_nil]
    omega
  · omega
theorem gN_le {e : GE} {ints : List ByteArray} (h : ∀ x ∈ ints, x.size ≤ 4) (ht : ∀ x ∈ e.texts, x.size ≤ 4) (i : Nat) : (gN e ints i).1.size ≤ 70 := by
  have h1 := gN1_le e i
  have h2 := gN2_le h (e.nx i) (gN1 e i).1
  have h3 := getD_le ht (e.nx i % e.texts.length)
  have h4 := decB_le (e.nx i % 9)
  unfold gN
  simp only
  split
  · simp only [ByteArray.size_append, lsz, List.size_toArray, List.length_cons, List.length_nil]
    omega
  · omega
theorem bytes_bts (W : World) (x : ByteArray) (j : Nat) (hj : j < x.size) : (Lib.bytesWorld W 5 x).cell? ⟨W.heap.size, 0 + j, none⟩ = some (bts x j) := by
  rw [Nat.zero_add, Lib.bytesWorld_cell W 5 x j hj]
  unfold bts
  congr 3
  rw [Utf8W.get!_of_lt x j hj]
  have hl : j < x.data.toList.length := by rw [Array.length_toList]; exact hj
  rw [List.getD_eq_getElem?_getD, List.getElem?_eq_getElem hl, Option.getD_some, Array.getElem_toList]
  rfl
set_option maxHeartbeats 8000000 in
set_option maxRecDepth 1000000 in
theorem name_gn (c : GnC) (e : GE) (i : Nat) (vi vt : Value) (ints : List ByteArray) (f : Int) (w : World) (h : GnAt w c e i vi vt ints f) :
    Calls Tryz.prog 54 #[.pointer (some ⟨c.G, 0, none⟩)] w (GnQ c e (gN e ints i).2 vi vt ints f w (gN e ints i).1) := by
  have HN := hide (next_gn h)
  have g0 := (gc0 h).1
  have hk6 := e.nx_lt i
  have hns := h.ns
  have hts := h.ts
  have HGN : Hid (gN e ints i = (if 200 < e.nx i ∧ 0 < e.texts.length then e.texts.getD (e.nx i % e.texts.length) ⟨#[]⟩ ++ ({ data := #[32, 38, 32] } : ByteArray) ++ decB (e.nx i % 9) else gN2 ints (e.nx i) (gN1 e i).1, (gN1 e i).2)) := rfl
  have HG1 : Hid (gN1 e i = if e.nx i % 3 = 0 then (byt (quoted (wdN.getD (e.nx i % 5) ⟨#[]⟩)) ++ (({ data := #[32, 38, 32] } : ByteArray) ++ decB (e.nx (i + 1) % 30)), i + 2) else (byt (quoted (wdN.getD (e.nx i % 5) ⟨#[]⟩)), i + 1)) := rfl
  obtain ⟨k, hk⟩ : ∃ k, e.nx i = k := ⟨_, rfl⟩
  rw [hk] at HN hk6 HGN HG1
  obtain ⟨j, hj⟩ : ∃ j, k % 5 = j := ⟨_, rfl⟩
  rw [hj] at HG1
  have hmj : (k : Int).tmod 5 = (j : Int) := by rw [← hj]; rfl
  have hj5 : j < 5 := by omega
  have hji : (j : Int) < 5 := by omega
  have hcl : ∀ W : World, (W.alloc (.cells #[.string ({ data := #[100, 111, 99, 107] } : ByteArray), .string ({ data := #[65] } : ByteArray), .string ({ data := #[66] } : ByteArray), .string ({ data := #[112, 97, 99, 107, 32, 195, 165] } : ByteArray), .string ({ data := #[113] } : ByteArray)] 9)).cell? ⟨W.heap.size, j, none⟩ = some (.string (wdN.getD j ⟨#[]⟩)) := fun W => by
    rw [cell_fresh]
    have h6 : j = 0 ∨ j = 1 ∨ j = 2 ∨ j = 3 ∨ j = 4 := by omega
    rcases h6 with rfl | rfl | rfl | rfl | rfl <;> rfl
  have o2 := getD_le (L := wdN) (n := 7) (by decide) j
  have ql := quoted_leG (wdN.getD j ⟨#[]⟩)
  obtain ⟨O, hO⟩ : ∃ Z, wdN.getD j ⟨#[]⟩ = Z := ⟨_, rfl⟩
  rw [hO] at o2 ql HG1
  simp only [hO] at hcl
  have hcv := fun W => Lib.run_convert_string_bytes (P := Tryz.prog) W 9 22 5 O Tryz.underlying9 Tryz.underlying22 Tryz.underlying5
  clear h hk hj hj5 hO
  go_enter Tryz.func54, Tryz.ntmps54
  go_wp2_with fail
  refine HN.out.mono ?_
  rintro r w1 ⟨rfl, h1, hg1⟩
  have hc1 := hcl w1
  have HB1 : Hid (Below w1.heap.size w1 (Lib.bytesWorld (w1.alloc (.cells #[.string ({ data := #[100, 111, 99, 107] } : ByteArray), .string ({ data := #[65] } : ByteArray), .string ({ data := #[66] } : ByteArray), .string ({ data := #[112, 97, 99, 107, 32, 195, 165] } : ByteArray), .string ({ data := #[113] } : ByteArray)] 9)) 5 O)) := by
    have hg := grown_trans0 (World.grownBy_alloc w1 (.cells #[.string ({ data := #[100, 111, 99, 107] } : ByteArray), .string ({ data := #[65] } : ByteArray), .string ({ data := #[66] } : ByteArray), .string ({ data := #[112, 97, 99, 107, 32, 195, 165] } : ByteArray), .string ({ data := #[113] } : ByteArray)] 9) none) (⟨rfl, rfl, rfl, by rw [Lib.bytesWorld_size]; omega, fun k hk _ => Lib.bytesWorld_at_old _ 5 O k hk⟩ : (w1.alloc (.cells #[.string ({ data := #[100, 111, 99, 107] } : ByteArray), .string ({ data := #[65] } : ByteArray), .string ({ data := #[66] } : ByteArray), .string ({ data := #[112, 97, 99, 107, 32, 195, 165] } : ByteArray), .string ({ data := #[113] } : ByteArray)] 9)).grownBy (Lib.bytesWorld (w1.alloc (.cells #[.string ({ data := #[100, 111, 99, 107] } : ByteArray), .string ({ data := #[65] } : ByteArray), .string ({ data := #[66] } : ByteArray), .string ({ data := #[112, 97, 99, 107, 32, 195, 165] } : ByteArray), .string ({ data := #[113] } : ByteArray)] 9)) 5 O) none)
    exact ⟨hg.os, hg.tape, hg.output, hg.size, fun k hk => hg.block k hk (by simp)⟩
  have HQ : Hid (∀ cap, Calls Tryz.prog 67 #[.slice (some ⟨w1.heap.size + 1, 0, none⟩) O.size cap] (Lib.bytesWorld (w1.alloc (.cells #[.string ({ data := #[100, 111, 99, 107] } : ByteArray), .string ({ data := #[65] } : ByteArray), .string ({ data := #[66] } : ByteArray), .string ({ data := #[112, 97, 99, 107, 32, 195, 165] } : ByteArray), .string ({ data := #[113] } : ByteArray)] 9)) 5 O) fun r w' => ∃ v', r = .returned v' ∧ w'.ownsRow (Lib.bytesWorld (w1.alloc (.cells #[.string ({ data := #[100, 111, 99, 107] } : ByteArray), .string ({ data := #[65] } : ByteArray), .string ({ data := #[66] } : ByteArray), .string ({ data := #[112, 97, 99, 107, 32, 195, 165] } : ByteArray), .string ({ data := #[113] } : ByteArray)] 9)) 5 O).heap.size 5 1 v' (quoted O).length (cv (quoted O)) ∧ Below (Lib.bytesWorld (w1.alloc (.cells #[.string ({ data := #[100, 111, 99, 107] } : ByteArray), .string ({ data := #[65] } : ByteArray), .string ({ data := #[66] } : ByteArray), .string ({ data := #[112, 97, 99, 107, 32, 195, 165] } : ByteArray), .string ({ data := #[113] } : ByteArray)] 9)) 5 O).heap.size (Lib.bytesWorld (w1.alloc (.cells #[.string ({ data := #[100, 111, 99, 107] } : ByteArray), .string ({ data := #[65] } : ByteArray), .string ({ data := #[66] } : ByteArray), .string ({ data := #[112, 97, 99, 107, 32, 195, 165] } : ByteArray), .string ({ data := #[113] } : ByteArray)] 9)) 5 O) w') := fun cap => specQuote_any (w1.heap.size + 1) 0 cap O _ (by omega) (fun j hj => by
    have := bytes_bts (w1.alloc (.cells #[.string ({ data := #[100, 111, 99, 107] } : ByteArray), .string ({ data := #[65] } : ByteArray), .string ({ data := #[66] } : ByteArray), .string ({ data := #[112, 97, 99, 107, 32, 195, 165] } : ByteArray), .string ({ data := #[113] } : ByteArray)] 9)) O j hj
    rw [World.size_alloc] at this
    exact this)
  have H1 := hide h1
  have HW1 := hide hg1
  clear h1 hg1 HN g0 hcl
  go_wp2_with fail
  refine (HQ.out _).mono ?_
  rintro r w2 ⟨v', rfl, ho, hb2⟩
  have hcs := toStr_bs (own_bs ho (quoted_loG O))
  have hsl := (own_bs ho (quoted_loG O)).slice
  obtain ⟨av, cv', rfl⟩ := hsl
  have hb12 := HB1.out.trans (hb2.mono HB1.out.size)
  have HG2 := hide (H1.out.below hb12)
  have HW2 : Hid (Gw (· = c.R) w w2) := HW1.out.trans (Gw.of_below hb12 (P := fun _ => False)) (fun _ _ g => g.elim)
  obtain ⟨g0, _, _, g3, g4, _⟩ := gc0 HG2.out
  have q1 : (byt (quoted O)).size ≤ 44 := by rw [byt_size]; omega
  obtain ⟨S, hS⟩ : ∃ Z, byt (quoted O) = Z := ⟨_, rfl⟩
  rw [hS] at hcs q1 HG1 ⊢
  clear ho hb2 hb12 HB1 HQ H1 HW1 hc1 hcv hS
  have HTX := hide HG2.out.tx
  obtain ⟨m3, hm3⟩ : ∃ m, k % 3 = m := ⟨_, rfl⟩
  have hmm3 : (k : Int).tmod 3 = (m3 : Int) := by rw [← hm3]; rfl
  rw [hm3] at HG1
  clear hm3
  by_cases ca : m3 = 0
  · have ta : ((m3 : Int) == 0) = true := by rw [ca]; rfl
    have HNX := hide (next_gn HG2.out)
    have hy6 := e.nx_lt (i + 1)
    obtain ⟨y0, hy0⟩ : ∃ y, e.nx (i + 1) = y := ⟨_, rfl⟩
    rw [hy0] at HNX hy6 HG1
    obtain ⟨z, hz⟩ : ∃ z, y0 % 30 = z := ⟨_, rfl⟩
    have hmz : (y0 : Int).tmod 30 = (z : Int) := by rw [← hz]; rfl
    have HDz := hide (fun V => l2dG_any z V (by omega))
    have dz := decB_le z
    rw [hz] at HG1
    obtain ⟨D, hD⟩ : ∃ Z, decB z = Z := ⟨_, rfl⟩
    rw [hD] at HDz dz HG1
    have HN1 : Hid (gN1 e i = (S ++ (({ data := #[32, 38, 32] } : ByteArray) ++ D), i + 2)) := by show _ = _; rw [HG1.out, if_pos ca]
    have d1 : ¬ 9223372036854775807 < 3 + D.size := by omega
    have d2 : ¬ 9223372036854775807 < S.size + (3 + D.size) := by omega
    clear hy0 hz hD HG1
    go_wp2_with fail
    refine HNX.out.mono ?_
    rintro r w3 ⟨rfl, h3, hg3⟩
    have H3 := hide h3
    have HW3 := hide (HW2.out.then hg3)
    clear h3 hg3 HNX g0 g3 g4
    go_wp2_with fail
    refine (HDz.out _).mono ?_
    rintro r w4 ⟨rfl, hb4⟩
    have HG4 := hide (H3.out.below hb4)
    have HW4 : Hid (Gw (· = c.R) w w4) := HW3.out.trans (Gw.of_below hb4 (P := fun _ => False)) (fun _ _ g => g.elim)
    clear hb4 HDz H3 HW3 HG2 HW2 HTX
    obtain ⟨ai, gi, ki, hvi, hai, hci⟩ := (HG4.out).ivw
    obtain ⟨m7, hm7⟩ : ∃ m, k % 7 = m := ⟨_, rfl⟩
    have hmm7 : (k : Int).tmod 7 = (m7 : Int) := by rw [← hm7]; rfl
    obtain ⟨l, hl⟩ : ∃ n, ints.length = n := ⟨_, rfl⟩
    have gv := (gc0 HG4.out).2.2.2.1
    by_cases cb : m7 = 1 ∧ 0 < l
    · have tb : ((m7 : Int) == 1) = true := by rw [cb.1]; rfl
      rw [hl] at hvi hai hci
      obtain rfl := hai cb.2
      obtain ⟨y, hy⟩ : ∃ y, k % l = y := ⟨_, rfl⟩
      have hyl : y < l := by rw [← hy]; exact Nat.mod_lt _ cb.2
      have gy := hci y hyl
      have yl := getD_le hns y
      have HN2 : Hid (gN2 ints k (S ++ (({ data := #[32, 38, 32] } : ByteArray) ++ D)) = S ++ (({ data := #[32, 38, 32] } : ByteArray) ++ D) ++ (({ data := #[32, 38, 32] } : ByteArray) ++ ints.getD y ⟨#[]⟩)) := by show _ = _; unfold gN2; rw [hm7, hl, if_pos cb, hy]
      obtain ⟨Y, hY⟩ : ∃ Z, ints.getD y ⟨#[]⟩ = Z := ⟨_, rfl⟩
      rw [hY] at gy yl HN2
      rw [hvi] at gv
      have hmy : (k : Int).tmod (l : Int) = (y : Int) := by rw [← hy]; rfl
      have hll : ((l : Int) == 0) = false := by rw [beq_eq_false_iff_ne]; omega
      have hlq : decide ((l : Int) > 0) = true := decide_eq_true (by omega)
      have hlq2 : 0 < l := cb.2
      have hyi : (y : Int) < (l : Int) := by omega
      have y1 : ¬ 9223372036854775807 < 3 + Y.size := by omega
      have y2 : ¬ 9223372036854775807 < (S.size + (3 + D.size)) + (3 + Y.size) := by omega
      have HFD : Hid (∀ n, GnAt ((w4).drewN n) c e (i + 2) vi vt ints f ∧ Gw (· = c.R) w ((w4).drewN n)) := fun n => ⟨(HG4.out).below (below_drewN (Below.refl _ _) n), (HW4.out).trans (Gw.of_below (below_drewN (Below.refl _ _) n) (P := fun _ => False)) (fun _ _ g => g.elim)⟩
      clear hci hai hvi hy hY cb hl hm7
      go_wp2_with fail
      go_quiet (fail)
      obtain ⟨at4, bt4, ot4, ct4, hvt, hat, hct⟩ := ((HFD.out nq).1).tx
      obtain ⟨tl, htl⟩ : ∃ n, e.texts.length = n := ⟨_, rfl⟩
      rw [htl] at hvt hat hct
      by_cases cc : 200 < k ∧ 0 < tl
      · have tc : decide ((k : Int) > 200) = true := decide_eq_true (by omega)
        have tc2 : decide (200 < (k : Int)) = true := decide_eq_true (by omega)
        obtain rfl := (hat cc.2).1
        obtain ⟨x, hx⟩ : ∃ x, k % tl = x := ⟨_, rfl⟩
        have hxl : x < tl := by rw [← hx]; exact Nat.mod_lt _ cc.2
        have gx := hct x hxl
        have gt := (gc0 (HFD.out nq).1).2.2.2.2.1
        rw [hvt] at gt
        have xl := getD_le hts x
        obtain ⟨d9, hd9⟩ : ∃ d, k % 9 = d := ⟨_, rfl⟩
        have HD9 := hide (fun V => l2dG_any d9 V (by omega))
        have x9 := decB_le d9
        have HE : Hid (gN e ints i = (e.texts.getD x ⟨#[]⟩ ++ ({ data := #[32, 38, 32] } : ByteArray) ++ decB d9, i + 2)) := by show _ = _; rw [HGN.out, HN1.out, htl, if_pos cc, hx, hd9]
        obtain ⟨T, hT⟩ : ∃ Z, e.texts.getD x ⟨#[]⟩ = Z := ⟨_, rfl⟩
        obtain ⟨D9, hD9⟩ : ∃ Z, decB d9 = Z := ⟨_, rfl⟩
        rw [hT] at gx xl HE
        rw [hD9] at HD9 x9 HE
        have hm9 : (k : Int).tmod 9 = (d9 : Int) := by rw [← hd9]; rfl
        have hmx : (k : Int).tmod (tl : Int) = (x : Int) := by rw [← hx]; rfl
        have hl0 : ((tl : Int) == 0) = false := by rw [beq_eq_false_iff_ne]; omega
        have hlp : decide ((tl : Int) > 0) = true := decide_eq_true (by omega)
        have hlp2 : 0 < tl := cc.2
        have hl00 : ¬ tl = 0 := by omega
        have hxi : (x : Int) < (tl : Int) := by omega
        have z1 : ¬ 9223372036854775807 < T.size + 3 := by omega
        have z2 : ¬ 9223372036854775807 < T.size + 3 + D9.size := by omega
        have HFB : Hid (∀ V, Below ((w4).drewN nq).heap.size ((w4).drewN nq) V → GnAt V c e (i + 2) vi vt ints f ∧ Gw (· = c.R) w V) := fun V hV => ⟨((HFD.out nq).1).below hV, ((HFD.out nq).2).trans (Gw.of_below hV (P := fun _ => False)) (fun _ _ g => g.elim)⟩
        clear hat hct hvt hx hd9 hT hD9 cc htl
        go_wp2_with fail
        refine wp_region_held_drew (S := fun w' => Hid (w'.cell? ⟨c.G, 4, none⟩ = some (.slice (some ⟨bt4, ot4, none⟩) tl ct4) ∧ w'.cell? ⟨bt4, ot4 + x, none⟩ = some (.string T))) (by kernel_rfl) (⟨gt, gx⟩) (fun hHeld => ?_)
        refine wpAnyH_take (i := 0) (v := ?_) rfl (by kernel_rfl) (by kernel_rfl) (by kernel_rfl) (fun _ _ _ h => h) (Or.inl ⟨by rfl, ?_⟩) hHeld ?_
        rotate_left 1
        · intro Wx hSW; simp only [List.getElem_toArray, List.getElem_cons_zero]; have z3 := hSW.out.1; have z4 := hSW.out.2; go_simp; try with_reducible rfl
        simp only [Act.put, List.getElem_toArray, List.getElem_cons_zero, List.setIfInBounds_toArray, List.set_cons_zero, List.set_cons_succ]
        refine wpAnyH_take (i := 1) (v := ?_) rfl (by kernel_rfl) (by kernel_rfl) (by kernel_rfl) (fun _ _ _ h => h) (Or.inl ⟨by rfl, ?_⟩) hHeld ?_
        rotate_left 1
        · intro Wx hSW; simp only [List.getElem_toArray, List.getElem_cons_zero, List.getElem_cons_succ]; have z3 := hSW.out.1; have z4 := hSW.out.2; go_simp; try with_reducible rfl
        simp only [Act.put, List.getElem_toArray, List.getElem_cons_zero, List.getElem_cons_succ, List.setIfInBounds_toArray, List.set_cons_zero, List.set_cons_succ]
        refine wpAnyH_take (i := 2) (v := ?_) rfl (by kernel_rfl) (by kernel_rfl) (by kernel_rfl) (fun _ _ _ h => h) (Or.inl ⟨by rfl, ?_⟩) hHeld ?_
        rotate_left 1
        · intro Wx hSW; simp only [List.getElem_toArray, List.getElem_cons_zero, List.getElem_cons_succ]; have z3 := hSW.out.1; have z4 := hSW.out.2; go_simp; try with_reducible rfl
        simp only [Act.put, List.getElem_toArray, List.getElem_cons_zero, List.getElem_cons_succ, List.setIfInBounds_toArray, List.set_cons_zero, List.set_cons_succ]
        refine wpAnyH_take (i := 3) (v := ?_) rfl (by kernel_rfl) (by kernel_rfl) (by kernel_rfl) (fun _ _ _ h => h) (Or.inl ⟨by rfl, ?_⟩) hHeld ?_
        rotate_left 1
        · intro Wx hSW; simp only [List.getElem_toArray, List.getElem_cons_zero, List.getElem_cons_succ]; have z3 := hSW.out.1; have z4 := hSW.out.2; go_simp; try with_reducible rfl
        simp only [Act.put, List.getElem_toArray, List.getElem_cons_zero, List.getElem_cons_succ, List.setIfInBounds_toArray, List.set_cons_zero, List.set_cons_succ]
        refine wpAnyH_take (i := 4) (v := ?_) rfl (by kernel_rfl) (by kernel_rfl) (by kernel_rfl) (fun _ _ _ h => h) (Or.inl ⟨by rfl, ?_⟩) hHeld ?_
        rotate_left 1
        · intro Wx hSW; simp only [List.getElem_toArray, List.getElem_cons_zero, List.getElem_cons_succ]; have z3 := hSW.out.1; have z4 := hSW.out.2; go_simp; try with_reducible rfl
        simp only [Act.put, List.getElem_toArray, List.getElem_cons_zero, List.getElem_cons_succ, List.setIfInBounds_toArray, List.set_cons_zero, List.set_cons_succ]
        refine wpAnyH_take (i := 5) (v := ?_) rfl (by kernel_rfl) (by kernel_rfl) (by kernel_rfl) (fun _ _ _ h => h) (Or.inl ⟨by rfl, ?_⟩) hHeld ?_
        rotate_left 1
        · intro Wx hSW; simp only [List.getElem_toArray, List.getElem_cons_zero, List.getElem_cons_succ]; have z3 := hSW.out.1; have z4 := hSW.out.2; go_simp; try with_reducible rfl
        simp only [Act.put, List.getElem_toArray, List.getElem_cons_zero, List.getElem_cons_succ, List.setIfInBounds_toArray, List.set_cons_zero, List.set_cons_succ]
        refine wpAnyH_take (i := 6) (v := ?_) rfl (by kernel_rfl) (by kernel_rfl) (by kernel_rfl) (fun _ _ _ h => h) (Or.inl ⟨by rfl, ?_⟩) hHeld ?_
        rotate_left 1
        · intro Wx hSW; simp only [List.getElem_toArray, List.getElem_cons_zero, List.getElem_cons_succ]; have z3 := hSW.out.1; have z4 := hSW.out.2; go_simp; try with_reducible rfl
        simp only [Act.put, List.getElem_toArray, List.getElem_cons_zero, List.getElem_cons_succ, List.setIfInBounds_toArray, List.set_cons_zero, List.set_cons_succ]
        refine wpAnyH_take (i := 7) (v := ?_) rfl (by kernel_rfl) (by kernel_rfl) (by kernel_rfl) (fun _ _ _ h => h) (Or.inl ⟨by rfl, ?_⟩) hHeld ?_
        rotate_left 1
        · intro Wx hSW; simp only [List.getElem_toArray, List.getElem_cons_zero, List.getElem_cons_succ]; have z3 := hSW.out.1; have z4 := hSW.out.2; go_simp; try with_reducible rfl
        simp only [Act.put, List.getElem_toArray, List.getElem_cons_zero, List.getElem_cons_succ, List.setIfInBounds_toArray, List.set_cons_zero, List.set_cons_succ]
        refine wpAnyH_take (i := 8) (v := ?_) rfl (by kernel_rfl) (by kernel_rfl) (by kernel_rfl) (fun _ _ _ h => h) (Or.inl ⟨by rfl, ?_⟩) hHeld ?_
        rotate_left 1
        · intro Wx hSW; simp only [List.getElem_toArray, List.getElem_cons_zero, List.getElem_cons_succ]; have z3 := hSW.out.1; have z4 := hSW.out.2; go_simp; try with_reducible rfl
        simp only [Act.put, List.getElem_toArray, List.getElem_cons_zero, List.getElem_cons_succ, List.setIfInBounds_toArray, List.set_cons_zero, List.set_cons_succ]
        refine wpAnyH_take (i := 9) (v := ?_) rfl (by kernel_rfl) (by kernel_rfl) (by kernel_rfl) (fun _ _ _ h => h) (Or.inl ⟨by rfl, ?_⟩) hHeld ?_
        rotate_left 1
        · intro Wx hSW; simp only [List.getElem_toArray, List.getElem_cons_zero, List.getElem_cons_succ]; have z3 := hSW.out.1; have z4 := hSW.out.2; go_simp; try with_reducible rfl
        simp only [Act.put, List.getElem_toArray, List.getElem_cons_zero, List.getElem_cons_succ, List.setIfInBounds_toArray, List.set_cons_zero, List.set_cons_succ]
        refine wpAnyH_take (i := 10) (v := ?_) rfl (by kernel_rfl) (by kernel_rfl) (by kernel_rfl) (fun _ _ _ h => h) (Or.inl ⟨by rfl, ?_⟩) hHeld ?_
        rotate_left 1
        · intro Wx hSW; simp only [List.getElem_toArray, List.getElem_cons_zero, List.getElem_cons_succ]; have z3 := hSW.out.1; have z4 := hSW.out.2; go_simp; try with_reducible rfl
        simp only [Act.put, List.getElem_toArray, List.getElem_cons_zero, List.getElem_cons_succ, List.setIfInBounds_toArray, List.set_cons_zero, List.set_cons_succ]
        refine wpAnyH_take (i := 11) (v := ?_) rfl (by kernel_rfl) (by kernel_rfl) (by kernel_rfl) (fun _ _ _ h => h) (Or.inl ⟨by rfl, ?_⟩) hHeld ?_
        rotate_left 1
        · intro Wx hSW; simp only [List.getElem_toArray, List.getElem_cons_zero, List.getElem_cons_succ]; have z3 := hSW.out.1; have z4 := hSW.out.2; go_simp; try with_reducible rfl
        simp only [Act.put, List.getElem_toArray, List.getElem_cons_zero, List.getElem_cons_succ, List.setIfInBounds_toArray, List.set_cons_zero, List.set_cons_succ]
        refine wpAnyH_take (i := 12) (v := ?_) rfl (by kernel_rfl) (by kernel_rfl) (by kernel_rfl) (fun _ _ _ h => h) (Or.inl ⟨by rfl, ?_⟩) hHeld ?_
        rotate_left 1
        · intro Wx hSW; simp only [List.getElem_toArray, List.getElem_cons_zero, List.getElem_cons_succ]; have z3 := hSW.out.1; have z4 := hSW.out.2; go_simp; try with_reducible rfl
        simp only [Act.put, List.getElem_toArray, List.getElem_cons_zero, List.getElem_cons_succ, List.setIfInBounds_toArray, List.set_cons_zero, List.set_cons_succ]
        refine wpAnyH_take (i := 13) (v := ?_) rfl (by kernel_rfl) (by kernel_rfl) (by kernel_rfl) (fun _ _ _ h => h) (Or.inl ⟨by rfl, ?_⟩) hHeld ?_
        rotate_left 1
        · intro Wx hSW; simp only [List.getElem_toArray, List.getElem_cons_zero, List.getElem_cons_succ]; have z3 := hSW.out.1; have z4 := hSW.out.2; go_simp; try with_reducible rfl
        simp only [Act.put, List.getElem_toArray, List.getElem_cons_zero, List.getElem_cons_succ, List.setIfInBounds_toArray, List.set_cons_zero, List.set_cons_succ]
        refine wpAnyH_take (i := 14) (v := ?_) rfl (by kernel_rfl) (by kernel_rfl) (by kernel_rfl) (fun _ _ _ h => h) (Or.inl ⟨by rfl, ?_⟩) hHeld ?_
        rotate_left 1
        · intro Wx hSW; simp only [List.getElem_toArray, List.getElem_cons_zero, List.getElem_cons_succ]; have z3 := hSW.out.1; have z4 := hSW.out.2; go_simp; try with_reducible rfl
        simp only [Act.put, List.getElem_toArray, List.getElem_cons_zero, List.getElem_cons_succ, List.setIfInBounds_toArray, List.set_cons_zero, List.set_cons_succ]
        refine wpAnyH_take (i := 15) (v := ?_) rfl (by kernel_rfl) (by kernel_rfl) (by kernel_rfl) (fun _ _ _ h => h) (Or.inl ⟨by rfl, ?_⟩) hHeld ?_
        rotate_left 1
        · intro Wx hSW; simp only [List.getElem_toArray, List.getElem_cons_zero, List.getElem_cons_succ]; have z3 := hSW.out.1; have z4 := hSW.out.2; go_simp; try with_reducible rfl
        simp only [Act.put, List.getElem_toArray, List.getElem_cons_zero, List.getElem_cons_succ, List.setIfInBounds_toArray, List.set_cons_zero, List.set_cons_succ]
        refine wpAnyH_ready (rs := [16]) (by kernel_rfl) (by simp) ?_
        refine AllReadyH.cons rfl (fun K hK => ?_) AllReadyH.nil
        go_simp
        go_at_call 17
        refine (HD9.out _).mono ?_
        rintro r w9 ⟨rfl, hb9⟩
        have gx9 := hide (cell_kept gx ((Below.refl _ _).drew.trans hb9))
        have gt9 := hide (cell_kept gt ((Below.refl _ _).drew.trans hb9))
        have HF9 := hide (HFB.out _ ((Below.refl _ _).drew.trans hb9))
        clear hb9
        go_wp2_with fail
        refine hK.out _ _ ⟨gt9.out, gx9.out⟩ (fun hHeld => ?_)
        clear hK K
        try simp only [Act.put, List.getElem_toArray, List.getElem_cons_zero, List.getElem_cons_succ, List.setIfInBounds_toArray, List.set_cons_zero, List.set_cons_succ]
        refine wpAnyH_take (i := 17) (v := ?_) rfl (by kernel_rfl) (by kernel_rfl) (by kernel_rfl) (fun _ _ _ h => h) (Or.inl ⟨by rfl, ?_⟩) hHeld ?_
        rotate_left 1
        · intro Wx hSW; simp only [List.getElem_toArray, List.getElem_cons_zero, List.getElem_cons_succ]; go_simp; try with_reducible rfl
        simp only [Act.put, List.getElem_toArray, List.getElem_cons_zero, List.getElem_cons_succ, List.setIfInBounds_toArray, List.set_cons_zero, List.set_cons_succ]
        refine wpAnyH_take (i := 18) (v := ?_) rfl (by kernel_rfl) (by kernel_rfl) (by kernel_rfl) (fun _ _ _ h => h) (Or.inl ⟨by rfl, ?_⟩) hHeld ?_
        rotate_left 1
        · intro Wx hSW; simp only [List.getElem_toArray, List.getElem_cons_zero, List.getElem_cons_succ]; go_simp; try with_reducible rfl
        simp only [Act.put, List.getElem_toArray, List.getElem_cons_zero, List.getElem_cons_succ, List.setIfInBounds_toArray, List.set_cons_zero, List.set_cons_succ]
        refine wpAnyH_done (by kernel_rfl) ?_ _
        go_wp2
        go_ret
        rw [HE.out]
        exact ⟨rfl, HF9.out.1, HF9.out.2⟩
      have HE : Hid (gN e ints i = (S ++ (({ data := #[32, 38, 32] } : ByteArray) ++ D) ++ (({ data := #[32, 38, 32] } : ByteArray) ++ Y), i + 2)) := by show _ = _; rw [HGN.out, HN1.out, htl, if_neg cc, HN2.out]
      have gt := (gc0 (HFD.out nq).1).2.2.2.2.1
      rw [hvt] at gt
      have cc' : 200 < k → tl = 0 := fun g => by have : ¬ 0 < tl := fun x => cc ⟨g, x⟩; omega
      clear hat hct hvt cc htl
      by_cases c8 : 200 < k
      · have tc : decide ((k : Int) > 200) = true := decide_eq_true (by omega)
        have tc2 : decide (200 < (k : Int)) = true := decide_eq_true (by omega)
        obtain rfl := cc' c8
        go_wp2
        go_ret
        have q1 := (HFD.out nq).1
        have q2 := (HFD.out nq).2
        rw [HE.out]
        exact ⟨rfl, q1, q2⟩
      · have tc : decide ((k : Int) > 200) = false := decide_eq_false (by omega)
        have tc2 : decide (200 < (k : Int)) = false := decide_eq_false (by omega)
        clear cc'
        go_wp2
        go_ret
        have q1 := (HFD.out nq).1
        have q2 := (HFD.out nq).2
        rw [HE.out]
        exact ⟨rfl, q1, q2⟩
    have HN2 : Hid (gN2 ints k (S ++ (({ data := #[32, 38, 32] } : ByteArray) ++ D)) = S ++ (({ data := #[32, 38, 32] } : ByteArray) ++ D)) := by show _ = _; unfold gN2; rw [hm7, hl, if_neg cb]
    have cb' : m7 = 1 → l = 0 := fun g => by have : ¬ 0 < l := fun x => cb ⟨g, x⟩; omega
    rw [hl] at hvi
    rw [hvi] at gv
    clear hai hci hvi cb hl hm7
    by_cases c7 : m7 = 1
    · have tb : ((m7 : Int) == 1) = true := by rw [c7]; rfl
      obtain rfl := cb' c7
      obtain ⟨at4, bt4, ot4, ct4, hvt, hat, hct⟩ := (HG4.out).tx
      obtain ⟨tl, htl⟩ : ∃ n, e.texts.length = n := ⟨_, rfl⟩
      rw [htl] at hvt hat hct
      by_cases cc : 200 < k ∧ 0 < tl
      · have tc : decide ((k : Int) > 200) = true := decide_eq_true (by omega)
        have tc2 : decide (200 < (k : Int)) = true := decide_eq_true (by omega)
        obtain rfl := (hat cc.2).1
        obtain ⟨x, hx⟩ : ∃ x, k % tl = x := ⟨_, rfl⟩
        have hxl : x < tl := by rw [← hx]; exact Nat.mod_lt _ cc.2
        have gx := hct x hxl
        have gt := (gc0 HG4.out).2.2.2.2.1
        rw [hvt] at gt
        have xl := getD_le hts x
        obtain ⟨d9, hd9⟩ : ∃ d, k % 9 = d := ⟨_, rfl⟩
        have HD9 := hide (fun V => l2dG_any d9 V (by omega))
        have x9 := decB_le d9
        have HE : Hid (gN e ints i = (e.texts.getD x ⟨#[]⟩ ++ ({ data := #[32, 38, 32] } : ByteArray) ++ decB d9, i + 2)) := by show _ = _; rw [HGN.out, HN1.out, htl, if_pos cc, hx, hd9]
        obtain ⟨T, hT⟩ : ∃ Z, e.texts.getD x ⟨#[]⟩ = Z := ⟨_, rfl⟩
        obtain ⟨D9, hD9⟩ : ∃ Z, decB d9 = Z := ⟨_, rfl⟩
        rw [hT] at gx xl HE
        rw [hD9] at HD9 x9 HE
        have hm9 : (k : Int).tmod 9 = (d9 : Int) := by rw [← hd9]; rfl
        have hmx : (k : Int).tmod (tl : Int) = (x : Int) := by rw [← hx]; rfl
        have hl0 : ((tl : Int) == 0) = false := by rw [beq_eq_false_iff_ne]; omega
        have hlp : decide ((tl : Int) > 0) = true := decide_eq_true (by omega)
        have hlp2 : 0 < tl := cc.2
        have hl00 : ¬ tl = 0 := by omega
        have hxi : (x : Int) < (tl : Int) := by omega
        have z1 : ¬ 9223372036854775807 < T.size + 3 := by omega
        have z2 : ¬ 9223372036854775807 < T.size + 3 + D9.size := by omega
        have HFB : Hid (∀ V, Below (w4).heap.size (w4) V → GnAt V c e (i + 2) vi vt ints f ∧ Gw (· = c.R) w V) := fun V hV => ⟨(HG4.out).below hV, (HW4.out).trans (Gw.of_below hV (P := fun _ => False)) (fun _ _ g => g.elim)⟩
        clear hat hct hvt hx hd9 hT hD9 cc htl
        go_wp2_with fail
        refine wp_region_held_drew (S := fun w' => Hid (w'.cell? ⟨c.G, 4, none⟩ = some (.slice (some ⟨bt4, ot4, none⟩) tl ct4) ∧ w'.cell? ⟨bt4, ot4 + x, none⟩ = some (.string T))) (by kernel_rfl) (⟨gt, gx⟩) (fun hHeld => ?_)
        refine wpAnyH_take (i := 0) (v := ?_) rfl (by kernel_rfl) (by kernel_rfl) (by kernel_rfl) (fun _ _ _ h => h) (Or.inl ⟨by rfl, ?_⟩) hHeld ?_
        rotate_left 1
        · intro Wx hSW; simp only [List.getElem_toArray, List.getElem_cons_zero]; have z3 := hSW.out.1; have z4 := hSW.out.2; go_simp; try with_reducible rfl
        simp only [Act.put, List.getElem_toArray, List.getElem_cons_zero, List.setIfInBounds_toArray, List.set_cons_zero, List.set_cons_succ]
        refine wpAnyH_take (i := 1) (v := ?_) rfl (by kernel_rfl) (by kernel_rfl) (by kernel_rfl) (fun _ _ _ h => h) (Or.inl ⟨by rfl, ?_⟩) hHeld ?_
        rotate_left 1
        · intro Wx hSW; simp only [List.getElem_toArray, List.getElem_cons_zero, List.getElem_cons_succ]; have z3 := hSW.out.1; have z4 := hSW.out.2; go_simp; try with_reducible rfl
        simp only [Act.put, List.getElem_toArray, List.getElem_cons_zero, List.getElem_cons_succ, List.setIfInBounds_toArray, List.set_cons_zero, List.set_cons_succ]
        refine wpAnyH_take (i := 2) (v := ?_) rfl (by kernel_rfl) (by kernel_rfl) (by kernel_rfl) (fun _ _ _ h => h) (Or.inl ⟨by rfl, ?_⟩) hHeld ?_
        rotate_left 1
        · intro Wx hSW; simp only [List.getElem_toArray, List.getElem_cons_zero, List.getElem_cons_succ]; have z3 := hSW.out.1; have z4 := hSW.out.2; go_simp; try with_reducible rfl
        simp only [Act.put, List.getElem_toArray, List.getElem_cons_zero, List.getElem_cons_succ, List.setIfInBounds_toArray, List.set_cons_zero, List.set_cons_succ]
        refine wpAnyH_take (i := 3) (v := ?_) rfl (by kernel_rfl) (by kernel_rfl) (by kernel_rfl) (fun _ _ _ h => h) (Or.inl ⟨by rfl, ?_⟩) hHeld ?_
        rotate_left 1
        · intro Wx hSW; simp only [List.getElem_toArray, List.getElem_cons_zero, List.getElem_cons_succ]; have z3 := hSW.out.1; have z4 := hSW.out.2; go_simp; try with_reducible rfl
        simp only [Act.put, List.getElem_toArray, List.getElem_cons_zero, List.getElem_cons_succ, List.setIfInBounds_toArray, List.set_cons_zero, List.set_cons_succ]
        refine wpAnyH_take (i := 4) (v := ?_) rfl (by kernel_rfl) (by kernel_rfl) (by kernel_rfl) (fun _ _ _ h => h) (Or.inl ⟨by rfl, ?_⟩) hHeld ?_
        rotate_left 1
        · intro Wx hSW; simp only [List.getElem_toArray, List.getElem_cons_zero, List.getElem_cons_succ]; have z3 := hSW.out.1; have z4 := hSW.out.2; go_simp; try with_reducible rfl
        simp only [Act.put, List.getElem_toArray, List.getElem_cons_zero, List.getElem_cons_succ, List.setIfInBounds_toArray, List.set_cons_zero, List.set_cons_succ]
        refine wpAnyH_take (i := 5) (v := ?_) rfl (by kernel_rfl) (by kernel_rfl) (by kernel_rfl) (fun _ _ _ h => h) (Or.inl ⟨by rfl, ?_⟩) hHeld ?_
        rotate_left 1
        · intro Wx hSW; simp only [List.getElem_toArray, List.getElem_cons_zero, List.getElem_cons_succ]; have z3 := hSW.out.1; have z4 := hSW.out.2; go_simp; try with_reducible rfl
        simp only [Act.put, List.getElem_toArray, List.getElem_cons_zero, List.getElem_cons_succ, List.setIfInBounds_toArray, List.set_cons_zero, List.set_cons_succ]
        refine wpAnyH_take (i := 6) (v := ?_) rfl (by kernel_rfl) (by kernel_rfl) (by kernel_rfl) (fun _ _ _ h => h) (Or.inl ⟨by rfl, ?_⟩) hHeld ?_
        rotate_left 1
        · intro Wx hSW; simp only [List.getElem_toArray, List.getElem_cons_zero, List.getElem_cons_succ]; have z3 := hSW.out.1; have z4 := hSW.out.2; go_simp; try with_reducible rfl
        simp only [Act.put, List.getElem_toArray, List.getElem_cons_zero, List.getElem_cons_succ, List.setIfInBounds_toArray, List.set_cons_zero, List.set_cons_succ]
        refine wpAnyH_take (i := 7) (v := ?_) rfl (by kernel_rfl) (by kernel_rfl) (by kernel_rfl) (fun _ _ _ h => h) (Or.inl ⟨by rfl, ?_⟩) hHeld ?_
        rotate_left 1
        · intro Wx hSW; simp only [List.getElem_toArray, List.getElem_cons_zero, List.getElem_cons_succ]; have z3 := hSW.out.1; have z4 := hSW.out.2; go_simp; try with_reducible rfl
        simp only [Act.put, List.getElem_toArray, List.getElem_cons_zero, List.getElem_cons_succ, List.setIfInBounds_toArray, List.set_cons_zero, List.set_cons_succ]
        refine wpAnyH_take (i := 8) (v := ?_) rfl (by kernel_rfl) (by kernel_rfl) (by kernel_rfl) (fun _ _ _ h => h) (Or.inl ⟨by rfl, ?_⟩) hHeld ?_
        rotate_left 1
        · intro Wx hSW; simp only [List.getElem_toArray, List.getElem_cons_zero, List.getElem_cons_succ]; have z3 := hSW.out.1; have z4 := hSW.out.2; go_simp; try with_reducible rfl
        simp only [Act.put, List.getElem_toArray, List.getElem_cons_zero, List.getElem_cons_succ, List.setIfInBounds_toArray, List.set_cons_zero, List.set_cons_succ]
        refine wpAnyH_take (i := 9) (v := ?_) rfl (by kernel_rfl) (by kernel_rfl) (by kernel_rfl) (fun _ _ _ h => h) (Or.inl ⟨by rfl, ?_⟩) hHeld ?_
        rotate_left 1
        · intro Wx hSW; simp only [List.getElem_toArray, List.getElem_cons_zero, List.getElem_cons_succ]; have z3 := hSW.out.1; have z4 := hSW.out.2; go_simp; try with_reducible rfl
        simp only [Act.put, List.getElem_toArray, List.getElem_cons_zero, List.getElem_cons_succ, List.setIfInBounds_toArray, List.set_cons_zero, List.set_cons_succ]
        refine wpAnyH_take (i := 10) (v := ?_) rfl (by kernel_rfl) (by kernel_rfl) (by kernel_rfl) (fun _ _ _ h => h) (Or.inl ⟨by rfl, ?_⟩) hHeld ?_
        rotate_left 1
        · intro Wx hSW; simp only [List.getElem_toArray, List.getElem_cons_zero, List.getElem_cons_succ]; have z3 := hSW.out.1; have z4 := hSW.out.2; go_simp; try with_reducible rfl
        simp only [Act.put, List.getElem_toArray, List.getElem_cons_zero, List.getElem_cons_succ, List.setIfInBounds_toArray, List.set_cons_zero, List.set_cons_succ]
        refine wpAnyH_take (i := 11) (v := ?_) rfl (by kernel_rfl) (by kernel_rfl) (by kernel_rfl) (fun _ _ _ h => h) (Or.inl ⟨by rfl, ?_⟩) hHeld ?_
        rotate_left 1
        · intro Wx hSW; simp only [List.getElem_toArray, List.getElem_cons_zero, List.getElem_cons_succ]; have z3 := hSW.out.1; have z4 := hSW.out.2; go_simp; try with_reducible rfl
        simp only [Act.put, List.getElem_toArray, List.getElem_cons_zero, List.getElem_cons_succ, List.setIfInBounds_toArray, List.set_cons_zero, List.set_cons_succ]
        refine wpAnyH_take (i := 12) (v := ?_) rfl (by kernel_rfl) (by kernel_rfl) (by kernel_rfl) (fun _ _ _ h => h) (Or.inl ⟨by rfl, ?_⟩) hHeld ?_
        rotate_left 1
        · intro Wx hSW; simp only [List.getElem_toArray, List.getElem_cons_zero, List.getElem_cons_succ]; have z3 := hSW.out.1; have z4 := hSW.out.2; go_simp; try with_reducible rfl
        simp only [Act.put, List.getElem_toArray, List.getElem_cons_zero, List.getElem_cons_succ, List.setIfInBounds_toArray, List.set_cons_zero, List.set_cons_succ]
        refine wpAnyH_take (i := 13) (v := ?_) rfl (by kernel_rfl) (by kernel_rfl) (by kernel_rfl) (fun _ _ _ h => h) (Or.inl ⟨by rfl, ?_⟩) hHeld ?_
        rotate_left 1
        · intro Wx hSW; simp only [List.getElem_toArray, List.getElem_cons_zero, List.getElem_cons_succ]; have z3 := hSW.out.1; have z4 := hSW.out.2; go_simp; try with_reducible rfl
        simp only [Act.put, List.getElem_toArray, List.getElem_cons_zero, List.getElem_cons_succ, List.setIfInBounds_toArray, List.set_cons_zero, List.set_cons_succ]
        refine wpAnyH_take (i := 14) (v := ?_) rfl (by kernel_rfl) (by kernel_rfl) (by kernel_rfl) (fun _ _ _ h => h) (Or.inl ⟨by rfl, ?_⟩) hHeld ?_
        rotate_left 1
        · intro Wx hSW; simp only [List.getElem_toArray, List.getElem_cons_zero, List.getElem_cons_succ]; have z3 := hSW.out.1; have z4 := hSW.out.2; go_simp; try with_reducible rfl
        simp only [Act.put, List.getElem_toArray, List.getElem_cons_zero, List.getElem_cons_succ, List.setIfInBounds_toArray, List.set_cons_zero, List.set_cons_succ]
        refine wpAnyH_take (i := 15) (v := ?_) rfl (by kernel_rfl) (by kernel_rfl) (by kernel_rfl) (fun _ _ _ h => h) (Or.inl ⟨by rfl, ?_⟩) hHeld ?_
        rotate_left 1
        · intro Wx hSW; simp only [List.getElem_toArray, List.getElem_cons_zero, List.getElem_cons_succ]; have z3 := hSW.out.1; have z4 := hSW.out.2; go_simp; try with_reducible rfl
        simp only [Act.put, List.getElem_toArray, List.getElem_cons_zero, List.getElem_cons_succ, List.setIfInBounds_toArray, List.set_cons_zero, List.set_cons_succ]
        refine wpAnyH_ready (rs := [16]) (by kernel_rfl) (by simp) ?_
        refine AllReadyH.cons rfl (fun K hK => ?_) AllReadyH.nil
        go_simp
        go_at_call 17
        refine (HD9.out _).mono ?_
        rintro r w9 ⟨rfl, hb9⟩
        have gx9 := hide (cell_kept gx ((Below.refl _ _).drew.trans hb9))
        have gt9 := hide (cell_kept gt ((Below.refl _ _).drew.trans hb9))
        have HF9 := hide (HFB.out _ ((Below.refl _ _).drew.trans hb9))
        clear hb9
        go_wp2_with fail
        refine hK.out _ _ ⟨gt9.out, gx9.out⟩ (fun hHeld => ?_)
        clear hK K
        try simp only [Act.put, List.getElem_toArray, List.getElem_cons_zero, List.getElem_cons_succ, List.setIfInBounds_toArray, List.set_cons_zero, List.set_cons_succ]
        refine wpAnyH_take (i := 17) (v := ?_) rfl (by kernel_rfl) (by kernel_rfl) (by kernel_rfl) (fun _ _ _ h => h) (Or.inl ⟨by rfl, ?_⟩) hHeld ?_
        rotate_left 1
        · intro Wx hSW; simp only [List.getElem_toArray, List.getElem_cons_zero, List.getElem_cons_succ]; go_simp; try with_reducible rfl
        simp only [Act.put, List.getElem_toArray, List.getElem_cons_zero, List.getElem_cons_succ, List.setIfInBounds_toArray, List.set_cons_zero, List.set_cons_succ]
        refine wpAnyH_take (i := 18) (v := ?_) rfl (by kernel_rfl) (by kernel_rfl) (by kernel_rfl) (fun _ _ _ h => h) (Or.inl ⟨by rfl, ?_⟩) hHeld ?_
        rotate_left 1
        · intro Wx hSW; simp only [List.getElem_toArray, List.getElem_cons_zero, List.getElem_cons_succ]; go_simp; try with_reducible rfl
        simp only [Act.put, List.getElem_toArray, List.getElem_cons_zero, List.getElem_cons_succ, List.setIfInBounds_toArray, List.set_cons_zero, List.set_cons_succ]
        refine wpAnyH_done (by kernel_rfl) ?_ _
        go_wp2
        go_ret
        rw [HE.out]
        exact ⟨rfl, HF9.out.1, HF9.out.2⟩
      have HE : Hid (gN e ints i = (S ++ (({ data := #[32, 38, 32] } : ByteArray) ++ D), i + 2)) := by show _ = _; rw [HGN.out, HN1.out, htl, if_neg cc, HN2.out]
      have gt := (gc0 HG4.out).2.2.2.2.1
      rw [hvt] at gt
      have cc' : 200 < k → tl = 0 := fun g => by have : ¬ 0 < tl := fun x => cc ⟨g, x⟩; omega
      clear hat hct hvt cc htl
      by_cases c8 : 200 < k
      · have tc : decide ((k : Int) > 200) = true := decide_eq_true (by omega)
        have tc2 : decide (200 < (k : Int)) = true := decide_eq_true (by omega)
        obtain rfl := cc' c8
        go_wp2
        go_ret
        have q1 := HG4.out
        have q2 := HW4.out
        rw [HE.out]
        exact ⟨rfl, q1, q2⟩
      · have tc : decide ((k : Int) > 200) = false := decide_eq_false (by omega)
        have tc2 : decide (200 < (k : Int)) = false := decide_eq_false (by omega)
        clear cc'
        go_wp2
        go_ret
        have q1 := HG4.out
        have q2 := HW4.out
        rw [HE.out]
        exact ⟨rfl, q1, q2⟩
    · have tb : ((m7 : Int) == 1) = false := by rw [beq_eq_false_iff_ne]; omega
      clear cb'
      obtain ⟨at4, bt4, ot4, ct4, hvt, hat, hct⟩ := (HG4.out).tx
      obtain ⟨tl, htl⟩ : ∃ n, e.texts.length = n := ⟨_, rfl⟩
      rw [htl] at hvt hat hct
      by_cases cc : 200 < k ∧ 0 < tl
      · have tc : decide ((k : Int) > 200) = true := decide_eq_true (by omega)
        have tc2 : decide (200 < (k : Int)) = true := decide_eq_true (by omega)
        obtain rfl := (hat cc.2).1
        obtain ⟨x, hx⟩ : ∃ x, k % tl = x := ⟨_, rfl⟩
        have hxl : x < tl := by rw [← hx]; exact Nat.mod_lt _ cc.2
        have gx := hct x hxl
        have gt := (gc0 HG4.out).2.2.2.2.1
        rw [hvt] at gt
        have xl := getD_le hts x
        obtain ⟨d9, hd9⟩ : ∃ d, k % 9 = d := ⟨_, rfl⟩
        have HD9 := hide (fun V => l2dG_any d9 V (by omega))
        have x9 := decB_le d9
        have HE : Hid (gN e ints i = (e.texts.getD x ⟨#[]⟩ ++ ({ data := #[32, 38, 32] } : ByteArray) ++ decB d9, i + 2)) := by show _ = _; rw [HGN.out, HN1.out, htl, if_pos cc, hx, hd9]
        obtain ⟨T, hT⟩ : ∃ Z, e.texts.getD x ⟨#[]⟩ = Z := ⟨_, rfl⟩
        obtain ⟨D9, hD9⟩ : ∃ Z, decB d9 = Z := ⟨_, rfl⟩
        rw [hT] at gx xl HE
        rw [hD9] at HD9 x9 HE
        have hm9 : (k : Int).tmod 9 = (d9 : Int) := by rw [← hd9]; rfl
        have hmx : (k : Int).tmod (tl : Int) = (x : Int) := by rw [← hx]; rfl
        have hl0 : ((tl : Int) == 0) = false := by rw [beq_eq_false_iff_ne]; omega
        have hlp : decide ((tl : Int) > 0) = true := decide_eq_true (by omega)
        have hlp2 : 0 < tl := cc.2
        have hl00 : ¬ tl = 0 := by omega
        have hxi : (x : Int) < (tl : Int) := by omega
        have z1 : ¬ 9223372036854775807 < T.size + 3 := by omega
        have z2 : ¬ 9223372036854775807 < T.size + 3 + D9.size := by omega
        have HFB : Hid (∀ V, Below (w4).heap.size (w4) V → GnAt V c e (i + 2) vi vt ints f ∧ Gw (· = c.R) w V) := fun V hV => ⟨(HG4.out).below hV, (HW4.out).trans (Gw.of_below hV (P := fun _ => False)) (fun _ _ g => g.elim)⟩
        clear hat hct hvt hx hd9 hT hD9 cc htl
        go_wp2_with fail
        refine wp_region_held_drew (S := fun w' => Hid (w'.cell? ⟨c.G, 4, none⟩ = some (.slice (some ⟨bt4, ot4, none⟩) tl ct4) ∧ w'.cell? ⟨bt4, ot4 + x, none⟩ = some (.string T))) (by kernel_rfl) (⟨gt, gx⟩) (fun hHeld => ?_)
        refine wpAnyH_take (i := 0) (v := ?_) rfl (by kernel_rfl) (by kernel_rfl) (by kernel_rfl) (fun _ _ _ h => h) (Or.inl ⟨by rfl, ?_⟩) hHeld ?_
        rotate_left 1
        · intro Wx hSW; simp only [List.getElem_toArray, List.getElem_cons_zero]; have z3 := hSW.out.1; have z4 := hSW.out.2; go_simp; try with_reducible rfl
        simp only [Act.put, List.getElem_toArray, List.getElem_cons_zero, List.setIfInBounds_toArray, List.set_cons_zero, List.set_cons_succ]
        refine wpAnyH_take (i := 1) (v := ?_) rfl (by kernel_rfl) (by kernel_rfl) (by kernel_rfl) (fun _ _ _ h => h) (Or.inl ⟨by rfl, ?_⟩) hHeld ?_
        rotate_left 1
        · intro Wx hSW; simp only [List.getElem_toArray, List.getElem_cons_zero, List.getElem_cons_succ]; have z3 := hSW.out.1; have z4 := hSW.out.2; go_simp; try with_reducible rfl
        simp only [Act.put, List.getElem_toArray, List.getElem_cons_zero, List.getElem_cons_succ, List.setIfInBounds_toArray, List.set_cons_zero, List.set_cons_succ]
        refine wpAnyH_take (i := 2) (v := ?_) rfl (by kernel_rfl) (by kernel_rfl) (by kernel_rfl) (fun _ _ _ h => h) (Or.inl ⟨by rfl, ?_⟩) hHeld ?_
        rotate_left 1
        · intro Wx hSW; simp only [List.getElem_toArray, List.getElem_cons_zero, List.getElem_cons_succ]; have z3 := hSW.out.1; have z4 := hSW.out.2; go_simp; try with_reducible rfl
        simp only [Act.put, List.getElem_toArray, List.getElem_cons_zero, List.getElem_cons_succ, List.setIfInBounds_toArray, List.set_cons_zero, List.set_cons_succ]
        refine wpAnyH_take (i := 3) (v := ?_) rfl (by kernel_rfl) (by kernel_rfl) (by kernel_rfl) (fun _ _ _ h => h) (Or.inl ⟨by rfl, ?_⟩) hHeld ?_
        rotate_left 1
        · intro Wx hSW; simp only [List.getElem_toArray, List.getElem_cons_zero, List.getElem_cons_succ]; have z3 := hSW.out.1; have z4 := hSW.out.2; go_simp; try with_reducible rfl
        simp only [Act.put, List.getElem_toArray, List.getElem_cons_zero, List.getElem_cons_succ, List.setIfInBounds_toArray, List.set_cons_zero, List.set_cons_succ]
        refine wpAnyH_take (i := 4) (v := ?_) rfl (by kernel_rfl) (by kernel_rfl) (by kernel_rfl) (fun _ _ _ h => h) (Or.inl ⟨by rfl, ?_⟩) hHeld ?_
        rotate_left 1
        · intro Wx hSW; simp only [List.getElem_toArray, List.getElem_cons_zero, List.getElem_cons_succ]; have z3 := hSW.out.1; have z4 := hSW.out.2; go_simp; try with_reducible rfl
        simp only [Act.put, List.getElem_toArray, List.getElem_cons_zero, List.getElem_cons_succ, List.setIfInBounds_toArray, List.set_cons_zero, List.set_cons_succ]
        refine wpAnyH_take (i := 5) (v := ?_) rfl (by kernel_rfl) (by kernel_rfl) (by kernel_rfl) (fun _ _ _ h => h) (Or.inl ⟨by rfl, ?_⟩) hHeld ?_
        rotate_left 1
        · intro Wx hSW; simp only [List.getElem_toArray, List.getElem_cons_zero, List.getElem_cons_succ]; have z3 := hSW.out.1; have z4 := hSW.out.2; go_simp; try with_reducible rfl
        simp only [Act.put, List.getElem_toArray, List.getElem_cons_zero, List.getElem_cons_succ, List.setIfInBounds_toArray, List.set_cons_zero, List.set_cons_succ]
        refine wpAnyH_take (i := 6) (v := ?_) rfl (by kernel_rfl) (by kernel_rfl) (by kernel_rfl) (fun _ _ _ h => h) (Or.inl ⟨by rfl, ?_⟩) hHeld ?_
        rotate_left 1
        · intro Wx hSW; simp only [List.getElem_toArray, List.getElem_cons_zero, List.getElem_cons_succ]; have z3 := hSW.out.1; have z4 := hSW.out.2; go_simp; try with_reducible rfl
        simp only [Act.put, List.getElem_toArray, List.getElem_cons_zero, List.getElem_cons_succ, List.setIfInBounds_toArray, List.set_cons_zero, List.set_cons_succ]
        refine wpAnyH_take (i := 7) (v := ?_) rfl (by kernel_rfl) (by kernel_rfl) (by kernel_rfl) (fun _ _ _ h => h) (Or.inl ⟨by rfl, ?_⟩) hHeld ?_
        rotate_left 1
        · intro Wx hSW; simp only [List.getElem_toArray, List.getElem_cons_zero, List.getElem_cons_succ]; have z3 := hSW.out.1; have z4 := hSW.out.2; go_simp; try with_reducible rfl
        simp only [Act.put, List.getElem_toArray, List.getElem_cons_zero, List.getElem_cons_succ, List.setIfInBounds_toArray, List.set_cons_zero, List.set_cons_succ]
        refine wpAnyH_take (i := 8) (v := ?_) rfl (by kernel_rfl) (by kernel_rfl) (by kernel_rfl) (fun _ _ _ h => h) (Or.inl ⟨by rfl, ?_⟩) hHeld ?_
        rotate_left 1
        · intro Wx hSW; simp only [List.getElem_toArray, List.getElem_cons_zero, List.getElem_cons_succ]; have z3 := hSW.out.1; have z4 := hSW.out.2; go_simp; try with_reducible rfl
        simp only [Act.put, List.getElem_toArray, List.getElem_cons_zero, List.getElem_cons_succ, List.setIfInBounds_toArray, List.set_cons_zero, List.set_cons_succ]
        refine wpAnyH_take (i := 9) (v := ?_) rfl (by kernel_rfl) (by kernel_rfl) (by kernel_rfl) (fun _ _ _ h => h) (Or.inl ⟨by rfl, ?_⟩) hHeld ?_
        rotate_left 1
        · intro Wx hSW; simp only [List.getElem_toArray, List.getElem_cons_zero, List.getElem_cons_succ]; have z3 := hSW.out.1; have z4 := hSW.out.2; go_simp; try with_reducible rfl
        simp only [Act.put, List.getElem_toArray, List.getElem_cons_zero, List.getElem_cons_succ, List.setIfInBounds_toArray, List.set_cons_zero, List.set_cons_succ]
        refine wpAnyH_take (i := 10) (v := ?_) rfl (by kernel_rfl) (by kernel_rfl) (by kernel_rfl) (fun _ _ _ h => h) (Or.inl ⟨by rfl, ?_⟩) hHeld ?_
        rotate_left 1
        · intro Wx hSW; simp only [List.getElem_toArray, List.getElem_cons_zero, List.getElem_cons_succ]; have z3 := hSW.out.1; have z4 := hSW.out.2; go_simp; try with_reducible rfl
        simp only [Act.put, List.getElem_toArray, List.getElem_cons_zero, List.getElem_cons_succ, List.setIfInBounds_toArray, List.set_cons_zero, List.set_cons_succ]
        refine wpAnyH_take (i := 11) (v := ?_) rfl (by kernel_rfl) (by kernel_rfl) (by kernel_rfl) (fun _ _ _ h => h) (Or.inl ⟨by rfl, ?_⟩) hHeld ?_
        rotate_left 1
        · intro Wx hSW; simp only [List.getElem_toArray, List.getElem_cons_zero, List.getElem_cons_succ]; have z3 := hSW.out.1; have z4 := hSW.out.2; go_simp; try with_reducible rfl
        simp only [Act.put, List.getElem_toArray, List.getElem_cons_zero, List.getElem_cons_succ, List.setIfInBounds_toArray, List.set_cons_zero, List.set_cons_succ]
        refine wpAnyH_take (i := 12) (v := ?_) rfl (by kernel_rfl) (by kernel_rfl) (by kernel_rfl) (fun _ _ _ h => h) (Or.inl ⟨by rfl, ?_⟩) hHeld ?_
        rotate_left 1
        · intro Wx hSW; simp only [List.getElem_toArray, List.getElem_cons_zero, List.getElem_cons_succ]; have z3 := hSW.out.1; have z4 := hSW.out.2; go_simp; try with_reducible rfl
        simp only [Act.put, List.getElem_toArray, List.getElem_cons_zero, List.getElem_cons_succ, List.setIfInBounds_toArray, List.set_cons_zero, List.set_cons_succ]
        refine wpAnyH_take (i := 13) (v := ?_) rfl (by kernel_rfl) (by kernel_rfl) (by kernel_rfl) (fun _ _ _ h => h) (Or.inl ⟨by rfl, ?_⟩) hHeld ?_
        rotate_left 1
        · intro Wx hSW; simp only [List.getElem_toArray, List.getElem_cons_zero, List.getElem_cons_succ]; have z3 := hSW.out.1; have z4 := hSW.out.2; go_simp; try with_reducible rfl
        simp only [Act.put, List.getElem_toArray, List.getElem_cons_zero, List.getElem_cons_succ, List.setIfInBounds_toArray, List.set_cons_zero, List.set_cons_succ]
        refine wpAnyH_take (i := 14) (v := ?_) rfl (by kernel_rfl) (by kernel_rfl) (by kernel_rfl) (fun _ _ _ h => h) (Or.inl ⟨by rfl, ?_⟩) hHeld ?_
        rotate_left 1
        · intro Wx hSW; simp only [List.getElem_toArray, List.getElem_cons_zero, List.getElem_cons_succ]; have z3 := hSW.out.1; have z4 := hSW.out.2; go_simp; try with_reducible rfl
        simp only [Act.put, List.getElem_toArray, List.getElem_cons_zero, List.getElem_cons_succ, List.setIfInBounds_toArray, List.set_cons_zero, List.set_cons_succ]
        refine wpAnyH_take (i := 15) (v := ?_) rfl (by kernel_rfl) (by kernel_rfl) (by kernel_rfl) (fun _ _ _ h => h) (Or.inl ⟨by rfl, ?_⟩) hHeld ?_
        rotate_left 1
        · intro Wx hSW; simp only [List.getElem_toArray, List.getElem_cons_zero, List.getElem_cons_succ]; have z3 := hSW.out.1; have z4 := hSW.out.2; go_simp; try with_reducible rfl
        simp only [Act.put, List.getElem_toArray, List.getElem_cons_zero, List.getElem_cons_succ, List.setIfInBounds_toArray, List.set_cons_zero, List.set_cons_succ]
        refine wpAnyH_ready (rs := [16]) (by kernel_rfl) (by simp) ?_
        refine AllReadyH.cons rfl (fun K hK => ?_) AllReadyH.nil
        go_simp
        go_at_call 17
        refine (HD9.out _).mono ?_
        rintro r w9 ⟨rfl, hb9⟩
        have gx9 := hide (cell_kept gx ((Below.refl _ _).drew.trans hb9))
        have gt9 := hide (cell_kept gt ((Below.refl _ _).drew.trans hb9))
        have HF9 := hide (HFB.out _ ((Below.refl _ _).drew.trans hb9))
        clear hb9
        go_wp2_with fail
        refine hK.out _ _ ⟨gt9.out, gx9.out⟩ (fun hHeld => ?_)
        clear hK K
        try simp only [Act.put, List.getElem_toArray, List.getElem_cons_zero, List.getElem_cons_succ, List.setIfInBounds_toArray, List.set_cons_zero, List.set_cons_succ]
        refine wpAnyH_take (i := 17) (v := ?_) rfl (by kernel_rfl) (by kernel_rfl) (by kernel_rfl) (fun _ _ _ h => h) (Or.inl ⟨by rfl, ?_⟩) hHeld ?_
        rotate_left 1
        · intro Wx hSW; simp only [List.getElem_toArray, List.getElem_cons_zero, List.getElem_cons_succ]; go_simp; try with_reducible rfl
        simp only [Act.put, List.getElem_toArray, List.getElem_cons_zero, List.getElem_cons_succ, List.setIfInBounds_toArray, List.set_cons_zero, List.set_cons_succ]
        refine wpAnyH_take (i := 18) (v := ?_) rfl (by kernel_rfl) (by kernel_rfl) (by kernel_rfl) (fun _ _ _ h => h) (Or.inl ⟨by rfl, ?_⟩) hHeld ?_
        rotate_left 1
        · intro Wx hSW; simp only [List.getElem_toArray, List.getElem_cons_zero, List.getElem_cons_succ]; go_simp; try with_reducible rfl
        simp only [Act.put, List.getElem_toArray, List.getElem_cons_zero, List.getElem_cons_succ, List.setIfInBounds_toArray, List.set_cons_zero, List.set_cons_succ]
        refine wpAnyH_done (by kernel_rfl) ?_ _
        go_wp2
        go_ret
        rw [HE.out]
        exact ⟨rfl, HF9.out.1, HF9.out.2⟩
      have HE : Hid (gN e ints i = (S ++ (({ data := #[32, 38, 32] } : ByteArray) ++ D), i + 2)) := by show _ = _; rw [HGN.out, HN1.out, htl, if_neg cc, HN2.out]
      have gt := (gc0 HG4.out).2.2.2.2.1
      rw [hvt] at gt
      have cc' : 200 < k → tl = 0 := fun g => by have : ¬ 0 < tl := fun x => cc ⟨g, x⟩; omega
      clear hat hct hvt cc htl
      by_cases c8 : 200 < k
      · have tc : decide ((k : Int) > 200) = true := decide_eq_true (by omega)
        have tc2 : decide (200 < (k : Int)) = true := decide_eq_true (by omega)
        obtain rfl := cc' c8
        go_wp2
        go_ret
        have q1 := HG4.out
        have q2 := HW4.out
        rw [HE.out]
        exact ⟨rfl, q1, q2⟩
      · have tc : decide ((k : Int) > 200) = false := decide_eq_false (by omega)
        have tc2 : decide (200 < (k : Int)) = false := decide_eq_false (by omega)
        clear cc'
        go_wp2
        go_ret
        have q1 := HG4.out
        have q2 := HW4.out
        rw [HE.out]
        exact ⟨rfl, q1, q2⟩
  · have ta : ((m3 : Int) == 0) = false := by rw [beq_eq_false_iff_ne]; omega
    have HN1 : Hid (gN1 e i = (S, i + 1)) := by show _ = _; rw [HG1.out, if_neg ca]
    clear HG1 HTX g0 g3 g4
    obtain ⟨ai, gi, ki, hvi, hai, hci⟩ := (HG2.out).ivw
    obtain ⟨m7, hm7⟩ : ∃ m, k % 7 = m := ⟨_, rfl⟩
    have hmm7 : (k : Int).tmod 7 = (m7 : Int) := by rw [← hm7]; rfl
    obtain ⟨l, hl⟩ : ∃ n, ints.length = n := ⟨_, rfl⟩
    have gv := (gc0 HG2.out).2.2.2.1
    by_cases cb : m7 = 1 ∧ 0 < l
    · have tb : ((m7 : Int) == 1) = true := by rw [cb.1]; rfl
      rw [hl] at hvi hai hci
      obtain rfl := hai cb.2
      obtain ⟨y, hy⟩ : ∃ y, k % l = y := ⟨_, rfl⟩
      have hyl : y < l := by rw [← hy]; exact Nat.mod_lt _ cb.2
      have gy := hci y hyl
      have yl := getD_le hns y
      have HN2 : Hid (gN2 ints k (S) = S ++ (({ data := #[32, 38, 32] } : ByteArray) ++ ints.getD y ⟨#[]⟩)) := by show _ = _; unfold gN2; rw [hm7, hl, if_pos cb, hy]
      obtain ⟨Y, hY⟩ : ∃ Z, ints.getD y ⟨#[]⟩ = Z := ⟨_, rfl⟩
      rw [hY] at gy yl HN2
      rw [hvi] at gv
      have hmy : (k : Int).tmod (l : Int) = (y : Int) := by rw [← hy]; rfl
      have hll : ((l : Int) == 0) = false := by rw [beq_eq_false_iff_ne]; omega
      have hlq : decide ((l : Int) > 0) = true := decide_eq_true (by omega)
      have hlq2 : 0 < l := cb.2
      have hyi : (y : Int) < (l : Int) := by omega
      have y1 : ¬ 9223372036854775807 < 3 + Y.size := by omega
      have y2 : ¬ 9223372036854775807 < S.size + (3 + Y.size) := by omega
      have HFD : Hid (∀ n, GnAt ((w2).drewN n) c e (i + 1) vi vt ints f ∧ Gw (· = c.R) w ((w2).drewN n)) := fun n => ⟨(HG2.out).below (below_drewN (Below.refl _ _) n), (HW2.out).trans (Gw.of_below (below_drewN (Below.refl _ _) n) (P := fun _ => False)) (fun _ _ g => g.elim)⟩
      clear hci hai hvi hy hY cb hl hm7
      go_wp2_with fail
      go_quiet (fail)
      obtain ⟨at4, bt4, ot4, ct4, hvt, hat, hct⟩ := ((HFD.out nq).1).tx
      obtain ⟨tl, htl⟩ : ∃ n, e.texts.length = n := ⟨_, rfl⟩
      rw [htl] at hvt hat hct
      by_cases cc : 200 < k ∧ 0 < tl
      · have tc : decide ((k : Int) > 200) = true := decide_eq_true (by omega)
        have tc2 : decide (200 < (k : Int)) = true := decide_eq_true (by omega)
        obtain rfl := (hat cc.2).1
        obtain ⟨x, hx⟩ : ∃ x, k % tl = x := ⟨_, rfl⟩
        have hxl : x < tl := by rw [← hx]; exact Nat.mod_lt _ cc.2
        have gx := hct x hxl
        have gt := (gc0 (HFD.out nq).1).2.2.2.2.1
        rw [hvt] at gt
        have xl := getD_le hts x
        obtain ⟨d9, hd9⟩ : ∃ d, k % 9 = d := ⟨_, rfl⟩
        have HD9 := hide (fun V => l2dG_any d9 V (by omega))
        have x9 := decB_le d9
        have HE : Hid (gN e ints i = (e.texts.getD x ⟨#[]⟩ ++ ({ data := #[32, 38, 32] } : ByteArray) ++ decB d9, i + 1)) := by show _ = _; rw [HGN.out, HN1.out, htl, if_pos cc, hx, hd9]
        obtain ⟨T, hT⟩ : ∃ Z, e.texts.getD x ⟨#[]⟩ = Z := ⟨_, rfl⟩
        obtain ⟨D9, hD9⟩ : ∃ Z, decB d9 = Z := ⟨_, rfl⟩
        rw [hT] at gx xl HE
        rw [hD9] at HD9 x9 HE
        have hm9 : (k : Int).tmod 9 = (d9 : Int) := by rw [← hd9]; rfl
        have hmx : (k : Int).tmod (tl : Int) = (x : Int) := by rw [← hx]; rfl
        have hl0 : ((tl : Int) == 0) = false := by rw [beq_eq_false_iff_ne]; omega
        have hlp : decide ((tl : Int) > 0) = true := decide_eq_true (by omega)
        have hlp2 : 0 < tl := cc.2
        have hl00 : ¬ tl = 0 := by omega
        have hxi : (x : Int) < (tl : Int) := by omega
        have z1 : ¬ 9223372036854775807 < T.size + 3 := by omega
        have z2 : ¬ 9223372036854775807 < T.size + 3 + D9.size := by omega
        have HFB : Hid (∀ V, Below ((w2).drewN nq).heap.size ((w2).drewN nq) V → GnAt V c e (i + 1) vi vt ints f ∧ Gw (· = c.R) w V) := fun V hV => ⟨((HFD.out nq).1).below hV, ((HFD.out nq).2).trans (Gw.of_below hV (P := fun _ => False)) (fun _ _ g => g.elim)⟩
        clear hat hct hvt hx hd9 hT hD9 cc htl
        go_wp2_with fail
        refine wp_region_held_drew (S := fun w' => Hid (w'.cell? ⟨c.G, 4, none⟩ = some (.slice (some ⟨bt4, ot4, none⟩) tl ct4) ∧ w'.cell? ⟨bt4, ot4 + x, none⟩ = some (.string T))) (by kernel_rfl) (⟨gt, gx⟩) (fun hHeld => ?_)
        refine wpAnyH_take (i := 0) (v := ?_) rfl (by kernel_rfl) (by kernel_rfl) (by kernel_rfl) (fun _ _ _ h => h) (Or.inl ⟨by rfl, ?_⟩) hHeld ?_
        rotate_left 1
        · intro Wx hSW; simp only [List.getElem_toArray, List.getElem_cons_zero]; have z3 := hSW.out.1; have z4 := hSW.out.2; go_simp; try with_reducible rfl
        simp only [Act.put, List.getElem_toArray, List.getElem_cons_zero, List.setIfInBounds_toArray, List.set_cons_zero, List.set_cons_succ]
        refine wpAnyH_take (i := 1) (v := ?_) rfl (by kernel_rfl) (by kernel_rfl) (by kernel_rfl) (fun _ _ _ h => h) (Or.inl ⟨by rfl, ?_⟩) hHeld ?_
        rotate_left 1
        · intro Wx hSW; simp only [List.getElem_toArray, List.getElem_cons_zero, List.getElem_cons_succ]; have z3 := hSW.out.1; have z4 := hSW.out.2; go_simp; try with_reducible rfl
        simp only [Act.put, List.getElem_toArray, List.getElem_cons_zero, List.getElem_cons_succ, List.setIfInBounds_toArray, List.set_cons_zero, List.set_cons_succ]
        refine wpAnyH_take (i := 2) (v := ?_) rfl (by kernel_rfl) (by kernel_rfl) (by kernel_rfl) (fun _ _ _ h => h) (Or.inl ⟨by rfl, ?_⟩) hHeld ?_
        rotate_left 1
        · intro Wx hSW; simp only [List.getElem_toArray, List.getElem_cons_zero, List.getElem_cons_succ]; have z3 := hSW.out.1; have z4 := hSW.out.2; go_simp; try with_reducible rfl
        simp only [Act.put, List.getElem_toArray, List.getElem_cons_zero, List.getElem_cons_succ, List.setIfInBounds_toArray, List.set_cons_zero, List.set_cons_succ]
        refine wpAnyH_take (i := 3) (v := ?_) rfl (by kernel_rfl) (by kernel_rfl) (by kernel_rfl) (fun _ _ _ h => h) (Or.inl ⟨by rfl, ?_⟩) hHeld ?_
        rotate_left 1
        · intro Wx hSW; simp only [List.getElem_toArray, List.getElem_cons_zero, List.getElem_cons_succ]; have z3 := hSW.out.1; have z4 := hSW.out.2; go_simp; try with_reducible rfl
        simp only [Act.put, List.getElem_toArray, List.getElem_cons_zero, List.getElem_cons_succ, List.setIfInBounds_toArray, List.set_cons_zero, List.set_cons_succ]
        refine wpAnyH_take (i := 4) (v := ?_) rfl (by kernel_rfl) (by kernel_rfl) (by kernel_rfl) (fun _ _ _ h => h) (Or.inl ⟨by rfl, ?_⟩) hHeld ?_
        rotate_left 1
        · intro Wx hSW; simp only [List.getElem_toArray, List.getElem_cons_zero, List.getElem_cons_succ]; have z3 := hSW.out.1; have z4 := hSW.out.2; go_simp; try with_reducible rfl
        simp only [Act.put, List.getElem_toArray, List.getElem_cons_zero, List.getElem_cons_succ, List.setIfInBounds_toArray, List.set_cons_zero, List.set_cons_succ]
        refine wpAnyH_take (i := 5) (v := ?_) rfl (by kernel_rfl) (by kernel_rfl) (by kernel_rfl) (fun _ _ _ h => h) (Or.inl ⟨by rfl, ?_⟩) hHeld ?_
        rotate_left 1
        · intro Wx hSW; simp only [List.getElem_toArray, List.getElem_cons_zero, List.getElem_cons_succ]; have z3 := hSW.out.1; have z4 := hSW.out.2; go_simp; try with_reducible rfl
        simp only [Act.put, List.getElem_toArray, List.getElem_cons_zero, List.getElem_cons_succ, List.setIfInBounds_toArray, List.set_cons_zero, List.set_cons_succ]
        refine wpAnyH_take (i := 6) (v := ?_) rfl (by kernel_rfl) (by kernel_rfl) (by kernel_rfl) (fun _ _ _ h => h) (Or.inl ⟨by rfl, ?_⟩) hHeld ?_
        rotate_left 1
        · intro Wx hSW; simp only [List.getElem_toArray, List.getElem_cons_zero, List.getElem_cons_succ]; have z3 := hSW.out.1; have z4 := hSW.out.2; go_simp; try with_reducible rfl
        simp only [Act.put, List.getElem_toArray, List.getElem_cons_zero, List.getElem_cons_succ, List.setIfInBounds_toArray, List.set_cons_zero, List.set_cons_succ]
        refine wpAnyH_take (i := 7) (v := ?_) rfl (by kernel_rfl) (by kernel_rfl) (by kernel_rfl) (fun _ _ _ h => h) (Or.inl ⟨by rfl, ?_⟩) hHeld ?_
        rotate_left 1
        · intro Wx hSW; simp only [List.getElem_toArray, List.getElem_cons_zero, List.getElem_cons_succ]; have z3 := hSW.out.1; have z4 := hSW.out.2; go_simp; try with_reducible rfl
        simp only [Act.put, List.getElem_toArray, List.getElem_cons_zero, List.getElem_cons_succ, List.setIfInBounds_toArray, List.set_cons_zero, List.set_cons_succ]
        refine wpAnyH_take (i := 8) (v := ?_) rfl (by kernel_rfl) (by kernel_rfl) (by kernel_rfl) (fun _ _ _ h => h) (Or.inl ⟨by rfl, ?_⟩) hHeld ?_
        rotate_left 1
        · intro Wx hSW; simp only [List.getElem_toArray, List.getElem_cons_zero, List.getElem_cons_succ]; have z3 := hSW.out.1; have z4 := hSW.out.2; go_simp; try with_reducible rfl
        simp only [Act.put, List.getElem_toArray, List.getElem_cons_zero, List.getElem_cons_succ, List.setIfInBounds_toArray, List.set_cons_zero, List.set_cons_succ]
        refine wpAnyH_take (i := 9) (v := ?_) rfl (by kernel_rfl) (by kernel_rfl) (by kernel_rfl) (fun _ _ _ h => h) (Or.inl ⟨by rfl, ?_⟩) hHeld ?_
        rotate_left 1
        · intro Wx hSW; simp only [List.getElem_toArray, List.getElem_cons_zero, List.getElem_cons_succ]; have z3 := hSW.out.1; have z4 := hSW.out.2; go_simp; try with_reducible rfl
        simp only [Act.put, List.getElem_toArray, List.getElem_cons_zero, List.getElem_cons_succ, List.setIfInBounds_toArray, List.set_cons_zero, List.set_cons_succ]
        refine wpAnyH_take (i := 10) (v := ?_) rfl (by kernel_rfl) (by kernel_rfl) (by kernel_rfl) (fun _ _ _ h => h) (Or.inl ⟨by rfl, ?_⟩) hHeld ?_
        rotate_left 1
        · intro Wx hSW; simp only [List.getElem_toArray, List.getElem_cons_zero, List.getElem_cons_succ]; have z3 := hSW.out.1; have z4 := hSW.out.2; go_simp; try with_reducible rfl
        simp only [Act.put, List.getElem_toArray, List.getElem_cons_zero, List.getElem_cons_succ, List.setIfInBounds_toArray, List.set_cons_zero, List.set_cons_succ]
        refine wpAnyH_take (i := 11) (v := ?_) rfl (by kernel_rfl) (by kernel_rfl) (by kernel_rfl) (fun _ _ _ h => h) (Or.inl ⟨by rfl, ?_⟩) hHeld ?_
        rotate_left 1
        · intro Wx hSW; simp only [List.getElem_toArray, List.getElem_cons_zero, List.getElem_cons_succ]; have z3 := hSW.out.1; have z4 := hSW.out.2; go_simp; try with_reducible rfl
        simp only [Act.put, List.getElem_toArray, List.getElem_cons_zero, List.getElem_cons_succ, List.setIfInBounds_toArray, List.set_cons_zero, List.set_cons_succ]
        refine wpAnyH_take (i := 12) (v := ?_) rfl (by kernel_rfl) (by kernel_rfl) (by kernel_rfl) (fun _ _ _ h => h) (Or.inl ⟨by rfl, ?_⟩) hHeld ?_
        rotate_left 1
        · intro Wx hSW; simp only [List.getElem_toArray, List.getElem_cons_zero, List.getElem_cons_succ]; have z3 := hSW.out.1; have z4 := hSW.out.2; go_simp; try with_reducible rfl
        simp only [Act.put, List.getElem_toArray, List.getElem_cons_zero, List.getElem_cons_succ, List.setIfInBounds_toArray, List.set_cons_zero, List.set_cons_succ]
        refine wpAnyH_take (i := 13) (v := ?_) rfl (by kernel_rfl) (by kernel_rfl) (by kernel_rfl) (fun _ _ _ h => h) (Or.inl ⟨by rfl, ?_⟩) hHeld ?_
        rotate_left 1
        · intro Wx hSW; simp only [List.getElem_toArray, List.getElem_cons_zero, List.getElem_cons_succ]; have z3 := hSW.out.1; have z4 := hSW.out.2; go_simp; try with_reducible rfl
        simp only [Act.put, List.getElem_toArray, List.getElem_cons_zero, List.getElem_cons_succ, List.setIfInBounds_toArray, List.set_cons_zero, List.set_cons_succ]
        refine wpAnyH_take (i := 14) (v := ?_) rfl (by kernel_rfl) (by kernel_rfl) (by kernel_rfl) (fun _ _ _ h => h) (Or.inl ⟨by rfl, ?_⟩) hHeld ?_
        rotate_left 1
        · intro Wx hSW; simp only [List.getElem_toArray, List.getElem_cons_zero, List.getElem_cons_succ]; have z3 := hSW.out.1; have z4 := hSW.out.2; go_simp; try with_reducible rfl
        simp only [Act.put, List.getElem_toArray, List.getElem_cons_zero, List.getElem_cons_succ, List.setIfInBounds_toArray, List.set_cons_zero, List.set_cons_succ]
        refine wpAnyH_take (i := 15) (v := ?_) rfl (by kernel_rfl) (by kernel_rfl) (by kernel_rfl) (fun _ _ _ h => h) (Or.inl ⟨by rfl, ?_⟩) hHeld ?_
        rotate_left 1
        · intro Wx hSW; simp only [List.getElem_toArray, List.getElem_cons_zero, List.getElem_cons_succ]; have z3 := hSW.out.1; have z4 := hSW.out.2; go_simp; try with_reducible rfl
        simp only [Act.put, List.getElem_toArray, List.getElem_cons_zero, List.getElem_cons_succ, List.setIfInBounds_toArray, List.set_cons_zero, List.set_cons_succ]
        refine wpAnyH_ready (rs := [16]) (by kernel_rfl) (by simp) ?_
        refine AllReadyH.cons rfl (fun K hK => ?_) AllReadyH.nil
        go_simp
        go_at_call 17
        refine (HD9.out _).mono ?_
        rintro r w9 ⟨rfl, hb9⟩
        have gx9 := hide (cell_kept gx ((Below.refl _ _).drew.trans hb9))
        have gt9 := hide (cell_kept gt ((Below.refl _ _).drew.trans hb9))
        have HF9 := hide (HFB.out _ ((Below.refl _ _).drew.trans hb9))
        clear hb9
        go_wp2_with fail
        refine hK.out _ _ ⟨gt9.out, gx9.out⟩ (fun hHeld => ?_)
        clear hK K
        try simp only [Act.put, List.getElem_toArray, List.getElem_cons_zero, List.getElem_cons_succ, List.setIfInBounds_toArray, List.set_cons_zero, List.set_cons_succ]
        refine wpAnyH_take (i := 17) (v := ?_) rfl (by kernel_rfl) (by kernel_rfl) (by kernel_rfl) (fun _ _ _ h => h) (Or.inl ⟨by rfl, ?_⟩) hHeld ?_
        rotate_left 1
        · intro Wx hSW; simp only [List.getElem_toArray, List.getElem_cons_zero, List.getElem_cons_succ]; go_simp; try with_reducible rfl
        simp only [Act.put, List.getElem_toArray, List.getElem_cons_zero, List.getElem_cons_succ, List.setIfInBounds_toArray, List.set_cons_zero, List.set_cons_succ]
        refine wpAnyH_take (i := 18) (v := ?_) rfl (by kernel_rfl) (by kernel_rfl) (by kernel_rfl) (fun _ _ _ h => h) (Or.inl ⟨by rfl, ?_⟩) hHeld ?_
        rotate_left 1
        · intro Wx hSW; simp only [List.getElem_toArray, List.getElem_cons_zero, List.getElem_cons_succ]; go_simp; try with_reducible rfl
        simp only [Act.put, List.getElem_toArray, List.getElem_cons_zero, List.getElem_cons_succ, List.setIfInBounds_toArray, List.set_cons_zero, List.set_cons_succ]
        refine wpAnyH_done (by kernel_rfl) ?_ _
        go_wp2
        go_ret
        rw [HE.out]
        exact ⟨rfl, HF9.out.1, HF9.out.2⟩
      have HE : Hid (gN e ints i = (S ++ (({ data := #[32, 38, 32] } : ByteArray) ++ Y), i + 1)) := by show _ = _; rw [HGN.out, HN1.out, htl, if_neg cc, HN2.out]
      have gt := (gc0 (HFD.out nq).1).2.2.2.2.1
      rw [hvt] at gt
      have cc' : 200 < k → tl = 0 := fun g => by have : ¬ 0 < tl := fun x => cc ⟨g, x⟩; omega
      clear hat hct hvt cc htl
      by_cases c8 : 200 < k
      · have tc : decide ((k : Int) > 200) = true := decide_eq_true (by omega)
        have tc2 : decide (200 < (k : Int)) = true := decide_eq_true (by omega)
        obtain rfl := cc' c8
        go_wp2
        go_ret
        have q1 := (HFD.out nq).1
        have q2 := (HFD.out nq).2
        rw [HE.out]
        exact ⟨rfl, q1, q2⟩
      · have tc : decide ((k : Int) > 200) = false := decide_eq_false (by omega)
        have tc2 : decide (200 < (k : Int)) = false := decide_eq_false (by omega)
        clear cc'
        go_wp2
        go_ret
        have q1 := (HFD.out nq).1
        have q2 := (HFD.out nq).2
        rw [HE.out]
        exact ⟨rfl, q1, q2⟩
    have HN2 : Hid (gN2 ints k (S) = S) := by show _ = _; unfold gN2; rw [hm7, hl, if_neg cb]
    have cb' : m7 = 1 → l = 0 := fun g => by have : ¬ 0 < l := fun x => cb ⟨g, x⟩; omega
    rw [hl] at hvi
    rw [hvi] at gv
    clear hai hci hvi cb hl hm7
    by_cases c7 : m7 = 1
    · have tb : ((m7 : Int) == 1) = true := by rw [c7]; rfl
      obtain rfl := cb' c7
      obtain ⟨at4, bt4, ot4, ct4, hvt, hat, hct⟩ := (HG2.out).tx
      obtain ⟨tl, htl⟩ : ∃ n, e.texts.length = n := ⟨_, rfl⟩
      rw [htl] at hvt hat hct
      by_cases cc : 200 < k ∧ 0 < tl
      · have tc : decide ((k : Int) > 200) = true := decide_eq_true (by omega)
        have tc2 : decide (200 < (k : Int)) = true := decide_eq_true (by omega)
        obtain rfl := (hat cc.2).1
        obtain ⟨x, hx⟩ : ∃ x, k % tl = x := ⟨_, rfl⟩
        have hxl : x < tl := by rw [← hx]; exact Nat.mod_lt _ cc.2
        have gx := hct x hxl
        have gt := (gc0 HG2.out).2.2.2.2.1
        rw [hvt] at gt
        have xl := getD_le hts x
        obtain ⟨d9, hd9⟩ : ∃ d, k % 9 = d := ⟨_, rfl⟩
        have HD9 := hide (fun V => l2dG_any d9 V (by omega))
        have x9 := decB_le d9
        have HE : Hid (gN e ints i = (e.texts.getD x ⟨#[]⟩ ++ ({ data := #[32, 38, 32] } : ByteArray) ++ decB d9, i + 1)) := by show _ = _; rw [HGN.out, HN1.out, htl, if_pos cc, hx, hd9]
        obtain ⟨T, hT⟩ : ∃ Z, e.texts.getD x ⟨#[]⟩ = Z := ⟨_, rfl⟩
        obtain ⟨D9, hD9⟩ : ∃ Z, decB d9 = Z := ⟨_, rfl⟩
        rw [hT] at gx xl HE
        rw [hD9] at HD9 x9 HE
        have hm9 : (k : Int).tmod 9 = (d9 : Int) := by rw [← hd9]; rfl
        have hmx : (k : Int).tmod (tl : Int) = (x : Int) := by rw [← hx]; rfl
        have hl0 : ((tl : Int) == 0) = false := by rw [beq_eq_false_iff_ne]; omega
        have hlp : decide ((tl : Int) > 0) = true := decide_eq_true (by omega)
        have hlp2 : 0 < tl := cc.2
        have hl00 : ¬ tl = 0 := by omega
        have hxi : (x : Int) < (tl : Int) := by omega
        have z1 : ¬ 9223372036854775807 < T.size + 3 := by omega
        have z2 : ¬ 9223372036854775807 < T.size + 3 + D9.size := by omega
        have HFB : Hid (∀ V, Below (w2).heap.size (w2) V → GnAt V c e (i + 1) vi vt ints f ∧ Gw (· = c.R) w V) := fun V hV => ⟨(HG2.out).below hV, (HW2.out).trans (Gw.of_below hV (P := fun _ => False)) (fun _ _ g => g.elim)⟩
        clear hat hct hvt hx hd9 hT hD9 cc htl
        go_wp2_with fail
        refine wp_region_held_drew (S := fun w' => Hid (w'.cell? ⟨c.G, 4, none⟩ = some (.slice (some ⟨bt4, ot4, none⟩) tl ct4) ∧ w'.cell? ⟨bt4, ot4 + x, none⟩ = some (.string T))) (by kernel_rfl) (⟨gt, gx⟩) (fun hHeld => ?_)
        refine wpAnyH_take (i := 0) (v := ?_) rfl (by kernel_rfl) (by kernel_rfl) (by kernel_rfl) (fun _ _ _ h => h) (Or.inl ⟨by rfl, ?_⟩) hHeld ?_
        rotate_left 1
        · intro Wx hSW; simp only [List.getElem_toArray, List.getElem_cons_zero]; have z3 := hSW.out.1; have z4 := hSW.out.2; go_simp; try with_reducible rfl
        simp only [Act.put, List.getElem_toArray, List.getElem_cons_zero, List.setIfInBounds_toArray, List.set_cons_zero, List.set_cons_succ]
        refine wpAnyH_take (i := 1) (v := ?_) rfl (by kernel_rfl) (by kernel_rfl) (by kernel_rfl) (fun _ _ _ h => h) (Or.inl ⟨by rfl, ?_⟩) hHeld ?_
        rotate_left 1
        · intro Wx hSW; simp only [List.getElem_toArray, List.getElem_cons_zero, List.getElem_cons_succ]; have z3 := hSW.out.1; have z4 := hSW.out.2; go_simp; try with_reducible rfl
        simp only [Act.put, List.getElem_toArray, List.getElem_cons_zero, List.getElem_cons_succ, List.setIfInBounds_toArray, List.set_cons_zero, List.set_cons_succ]
        refine wpAnyH_take (i := 2) (v := ?_) rfl (by kernel_rfl) (by kernel_rfl) (by kernel_rfl) (fun _ _ _ h => h) (Or.inl ⟨by rfl, ?_⟩) hHeld ?_
        rotate_left 1
        · intro Wx hSW; simp only [List.getElem_toArray, List.getElem_cons_zero, List.getElem_cons_succ]; have z3 := hSW.out.1; have z4 := hSW.out.2; go_simp; try with_reducible rfl
        simp only [Act.put, List.getElem_toArray, List.getElem_cons_zero, List.getElem_cons_succ, List.setIfInBounds_toArray, List.set_cons_zero, List.set_cons_succ]
        refine wpAnyH_take (i := 3) (v := ?_) rfl (by kernel_rfl) (by kernel_rfl) (by kernel_rfl) (fun _ _ _ h => h) (Or.inl ⟨by rfl, ?_⟩) hHeld ?_
        rotate_left 1
        · intro Wx hSW; simp only [List.getElem_toArray, List.getElem_cons_zero, List.getElem_cons_succ]; have z3 := hSW.out.1; have z4 := hSW.out.2; go_simp; try with_reducible rfl
        simp only [Act.put, List.getElem_toArray, List.getElem_cons_zero, List.getElem_cons_succ, List.setIfInBounds_toArray, List.set_cons_zero, List.set_cons_succ]
        refine wpAnyH_take (i := 4) (v := ?_) rfl (by kernel_rfl) (by kernel_rfl) (by kernel_rfl) (fun _ _ _ h => h) (Or.inl ⟨by rfl, ?_⟩) hHeld ?_
        rotate_left 1
        · intro Wx hSW; simp only [List.getElem_toArray, List.getElem_cons_zero, List.getElem_cons_succ]; have z3 := hSW.out.1; have z4 := hSW.out.2; go_simp; try with_reducible rfl
        simp only [Act.put, List.getElem_toArray, List.getElem_cons_zero, List.getElem_cons_succ, List.setIfInBounds_toArray, List.set_cons_zero, List.set_cons_succ]
        refine wpAnyH_take (i := 5) (v := ?_) rfl (by kernel_rfl) (by kernel_rfl) (by kernel_rfl) (fun _ _ _ h => h) (Or.inl ⟨by rfl, ?_⟩) hHeld ?_
        rotate_left 1
        · intro Wx hSW; simp only [List.getElem_toArray, List.getElem_cons_zero, List.getElem_cons_succ]; have z3 := hSW.out.1; have z4 := hSW.out.2; go_simp; try with_reducible rfl
        simp only [Act.put, List.getElem_toArray, List.getElem_cons_zero, List.getElem_cons_succ, List.setIfInBounds_toArray, List.set_cons_zero, List.set_cons_succ]
        refine wpAnyH_take (i := 6) (v := ?_) rfl (by kernel_rfl) (by kernel_rfl) (by kernel_rfl) (fun _ _ _ h => h) (Or.inl ⟨by rfl, ?_⟩) hHeld ?_
        rotate_left 1
        · intro Wx hSW; simp only [List.getElem_toArray, List.getElem_cons_zero, List.getElem_cons_succ]; have z3 := hSW.out.1; have z4 := hSW.out.2; go_simp; try with_reducible rfl
        simp only [Act.put, List.getElem_toArray, List.getElem_cons_zero, List.getElem_cons_succ, List.setIfInBounds_toArray, List.set_cons_zero, List.set_cons_succ]
        refine wpAnyH_take (i := 7) (v := ?_) rfl (by kernel_rfl) (by kernel_rfl) (by kernel_rfl) (fun _ _ _ h => h) (Or.inl ⟨by rfl, ?_⟩) hHeld ?_
        rotate_left 1
        · intro Wx hSW; simp only [List.getElem_toArray, List.getElem_cons_zero, List.getElem_cons_succ]; have z3 := hSW.out.1; have z4 := hSW.out.2; go_simp; try with_reducible rfl
        simp only [Act.put, List.getElem_toArray, List.getElem_cons_zero, List.getElem_cons_succ, List.setIfInBounds_toArray, List.set_cons_zero, List.set_cons_succ]
        refine wpAnyH_take (i := 8) (v := ?_) rfl (by kernel_rfl) (by kernel_rfl) (by kernel_rfl) (fun _ _ _ h => h) (Or.inl ⟨by rfl, ?_⟩) hHeld ?_
        rotate_left 1
        · intro Wx hSW; simp only [List.getElem_toArray, List.getElem_cons_zero, List.getElem_cons_succ]; have z3 := hSW.out.1; have z4 := hSW.out.2; go_simp; try with_reducible rfl
        simp only [Act.put, List.getElem_toArray, List.getElem_cons_zero, List.getElem_cons_succ, List.setIfInBounds_toArray, List.set_cons_zero, List.set_cons_succ]
        refine wpAnyH_take (i := 9) (v := ?_) rfl (by kernel_rfl) (by kernel_rfl) (by kernel_rfl) (fun _ _ _ h => h) (Or.inl ⟨by rfl, ?_⟩) hHeld ?_
        rotate_left 1
        · intro Wx hSW; simp only [List.getElem_toArray, List.getElem_cons_zero, List.getElem_cons_succ]; have z3 := hSW.out.1; have z4 := hSW.out.2; go_simp; try with_reducible rfl
        simp only [Act.put, List.getElem_toArray, List.getElem_cons_zero, List.getElem_cons_succ, List.setIfInBounds_toArray, List.set_cons_zero, List.set_cons_succ]
        refine wpAnyH_take (i := 10) (v := ?_) rfl (by kernel_rfl) (by kernel_rfl) (by kernel_rfl) (fun _ _ _ h => h) (Or.inl ⟨by rfl, ?_⟩) hHeld ?_
        rotate_left 1
        · intro Wx hSW; simp only [List.getElem_toArray, List.getElem_cons_zero, List.getElem_cons_succ]; have z3 := hSW.out.1; have z4 := hSW.out.2; go_simp; try with_reducible rfl
        simp only [Act.put, List.getElem_toArray, List.getElem_cons_zero, List.getElem_cons_succ, List.setIfInBounds_toArray, List.set_cons_zero, List.set_cons_succ]
        refine wpAnyH_take (i := 11) (v := ?_) rfl (by kernel_rfl) (by kernel_rfl) (by kernel_rfl) (fun _ _ _ h => h) (Or.inl ⟨by rfl, ?_⟩) hHeld ?_
        rotate_left 1
        · intro Wx hSW; simp only [List.getElem_toArray, List.getElem_cons_zero, List.getElem_cons_succ]; have z3 := hSW.out.1; have z4 := hSW.out.2; go_simp; try with_reducible rfl
        simp only [Act.put, List.getElem_toArray, List.getElem_cons_zero, List.getElem_cons_succ, List.setIfInBounds_toArray, List.set_cons_zero, List.set_cons_succ]
        refine wpAnyH_take (i := 12) (v := ?_) rfl (by kernel_rfl) (by kernel_rfl) (by kernel_rfl) (fun _ _ _ h => h) (Or.inl ⟨by rfl, ?_⟩) hHeld ?_
        rotate_left 1
        · intro Wx hSW; simp only [List.getElem_toArray, List.getElem_cons_zero, List.getElem_cons_succ]; have z3 := hSW.out.1; have z4 := hSW.out.2; go_simp; try with_reducible rfl
        simp only [Act.put, List.getElem_toArray, List.getElem_cons_zero, List.getElem_cons_succ, List.setIfInBounds_toArray, List.set_cons_zero, List.set_cons_succ]
        refine wpAnyH_take (i := 13) (v := ?_) rfl (by kernel_rfl) (by kernel_rfl) (by kernel_rfl) (fun _ _ _ h => h) (Or.inl ⟨by rfl, ?_⟩) hHeld ?_
        rotate_left 1
        · intro Wx hSW; simp only [List.getElem_toArray, List.getElem_cons_zero, List.getElem_cons_succ]; have z3 := hSW.out.1; have z4 := hSW.out.2; go_simp; try with_reducible rfl
        simp only [Act.put, List.getElem_toArray, List.getElem_cons_zero, List.getElem_cons_succ, List.setIfInBounds_toArray, List.set_cons_zero, List.set_cons_succ]
        refine wpAnyH_take (i := 14) (v := ?_) rfl (by kernel_rfl) (by kernel_rfl) (by kernel_rfl) (fun _ _ _ h => h) (Or.inl ⟨by rfl, ?_⟩) hHeld ?_
        rotate_left 1
        · intro Wx hSW; simp only [List.getElem_toArray, List.getElem_cons_zero, List.getElem_cons_succ]; have z3 := hSW.out.1; have z4 := hSW.out.2; go_simp; try with_reducible rfl
        simp only [Act.put, List.getElem_toArray, List.getElem_cons_zero, List.getElem_cons_succ, List.setIfInBounds_toArray, List.set_cons_zero, List.set_cons_succ]
        refine wpAnyH_take (i := 15) (v := ?_) rfl (by kernel_rfl) (by kernel_rfl) (by kernel_rfl) (fun _ _ _ h => h) (Or.inl ⟨by rfl, ?_⟩) hHeld ?_
        rotate_left 1
        · intro Wx hSW; simp only [List.getElem_toArray, List.getElem_cons_zero, List.getElem_cons_succ]; have z3 := hSW.out.1; have z4 := hSW.out.2; go_simp; try with_reducible rfl
        simp only [Act.put, List.getElem_toArray, List.getElem_cons_zero, List.getElem_cons_succ, List.setIfInBounds_toArray, List.set_cons_zero, List.set_cons_succ]
        refine wpAnyH_ready (rs := [16]) (by kernel_rfl) (by simp) ?_
        refine AllReadyH.cons rfl (fun K hK => ?_) AllReadyH.nil
        go_simp
        go_at_call 17
        refine (HD9.out _).mono ?_
        rintro r w9 ⟨rfl, hb9⟩
        have gx9 := hide (cell_kept gx ((Below.refl _ _).drew.trans hb9))
        have gt9 := hide (cell_kept gt ((Below.refl _ _).drew.trans hb9))
        have HF9 := hide (HFB.out _ ((Below.refl _ _).drew.trans hb9))
        clear hb9
        go_wp2_with fail
        refine hK.out _ _ ⟨gt9.out, gx9.out⟩ (fun hHeld => ?_)
        clear hK K
        try simp only [Act.put, List.getElem_toArray, List.getElem_cons_zero, List.getElem_cons_succ, List.setIfInBounds_toArray, List.set_cons_zero, List.set_cons_succ]
        refine wpAnyH_take (i := 17) (v := ?_) rfl (by kernel_rfl) (by kernel_rfl) (by kernel_rfl) (fun _ _ _ h => h) (Or.inl ⟨by rfl, ?_⟩) hHeld ?_
        rotate_left 1
        · intro Wx hSW; simp only [List.getElem_toArray, List.getElem_cons_zero, List.getElem_cons_succ]; go_simp; try with_reducible rfl
        simp only [Act.put, List.getElem_toArray, List.getElem_cons_zero, List.getElem_cons_succ, List.setIfInBounds_toArray, List.set_cons_zero, List.set_cons_succ]
        refine wpAnyH_take (i := 18) (v := ?_) rfl (by kernel_rfl) (by kernel_rfl) (by kernel_rfl) (fun _ _ _ h => h) (Or.inl ⟨by rfl, ?_⟩) hHeld ?_
        rotate_left 1
        · intro Wx hSW; simp only [List.getElem_toArray, List.getElem_cons_zero, List.getElem_cons_succ]; go_simp; try with_reducible rfl
        simp only [Act.put, List.getElem_toArray, List.getElem_cons_zero, List.getElem_cons_succ, List.setIfInBounds_toArray, List.set_cons_zero, List.set_cons_succ]
        refine wpAnyH_done (by kernel_rfl) ?_ _
        go_wp2
        go_ret
        rw [HE.out]
        exact ⟨rfl, HF9.out.1, HF9.out.2⟩
      have HE : Hid (gN e ints i = (S, i + 1)) := by show _ = _; rw [HGN.out, HN1.out, htl, if_neg cc, HN2.out]
      have gt := (gc0 HG2.out).2.2.2.2.1
      rw [hvt] at gt
      have cc' : 200 < k → tl = 0 := fun g => by have : ¬ 0 < tl := fun x => cc ⟨g, x⟩; omega
      clear hat hct hvt cc htl
      by_cases c8 : 200 < k
      · have tc : decide ((k : Int) > 200) = true := decide_eq_true (by omega)
        have tc2 : decide (200 < (k : Int)) = true := decide_eq_true (by omega)
        obtain rfl := cc' c8
        go_wp2
        go_ret
        have q1 := HG2.out
        have q2 := HW2.out
        rw [HE.out]
        exact ⟨rfl, q1, q2⟩
      · have tc : decide ((k : Int) > 200) = false := decide_eq_false (by omega)
        have tc2 : decide (200 < (k : Int)) = false := decide_eq_false (by omega)
        clear cc'
        go_wp2
        go_ret
        have q1 := HG2.out
        have q2 := HW2.out
        rw [HE.out]
        exact ⟨rfl, q1, q2⟩
    · have tb : ((m7 : Int) == 1) = false := by rw [beq_eq_false_iff_ne]; omega
      clear cb'
      obtain ⟨at4, bt4, ot4, ct4, hvt, hat, hct⟩ := (HG2.out).tx
      obtain ⟨tl, htl⟩ : ∃ n, e.texts.length = n := ⟨_, rfl⟩
      rw [htl] at hvt hat hct
      by_cases cc : 200 < k ∧ 0 < tl
      · have tc : decide ((k : Int) > 200) = true := decide_eq_true (by omega)
        have tc2 : decide (200 < (k : Int)) = true := decide_eq_true (by omega)
        obtain rfl := (hat cc.2).1
        obtain ⟨x, hx⟩ : ∃ x, k % tl = x := ⟨_, rfl⟩
        have hxl : x < tl := by rw [← hx]; exact Nat.mod_lt _ cc.2
        have gx := hct x hxl
        have gt := (gc0 HG2.out).2.2.2.2.1
        rw [hvt] at gt
        have xl := getD_le hts x
        obtain ⟨d9, hd9⟩ : ∃ d, k % 9 = d := ⟨_, rfl⟩
        have HD9 := hide (fun V => l2dG_any d9 V (by omega))
        have x9 := decB_le d9
        have HE : Hid (gN e ints i = (e.texts.getD x ⟨#[]⟩ ++ ({ data := #[32, 38, 32] } : ByteArray) ++ decB d9, i + 1)) := by show _ = _; rw [HGN.out, HN1.out, htl, if_pos cc, hx, hd9]
        obtain ⟨T, hT⟩ : ∃ Z, e.texts.getD x ⟨#[]⟩ = Z := ⟨_, rfl⟩
        obtain ⟨D9, hD9⟩ : ∃ Z, decB d9 = Z := ⟨_, rfl⟩
        rw [hT] at gx xl HE
        rw [hD9] at HD9 x9 HE
        have hm9 : (k : Int).tmod 9 = (d9 : Int) := by rw [← hd9]; rfl
        have hmx : (k : Int).tmod (tl : Int) = (x : Int) := by rw [← hx]; rfl
        have hl0 : ((tl : Int) == 0) = false := by rw [beq_eq_false_iff_ne]; omega
        have hlp : decide ((tl : Int) > 0) = true := decide_eq_true (by omega)
        have hlp2 : 0 < tl := cc.2
        have hl00 : ¬ tl = 0 := by omega
        have hxi : (x : Int) < (tl : Int) := by omega
        have z1 : ¬ 9223372036854775807 < T.size + 3 := by omega
        have z2 : ¬ 9223372036854775807 < T.size + 3 + D9.size := by omega
        have HFB : Hid (∀ V, Below (w2).heap.size (w2) V → GnAt V c e (i + 1) vi vt ints f ∧ Gw (· = c.R) w V) := fun V hV => ⟨(HG2.out).below hV, (HW2.out).trans (Gw.of_below hV (P := fun _ => False)) (fun _ _ g => g.elim)⟩
        clear hat hct hvt hx hd9 hT hD9 cc htl
        go_wp2_with fail
        refine wp_region_held_drew (S := fun w' => Hid (w'.cell? ⟨c.G, 4, none⟩ = some (.slice (some ⟨bt4, ot4, none⟩) tl ct4) ∧ w'.cell? ⟨bt4, ot4 + x, none⟩ = some (.string T))) (by kernel_rfl) (⟨gt, gx⟩) (fun hHeld => ?_)
        refine wpAnyH_take (i := 0) (v := ?_) rfl (by kernel_rfl) (by kernel_rfl) (by kernel_rfl) (fun _ _ _ h => h) (Or.inl ⟨by rfl, ?_⟩) hHeld ?_
        rotate_left 1
        · intro Wx hSW; simp only [List.getElem_toArray, List.getElem_cons_zero]; have z3 := hSW.out.1; have z4 := hSW.out.2; go_simp; try with_reducible rfl
        simp only [Act.put, List.getElem_toArray, List.getElem_cons_zero, List.setIfInBounds_toArray, List.set_cons_zero, List.set_cons_succ]
        refine wpAnyH_take (i := 1) (v := ?_) rfl (by kernel_rfl) (by kernel_rfl) (by kernel_rfl) (fun _ _ _ h => h) (Or.inl ⟨by rfl, ?_⟩) hHeld ?_
        rotate_left 1
        · intro Wx hSW; simp only [List.getElem_toArray, List.getElem_cons_zero, List.getElem_cons_succ]; have z3 := hSW.out.1; have z4 := hSW.out.2; go_simp; try with_reducible rfl
        simp only [Act.put, List.getElem_toArray, List.getElem_cons_zero, List.getElem_cons_succ, List.setIfInBounds_toArray, List.set_cons_zero, List.set_cons_succ]
        refine wpAnyH_take (i := 2) (v := ?_) rfl (by kernel_rfl) (by kernel_rfl) (by kernel_rfl) (fun _ _ _ h => h) (Or.inl ⟨by rfl, ?_⟩) hHeld ?_
        rotate_left 1
        · intro Wx hSW; simp only [List.getElem_toArray, List.getElem_cons_zero, List.getElem_cons_succ]; have z3 := hSW.out.1; have z4 := hSW.out.2; go_simp; try with_reducible rfl
        simp only [Act.put, List.getElem_toArray, List.getElem_cons_zero, List.getElem_cons_succ, List.setIfInBounds_toArray, List.set_cons_zero, List.set_cons_succ]
        refine wpAnyH_take (i := 3) (v := ?_) rfl (by kernel_rfl) (by kernel_rfl) (by kernel_rfl) (fun _ _ _ h => h) (Or.inl ⟨by rfl, ?_⟩) hHeld ?_
        rotate_left 1
        · intro Wx hSW; simp only [List.getElem_toArray, List.getElem_cons_zero, List.getElem_cons_succ]; have z3 := hSW.out.1; have z4 := hSW.out.2; go_simp; try with_reducible rfl
        simp only [Act.put, List.getElem_toArray, List.getElem_cons_zero, List.getElem_cons_succ, List.setIfInBounds_toArray, List.set_cons_zero, List.set_cons_succ]
        refine wpAnyH_take (i := 4) (v := ?_) rfl (by kernel_rfl) (by kernel_rfl) (by kernel_rfl) (fun _ _ _ h => h) (Or.inl ⟨by rfl, ?_⟩) hHeld ?_
        rotate_left 1
        · intro Wx hSW; simp only [List.getElem_toArray, List.getElem_cons_zero, List.getElem_cons_succ]; have z3 := hSW.out.1; have z4 := hSW.out.2; go_simp; try with_reducible rfl
        simp only [Act.put, List.getElem_toArray, List.getElem_cons_zero, List.getElem_cons_succ, List.setIfInBounds_toArray, List.set_cons_zero, List.set_cons_succ]
        refine wpAnyH_take (i := 5) (v := ?_) rfl (by kernel_rfl) (by kernel_rfl) (by kernel_rfl) (fun _ _ _ h => h) (Or.inl ⟨by rfl, ?_⟩) hHeld ?_
        rotate_left 1
        · intro Wx hSW; simp only [List.getElem_toArray, List.getElem_cons_zero, List.getElem_cons_succ]; have z3 := hSW.out.1; have z4 := hSW.out.2; go_simp; try with_reducible rfl
        simp only [Act.put, List.getElem_toArray, List.getElem_cons_zero, List.getElem_cons_succ, List.setIfInBounds_toArray, List.set_cons_zero, List.set_cons_succ]
        refine wpAnyH_take (i := 6) (v := ?_) rfl (by kernel_rfl) (by kernel_rfl) (by kernel_rfl) (fun _ _ _ h => h) (Or.inl ⟨by rfl, ?_⟩) hHeld ?_
        rotate_left 1
        · intro Wx hSW; simp only [List.getElem_toArray, List.getElem_cons_zero, List.getElem_cons_succ]; have z3 := hSW.out.1; have z4 := hSW.out.2; go_simp; try with_reducible rfl
        simp only [Act.put, List.getElem_toArray, List.getElem_cons_zero, List.getElem_cons_succ, List.setIfInBounds_toArray, List.set_cons_zero, List.set_cons_succ]
        refine wpAnyH_take (i := 7) (v := ?_) rfl (by kernel_rfl) (by kernel_rfl) (by kernel_rfl) (fun _ _ _ h => h) (Or.inl ⟨by rfl, ?_⟩) hHeld ?_
        rotate_left 1
        · intro Wx hSW; simp only [List.getElem_toArray, List.getElem_cons_zero, List.getElem_cons_succ]; have z3 := hSW.out.1; have z4 := hSW.out.2; go_simp; try with_reducible rfl
        simp only [Act.put, List.getElem_toArray, List.getElem_cons_zero, List.getElem_cons_succ, List.setIfInBounds_toArray, List.set_cons_zero, List.set_cons_succ]
        refine wpAnyH_take (i := 8) (v := ?_) rfl (by kernel_rfl) (by kernel_rfl) (by kernel_rfl) (fun _ _ _ h => h) (Or.inl ⟨by rfl, ?_⟩) hHeld ?_
        rotate_left 1
        · intro Wx hSW; simp only [List.getElem_toArray, List.getElem_cons_zero, List.getElem_cons_succ]; have z3 := hSW.out.1; have z4 := hSW.out.2; go_simp; try with_reducible rfl
        simp only [Act.put, List.getElem_toArray, List.getElem_cons_zero, List.getElem_cons_succ, List.setIfInBounds_toArray, List.set_cons_zero, List.set_cons_succ]
        refine wpAnyH_take (i := 9) (v := ?_) rfl (by kernel_rfl) (by kernel_rfl) (by kernel_rfl) (fun _ _ _ h => h) (Or.inl ⟨by rfl, ?_⟩) hHeld ?_
        rotate_left 1
        · intro Wx hSW; simp only [List.getElem_toArray, List.getElem_cons_zero, List.getElem_cons_succ]; have z3 := hSW.out.1; have z4 := hSW.out.2; go_simp; try with_reducible rfl
        simp only [Act.put, List.getElem_toArray, List.getElem_cons_zero, List.getElem_cons_succ, List.setIfInBounds_toArray, List.set_cons_zero, List.set_cons_succ]
        refine wpAnyH_take (i := 10) (v := ?_) rfl (by kernel_rfl) (by kernel_rfl) (by kernel_rfl) (fun _ _ _ h => h) (Or.inl ⟨by rfl, ?_⟩) hHeld ?_
        rotate_left 1
        · intro Wx hSW; simp only [List.getElem_toArray, List.getElem_cons_zero, List.getElem_cons_succ]; have z3 := hSW.out.1; have z4 := hSW.out.2; go_simp; try with_reducible rfl
        simp only [Act.put, List.getElem_toArray, List.getElem_cons_zero, List.getElem_cons_succ, List.setIfInBounds_toArray, List.set_cons_zero, List.set_cons_succ]
        refine wpAnyH_take (i := 11) (v := ?_) rfl (by kernel_rfl) (by kernel_rfl) (by kernel_rfl) (fun _ _ _ h => h) (Or.inl ⟨by rfl, ?_⟩) hHeld ?_
        rotate_left 1
        · intro Wx hSW; simp only [List.getElem_toArray, List.getElem_cons_zero, List.getElem_cons_succ]; have z3 := hSW.out.1; have z4 := hSW.out.2; go_simp; try with_reducible rfl
        simp only [Act.put, List.getElem_toArray, List.getElem_cons_zero, List.getElem_cons_succ, List.setIfInBounds_toArray, List.set_cons_zero, List.set_cons_succ]
        refine wpAnyH_take (i := 12) (v := ?_) rfl (by kernel_rfl) (by kernel_rfl) (by kernel_rfl) (fun _ _ _ h => h) (Or.inl ⟨by rfl, ?_⟩) hHeld ?_
        rotate_left 1
        · intro Wx hSW; simp only [List.getElem_toArray, List.getElem_cons_zero, List.getElem_cons_succ]; have z3 := hSW.out.1; have z4 := hSW.out.2; go_simp; try with_reducible rfl
        simp only [Act.put, List.getElem_toArray, List.getElem_cons_zero, List.getElem_cons_succ, List.setIfInBounds_toArray, List.set_cons_zero, List.set_cons_succ]
        refine wpAnyH_take (i := 13) (v := ?_) rfl (by kernel_rfl) (by kernel_rfl) (by kernel_rfl) (fun _ _ _ h => h) (Or.inl ⟨by rfl, ?_⟩) hHeld ?_
        rotate_left 1
        · intro Wx hSW; simp only [List.getElem_toArray, List.getElem_cons_zero, List.getElem_cons_succ]; have z3 := hSW.out.1; have z4 := hSW.out.2; go_simp; try with_reducible rfl
        simp only [Act.put, List.getElem_toArray, List.getElem_cons_zero, List.getElem_cons_succ, List.setIfInBounds_toArray, List.set_cons_zero, List.set_cons_succ]
        refine wpAnyH_take (i := 14) (v := ?_) rfl (by kernel_rfl) (by kernel_rfl) (by kernel_rfl) (fun _ _ _ h => h) (Or.inl ⟨by rfl, ?_⟩) hHeld ?_
        rotate_left 1
        · intro Wx hSW; simp only [List.getElem_toArray, List.getElem_cons_zero, List.getElem_cons_succ]; have z3 := hSW.out.1; have z4 := hSW.out.2; go_simp; try with_reducible rfl
        simp only [Act.put, List.getElem_toArray, List.getElem_cons_zero, List.getElem_cons_succ, List.setIfInBounds_toArray, List.set_cons_zero, List.set_cons_succ]
        refine wpAnyH_take (i := 15) (v := ?_) rfl (by kernel_rfl) (by kernel_rfl) (by kernel_rfl) (fun _ _ _ h => h) (Or.inl ⟨by rfl, ?_⟩) hHeld ?_
        rotate_left 1
        · intro Wx hSW; simp only [List.getElem_toArray, List.getElem_cons_zero, List.getElem_cons_succ]; have z3 := hSW.out.1; have z4 := hSW.out.2; go_simp; try with_reducible rfl
        simp only [Act.put, List.getElem_toArray, List.getElem_cons_zero, List.getElem_cons_succ, List.setIfInBounds_toArray, List.set_cons_zero, List.set_cons_succ]
        refine wpAnyH_ready (rs := [16]) (by kernel_rfl) (by simp) ?_
        refine AllReadyH.cons rfl (fun K hK => ?_) AllReadyH.nil
        go_simp
        go_at_call 17
        refine (HD9.out _).mono ?_
        rintro r w9 ⟨rfl, hb9⟩
        have gx9 := hide (cell_kept gx ((Below.refl _ _).drew.trans hb9))
        have gt9 := hide (cell_kept gt ((Below.refl _ _).drew.trans hb9))
        have HF9 := hide (HFB.out _ ((Below.refl _ _).drew.trans hb9))
        clear hb9
        go_wp2_with fail
        refine hK.out _ _ ⟨gt9.out, gx9.out⟩ (fun hHeld => ?_)
        clear hK K
        try simp only [Act.put, List.getElem_toArray, List.getElem_cons_zero, List.getElem_cons_succ, List.setIfInBounds_toArray, List.set_cons_zero, List.set_cons_succ]
        refine wpAnyH_take (i := 17) (v := ?_) rfl (by kernel_rfl) (by kernel_rfl) (by kernel_rfl) (fun _ _ _ h => h) (Or.inl ⟨by rfl, ?_⟩) hHeld ?_
        rotate_left 1
        · intro Wx hSW; simp only [List.getElem_toArray, List.getElem_cons_zero, List.getElem_cons_succ]; go_simp; try with_reducible rfl
        simp only [Act.put, List.getElem_toArray, List.getElem_cons_zero, List.getElem_cons_succ, List.setIfInBounds_toArray, List.set_cons_zero, List.set_cons_succ]
        refine wpAnyH_take (i := 18) (v := ?_) rfl (by kernel_rfl) (by kernel_rfl) (by kernel_rfl) (fun _ _ _ h => h) (Or.inl ⟨by rfl, ?_⟩) hHeld ?_
        rotate_left 1
        · intro Wx hSW; simp only [List.getElem_toArray, List.getElem_cons_zero, List.getElem_cons_succ]; go_simp; try with_reducible rfl
        simp only [Act.put, List.getElem_toArray, List.getElem_cons_zero, List.getElem_cons_succ, List.setIfInBounds_toArray, List.set_cons_zero, List.set_cons_succ]
        refine wpAnyH_done (by kernel_rfl) ?_ _
        go_wp2
        go_ret
        rw [HE.out]
        exact ⟨rfl, HF9.out.1, HF9.out.2⟩
      have HE : Hid (gN e ints i = (S, i + 1)) := by show _ = _; rw [HGN.out, HN1.out, htl, if_neg cc, HN2.out]
      have gt := (gc0 HG2.out).2.2.2.2.1
      rw [hvt] at gt
      have cc' : 200 < k → tl = 0 := fun g => by have : ¬ 0 < tl := fun x => cc ⟨g, x⟩; omega
      clear hat hct hvt cc htl
      by_cases c8 : 200 < k
      · have tc : decide ((k : Int) > 200) = true := decide_eq_true (by omega)
        have tc2 : decide (200 < (k : Int)) = true := decide_eq_true (by omega)
        obtain rfl := cc' c8
        go_wp2
        go_ret
        have q1 := HG2.out
        have q2 := HW2.out
        rw [HE.out]
        exact ⟨rfl, q1, q2⟩
      · have tc : decide ((k : Int) > 200) = false := decide_eq_false (by omega)
        have tc2 : decide (200 < (k : Int)) = false := decide_eq_false (by omega)
        clear cc'
        go_wp2
        go_ret
        have q1 := HG2.out
        have q2 := HW2.out
        rw [HE.out]
        exact ⟨rfl, q1, q2⟩
end Go.Proofs.YthoinjddamlapaaGreatDoor
