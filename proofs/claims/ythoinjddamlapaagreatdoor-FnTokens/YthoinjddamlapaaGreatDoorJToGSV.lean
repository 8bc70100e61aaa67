/-
  spec.l9stat: names.
-/
import Derived.Test.YthoinjddamlapaaGreatDoorJToGST
namespace Go.Proofs.YthoinjddamlapaaGreatDoor
open Go.RowKit

theorem GnAt.named {w w' : World} {c : GnC} {e : GE} {i : Nat} {vi vt v' : Value} {ints : List ByteArray} {f : Int} {N : ByteArray} {o : Obj} (h : GnAt w c e i vi vt ints f) (hg : (w.alloc o).grownBy w' vi.ownBlock) (ho : w'.ownsRow (c.R + 1) 9 1 v' (ints.length + 1) (ist ints ++ [.string N])) (hv : v'.ownBlock = vi.ownBlock ∨ v'.ownBlock = some (w.alloc o).heap.size) (hN : N.size ≤ 4) (hl : ints.length + 1 ≤ 10000) :
    GnAt (w'.setCell ⟨c.G, 3, none⟩ v') c e i v' vt (ints ++ [N]) f ∧ Gw (GnX c vi) w (w'.setCell ⟨c.G, 3, none⟩ v') := by
  have hGl := h.blk.lt
  have g1 : Gw (fun k => vi.ownBlock = some k) w w' := (Gw.of_below (P := fun k => vi.ownBlock = some k) ((Below.refl _ w).alloc (Nat.le_refl _) o)).trans (Gw.of_grown hg (P := fun k => vi.ownBlock = some k) (fun k hk _ => hk)) (fun _ _ q => q)
  have g2 : Gw (fun k => k = c.G ∨ vi.ownBlock = some k) w (w'.setCell ⟨c.G, 3, none⟩ v') := (g1.mono (fun _ _ q => .inr q)).trans (Gw.set w' c.G 3 v') (fun _ _ q => .inl q)
  have hlt := h.lt
  have hnew : ∀ k, k < w.heap.size → v'.ownBlock = some k → vi.ownBlock = some k := fun k hk q => by
    rcases hv with x | x
    · exact x ▸ q
    · rw [x] at q; injection q with q; simp at q; omega
  refine ⟨⟨h.rd.gw g2 (fun q => ?_) (fun hn q => ?_), Blk.set (g1.blk h.blk h.ig) 3 _, ?_, fun q => h.ig (hnew _ hGl q), h.tx.gw g2 (fun k q => .inr q) (fun k hk q => ?_), h.lt, h.bb, h.n6, h.wb, h.hb, fun x hx => ?_, h.ts, by simp; omega, h.tl, fun q => by simp at q⟩, g2.mono (fun _ _ q => .inr q)⟩
  · rcases q with q | q
    · omega
    · exact h.bG _ q rfl
  · have hb := h.bb hn
    rcases q with q | q
    · omega
    · have := (h.io.lt _ q).1; omega
  · have hx := (Gw.set w' c.G 3 v').own ho (fun k hk q => h.ig (hnew k (by omega) hk |> fun y => q ▸ y))
    simpa [ist] using hx
  · rcases q with q | q | q
    · exact .inl q
    · exact .inr (.inl q)
    · exact .inr (.inr (hnew k hk q))
  · rcases List.mem_append.1 hx with q | q
    · exact h.ns x q
    · rw [List.mem_singleton.1 q]; exact hN
set_option maxHeartbeats 8000000 in
set_option maxRecDepth 1000000 in
theorem stat_let (m : Nat) (c : GnC) (e : GE) (i : Nat) (vi vt : Value) (ints : List ByteArray) (f : Int) (w : World) (h : GnAt w c e i vi vt ints f) (hf : f < ((m + 1 : Nat) : Int)) (hm : m + 1 ≤ 15) (hf2 : -100 ≤ f) (hil : ints.length + 4 * (m + 1) ≤ 9000) (hcase : e.nx i % 16 = 11 ∧ 0 ≤ f - 1) :
    Calls Tryz.prog 35 #[.pointer (some ⟨c.G, 0, none⟩)] w (StQ c e vt (gS e (m + 1) i ints f) f vi w) := by
  have HN := hide (next_gn h)
  have g0 := (gc0 h).1
  have hk6 := e.nx_lt i
  have hns := h.ns
  have hts := h.ts
  have HIL := hide h.il
  have HHL := hide hil
  have HHF := hide hf2
  have HHM := hide hm
  have HHG := hide hf
  have HGS : Hid (gS e (m + 1) i ints f = ⟨({ data := #[108, 101, 116, 32] } : ByteArray) ++ (({ data := #[110] } : ByteArray) ++ decB (e.nx i / 16 % 3)) ++ ({ data := #[32, 61, 32] } : ByteArray) ++ gI ints e.w (e.nx (i + 1)) ++ ({ data := #[59, 10] } : ByteArray), i + 2, ints ++ [({ data := #[110] } : ByteArray) ++ decB (e.nx i / 16 % 3)]⟩) := by
    show _ = _
    unfold gS
    simp only
    rw [if_neg (by omega), if_neg (by omega), if_neg (by omega), if_neg (by omega), if_neg (by omega), if_neg (by omega), if_neg (by omega), if_pos (by omega)]
  obtain ⟨k, hk⟩ : ∃ k, e.nx i = k := ⟨_, rfl⟩
  rw [hk] at HN hk6 hcase
  try rw [hk] at HGS
  obtain ⟨j, hj⟩ : ∃ j, k / 16 % 4 = j := ⟨_, rfl⟩
  obtain ⟨kd, hkd⟩ : ∃ d, k / 16 = d := ⟨_, rfl⟩
  have hqw : IntKind.i64.wrap ((k : Int) / 16) = (kd : Int) := by rw [IntKind.wrap_i64]; omega
  have hmj : (kd : Int).tmod 4 = (j : Int) := by rw [← hj, ← hkd]; rfl
  have hj4 : j < 4 := by omega
  have hji : (j : Int) < 4 := by omega
  have hcl : ∀ W : World, (W.alloc (.cells #[.string ({ data := #[110, 111, 114, 116, 104] } : ByteArray), .string ({ data := #[101, 97, 115, 116] } : ByteArray), .string ({ data := #[115, 111, 117, 116, 104] } : ByteArray), .string ({ data := #[119, 101, 115, 116] } : ByteArray)] 9)).cell? ⟨W.heap.size, j, none⟩ = some (.string (wyW.getD j ⟨#[]⟩)) := fun W => by
    rw [cell_fresh]
    have h6 : j = 0 ∨ j = 1 ∨ j = 2 ∨ j = 3 := by omega
    rcases h6 with rfl | rfl | rfl | rfl <;> rfl
  have o2 := getD_le (L := wyW) (n := 5) (by decide) j
  try rw [hj] at HGS
  obtain ⟨O, hO⟩ : ∃ Z, wyW.getD j ⟨#[]⟩ = Z := ⟨_, rfl⟩
  rw [hO] at o2
  try rw [hO] at HGS
  simp only [hO] at hcl
  have a1 : ¬ 9223372036854775807 < 1 + O.size := by omega
  have a2 : ¬ 9223372036854775807 < 1 + O.size + 2 := by omega
  obtain ⟨mm, hmm⟩ : ∃ m, k % 16 = m := ⟨_, rfl⟩
  have hm16 : (k : Int).tmod 16 = (mm : Int) := by rw [← hmm]; rfl
  rw [hmm] at hcase
  have hfw : IntKind.i64.wrap (f - 1) = f - 1 := by rw [IntKind.wrap_i64]; omega
  have HCL := hide hcl
  have HHK := hide hk
  have HKD := hide hkd
  have HMM := hide hmm
  clear h hk hj hO hj4 hcl hkd hmm
  go_enter Tryz.func35, Tryz.ntmps35
  go_wp2_with fail
  refine HN.out.mono ?_
  rintro r w1 ⟨rfl, h1, hg1⟩
  have hc1 := HCL.out w1
  obtain ⟨W2, hW2⟩ : ∃ W, w1.alloc (.cells #[.string ({ data := #[110, 111, 114, 116, 104] } : ByteArray), .string ({ data := #[101, 97, 115, 116] } : ByteArray), .string ({ data := #[115, 111, 117, 116, 104] } : ByteArray), .string ({ data := #[119, 101, 115, 116] } : ByteArray)] 9) = W := ⟨_, rfl⟩
  have hb2 : Below w1.heap.size w1 W2 := by rw [← hW2]; exact (Below.refl _ _).alloc (Nat.le_refl _) _
  have h2 := h1.below hb2
  have g5 := (gc0 h2).2.2.2.2.2
  have g5f := h2.blk.frozen 5
  have HG3 := hide (h2.fuel (f' := f - 1))
  have HW3 : Hid (Gw (GnX c vi) w (W2.setCell ⟨c.G, 5, none⟩ (.int .i64 (f - 1)))) := (gwB (hg1.mono (fun _ _ g => .inl g)) hb2).trans (Gw.set W2 c.G 5 _) (fun _ _ g => .inr (.inl g))
  rw [hW2] at hc1
  have hW := hW2
  clear h1 hg1 h2 hb2 HN g0 hW2
  have tlt3 : decide ((mm : Int) < 3) = false := decide_eq_false (by omega)
  have teq3 : ((mm : Int) == 3) = false := by rw [beq_eq_false_iff_ne]; omega
  have teq4 : ((mm : Int) == 4) = false := by rw [beq_eq_false_iff_ne]; omega
  have teq5 : ((mm : Int) == 5) = false := by rw [beq_eq_false_iff_ne]; omega
  have teq6 : ((mm : Int) == 6) = false := by rw [beq_eq_false_iff_ne]; omega
  have teq7 : ((mm : Int) == 7) = false := by rw [beq_eq_false_iff_ne]; omega
  have tlt11 : decide ((mm : Int) < 11) = false := decide_eq_false (by omega)
  have teq11 : ((mm : Int) == 11) = true := by rw [beq_iff_eq]; omega
  have tf : decide (f - 1 < 0) = false := decide_eq_false (by omega)
  have g5a := (gc0 HG3.out).2.2.2.2.2
  obtain ⟨d, hd⟩ : ∃ d, kd % 3 = d := ⟨_, rfl⟩
  have hdm : (kd : Int).tmod 3 = (d : Int) := by rw [← hd]; rfl
  have hdl : d < 10 := by omega
  have HDD := hide (fun V => l2dG_any (d) V (by omega))
  have dl := decB_le (d)
  rw [HKD.out] at HGS
  obtain ⟨D, hD⟩ : ∃ Z, decB (d) = Z := ⟨_, rfl⟩
  rw [hd, hD] at HGS
  rw [hD] at HDD dl
  clear hD hd
  have wl := gI_le hns e.w (e.nx (i + 1))
  obtain ⟨X, hX⟩ : ∃ Z, gI ints e.w (e.nx (i + 1)) = Z := ⟨_, rfl⟩
  rw [hX] at wl HGS
  have HXX := hide hX
  obtain ⟨ai, gi, ki, hvi, _, _⟩ := HG3.out.ivw
  subst hvi
  have s0 : ¬ 9223372036854775807 < 1 + D.size := by omega
  have s1 : ¬ 9223372036854775807 < 4 + (1 + D.size) := by omega
  have s2 : ¬ 9223372036854775807 < 4 + (1 + D.size) + 3 := by omega
  have s3 : ¬ 9223372036854775807 < 4 + (1 + D.size) + 3 + X.size := by omega
  have s4 : ¬ 9223372036854775807 < 4 + (1 + D.size) + 3 + X.size + 2 := by omega
  clear hX
  go_wp2_with fail
  refine (HDD.out _).mono ?_
  rintro r w4 ⟨rfl, hb4⟩
  have HC := hide (col_any c e (i + 1) _ vt ints (f - 1) w4 (HG3.out.below hb4))
  rw [HXX.out] at HC
  have HW4 := hide (gwB HW3.out hb4)
  clear hb4 HDD hc1 g5 g5f hW g5a
  go_wp2_with fail
  refine HC.out.mono ?_
  rintro r w5 ⟨rfl, h5, hg5⟩
  have HG5 := hide h5
  have HW5 := hide (gwX HW4.out hg5)
  have k3a := ((h5.blk).alloc (.cells #[.string (({ data := #[110] } : ByteArray) ++ D)] 9)).cell 3
  have k3 := (gc0 h5).2.2.2.1
  simp only [List.getElem?_toArray, List.getElem?_cons_succ, List.getElem?_cons_zero] at k3a
  have HRl : Hid (c.R + 1 ≤ w5.heap.size) := h5.rd.lt
  clear h5 hg5 HC HW4
  have hlen := HIL.out
  have hlen2 := HHL.out
  go_wp2_with (at_builtin; refine wp_app1V rfl _ _ 51 9 rfl (.string ⟨#[]⟩) 16 Tryz.underlying51 Tryz.info9z rfl (by decide) (c.R + 1) _ ints.length (ist ints) rfl (HG5.out.io.alloc _) w5.heap.size 1 (.string (({ data := #[110] } : ByteArray) ++ D)) rfl (by simp) rfl (by omega) (by have := HRl.out; simp; omega) ?_; intro v6 w6 ho6 hg6 ha6; obtain ⟨a6, c6, rfl⟩ := own_slcV ho6; have hbk6 := (hg6.block _ ((HG5.out.blk).alloc _).lt (fun q => HG5.out.ig q.symm)).trans ((HG5.out.blk).alloc (.cells #[.string (({ data := #[110] } : ByteArray) ++ D)] 9)); have q3 := Blk.cell hbk6 3; have q3f := Blk.frozen hbk6 3; simp only [List.getElem?_toArray, List.getElem?_cons_succ, List.getElem?_cons_zero] at q3; have HFIN := hide (HG5.out.named hg6 ho6 ha6 (by rw [ByteArray.size_append]; show 1 + D.size ≤ 4; omega) (by omega)); have HAV := hide ha6; clear ho6 hg6 hbk6 ha6)
  go_ret
  rw [HGS.out]
  refine ⟨_, rfl, HFIN.out.1, HW5.out.trans HFIN.out.2 (fun _ _ q => q), ?_⟩
  rcases HAV.out with q | q
  · exact .inl q
  · refine .inr (fun k hk => ?_)
    rw [q] at hk
    injection hk with hk
    have := HW5.out.size
    simp at hk
    omega
end Go.Proofs.YthoinjddamlapaaGreatDoor
