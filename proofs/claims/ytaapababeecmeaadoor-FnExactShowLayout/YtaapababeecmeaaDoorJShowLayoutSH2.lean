/-
  The walk of impl.targetLine.
-/
import Derived.Test.YtaapababeecmeaaDoorJShowLayoutSH1
import Derived.Test.YtaapababeecmeaaDoorJShowLayoutIQ
import Derived.Test.YtaapababeecmeaaDoorJShowLayoutKP
import Derived.Test.YtaapababeecmeaaDoorJShowLayoutPX
import Derived.Deep.RegionHeld3
namespace Go.Proofs.YtaapababeecmeaaDoor
open Go.RowKit

/-- A condition that says more serves. -/
theorem wpAnyH_mono {P : Program} {md : Region.Mode} {ops : Array Oper} {Q : Exit → Act → World → Prop} {S S2 : World → Prop} (h : ∀ w, S2 w → S w) :
    ∀ (fuel : Nat) (listed : Array Bool) (a : Act) (w : World), wpAnyH P md ops Q S2 fuel listed a w → wpAnyH P md ops Q S fuel listed a w
  | 0, _, _, _, k => k
  | fuel + 1, _, _, _, k => ⟨k.1, fun i hi => wpOp_mono (fun a' w' h' => ⟨h w' h'.1, wpAnyH_mono h fuel _ a' w' h'.2⟩) (k.2 i hi)⟩

/-- What impl's word list holds at a target's kind. -/
def StW (w : World) : Prop := w.cell? ⟨0, 14, none⟩ = some (.string (byt [115, 116, 97, 116, 105, 111, 110])) ∧ w.cell? ⟨0, 15, none⟩ = some (.string (byt [99, 104, 97, 114, 103, 101, 114]))
theorem StW.below {w w' : World} (h : StW w) (hb : Below w.heap.size w w') : StW w' := ⟨cell_kept h.1 hb, cell_kept h.2 hb⟩

set_option maxHeartbeats 4000000 in
set_option maxRecDepth 1000000 in
theorem targetLine_station (s : ByteArray) (b off cap : Nat) (mi Xi : Int) (x y : Nat) (w : World) (hs : s.size ≤ 60) (hX : 1 ≤ Xi) (hmm : mi.tmod Xi = (x : Int)) (hdm : mi.tdiv Xi = (y : Int)) (hx1 : x < 40) (hy1 : y < 40)
    (hT : Lib.Utf8Tabs 4 5 w) (hdb : w.cell? ⟨7, 15, none⟩ = some (.int .u8 4)) (hwd : StW w)
    (hc : ∀ j, j < s.size → w.cell? ⟨b, off + j, none⟩ = some (bts s j)) :
    Calls Tryd.prog 47 #[.agg #[.slice (some ⟨b, off, none⟩) s.size cap, .int .i64 0, .int .i64 mi], .int .i64 Xi] w fun e w' => e = .returned (.string (byt ([115, 116, 97, 116, 105, 111, 110] ++ [32] ++ quoted s ++ [32] ++ decL x ++ [32] ++ decL y ++ [10]))) ∧ Below w.heap.size w w' := by
  have hwy : IntKind.i64.wrap (y : Int) = (y : Int) := by rw [IntKind.wrap_i64]; omega
  have hXz : ¬ Xi = 0 := by omega
  have hw14 : IntKind.i64.wrap 14 = 14 := by kernel_rfl
  have hw15 : IntKind.i64.wrap 15 = 15 := by kernel_rfl
  have hWne : (Xi == 0) = false := by rw [beq_eq_false_iff_ne]; omega
  have HRS : Hid (byt [115, 116, 97, 116, 105, 111, 110] ++ byt [32] ++ byt (quoted s) ++ byt [32] ++ byt (decL x) ++ byt [32] ++ byt (decL y) ++ byt [10] = byt ([115, 116, 97, 116, 105, 111, 110] ++ [32] ++ quoted s ++ [32] ++ decL x ++ [32] ++ decL y ++ [10])) := by
    show _ = _
    simp only [byt_append]
  rw [← HRS.out]
  have k0 : (byt [115, 116, 97, 116, 105, 111, 110]).size ≤ 100 := by rw [byt_size]; decide
  have k1 : (byt (quoted s)).size ≤ 400 := by rw [byt_size]; have := quoted_le s; omega
  have k2 : (byt (decL x)).size ≤ 2 := by rw [byt_size]; exact decL_le x
  have k3 : (byt (decL y)).size ≤ 2 := by rw [byt_size]; exact decL_le y
  clear HRS
  obtain ⟨W0, hW0⟩ : ∃ W, w.alloc (.cells #[.slice (some ⟨b, off, none⟩) s.size cap, .int .i64 0, .int .i64 mi] 50) = W := ⟨_, rfl⟩
  have hb0 : Below w.heap.size w W0 := by rw [← hW0]; exact (Below.refl _ _).alloc (Nat.le_refl _) _
  have hT0 : Blk W0 w.heap.size 50 #[.slice (some ⟨b, off, none⟩) s.size cap, .int .i64 0, .int .i64 mi] := by rw [← hW0]; exact Blk.new _ _ _
  have z0 := hT0.cell 0
  have z1 := hT0.cell 1
  have z2 := hT0.cell 2
  simp only [List.getElem?_toArray, List.getElem?_cons_succ, List.getElem?_cons_zero] at z0 z1 z2
  have z3 := cell_kept hwd.1 hb0
  have HQ := hide (fun W (hb : Below W0.heap.size W0 W) => implQuote_any b off cap s W (by omega) (Utf8Tabs_below hT (hb0.trans (hb.mono hb0.size))) (cell_kept hdb (hb0.trans (hb.mono hb0.size))) (fun j hj => cell_kept (hc j hj) (hb0.trans (hb.mono hb0.size))))
  have HX := hide (fun W => itoa_any x W hx1)
  have HY := hide (fun W => itoa_any y W hy1)
  have HB0 := hide hb0
  have HW := hide hW0
  have hmx : Tryd.prog.follows .mixedOrders = true := by kernel_rfl
  have HQL := hide (quoted_lo s)
  have HB1S : Hid (∀ {W : World} {B : Nat} {v : Value}, W.ownsRow B 5 1 v (quoted s).length (cv (quoted s)) → BS W v (byt (quoted s))) := fun h => own_bs h HQL.out
  obtain ⟨S0, h0⟩ : ∃ S, byt [115, 116, 97, 116, 105, 111, 110] = S := ⟨_, rfl⟩
  obtain ⟨S1, h1⟩ : ∃ S, byt (quoted s) = S := ⟨_, rfl⟩
  obtain ⟨S2, h2⟩ : ∃ S, byt (decL x) = S := ⟨_, rfl⟩
  obtain ⟨S3, h3⟩ : ∃ S, byt (decL y) = S := ⟨_, rfl⟩
  rw [h0] at k0 z3 ⊢
  rw [h1] at k1 HB1S ⊢
  rw [h2] at k2 HX ⊢
  rw [h3] at k3 HY ⊢
  have e1 : ¬ 9223372036854775807 < S0.size + 1 := by omega
  have e2 : ¬ 9223372036854775807 < S0.size + 1 + S1.size := by omega
  have e3 : ¬ 9223372036854775807 < S0.size + 1 + S1.size + 1 := by omega
  have e4 : ¬ 9223372036854775807 < S0.size + 1 + S1.size + 1 + S2.size := by omega
  have e5 : ¬ 9223372036854775807 < S0.size + 1 + S1.size + 1 + S2.size + 1 := by omega
  have e6 : ¬ 9223372036854775807 < S0.size + 1 + S1.size + 1 + S2.size + 1 + S3.size := by omega
  have e7 : ¬ 9223372036854775807 < S0.size + 1 + S1.size + 1 + S2.size + 1 + S3.size + 1 := by omega
  clear hb0 hW0 hT0 hT hdb hwd hc hx1 hy1 hs h0 h1 h2 h3 k0 k1 k2 k3
  go_enter Tryd.func47, Tryd.ntmps47
  go_wp2_with fail
  rw [HW.out]
  refine wp_region_held_drew (S := fun w' => Hid (Below W0.heap.size W0 w')) (by kernel_rfl) ((Below.refl _ _).drew) (fun hHeld => ?_)
  refine wpAnyH_take (i := 0) (oi := { dst := some 5, op := Op.fieldAddr 50 (Operand.tmp 2) 1, type := 0, pos := "l4_layout.go:424", after := #[], guard := none }) (v := .pointer (some ⟨w.heap.size, 1, none⟩)) rfl (by kernel_rfl) (by kernel_rfl) (by kernel_rfl) (fun _ _ _ h => h) (Or.inl ⟨by rfl, ?_⟩) hHeld ?_
  · intro W hSW
    clear hHeld hSW
    go_simp
  try simp only [Act.put, List.setIfInBounds_toArray, List.set_cons_zero, List.set_cons_succ]
  refine wpAnyH_take (i := 1) (oi := { dst := some 6, op := Op.load 3 (Operand.tmp 5), type := 3, pos := "l4_layout.go:424", after := #[{ on := 0, ground := Ground.data }], guard := none }) (v := .int .i64 0) rfl (by kernel_rfl) (by kernel_rfl) (by kernel_rfl) (fun _ _ _ h => h) (Or.inl ⟨by rfl, ?_⟩) hHeld ?_
  · intro W hSW
    have q := cell_kept z1 hSW.out
    clear hHeld hSW
    go_simp
  try simp only [Act.put, List.setIfInBounds_toArray, List.set_cons_zero, List.set_cons_succ]
  refine wpAnyH_take (i := 2) (oi := { dst := some 7, op := Op.binOp BinOp.add 3 (Operand.const (Value.int IntKind.i64 14)) (Operand.tmp 6) 3, type := 3, pos := "l4_layout.go:424", after := #[{ on := 1, ground := Ground.data }], guard := none }) (v := .int .i64 14) rfl (by kernel_rfl) (by kernel_rfl) (by kernel_rfl) (fun _ _ _ h => h) (Or.inl ⟨by rfl, ?_⟩) hHeld ?_
  · intro W hSW
    clear hHeld hSW
    go_simp
  try simp only [Act.put, List.setIfInBounds_toArray, List.set_cons_zero, List.set_cons_succ]
  refine wpAnyH_take (i := 3) (oi := { dst := some 8, op := Op.indexAddr 84 (Operand.global 0) (Operand.tmp 7), type := 0, pos := "l4_layout.go:424", after := #[{ on := 2, ground := Ground.data }], guard := none }) (v := .pointer (some ⟨0, 14, none⟩)) rfl (by kernel_rfl) (by kernel_rfl) (by kernel_rfl) (fun _ _ _ h => h) (Or.inl ⟨by rfl, ?_⟩) hHeld ?_
  · intro W hSW
    clear hHeld hSW
    go_simp
  try simp only [Act.put, List.setIfInBounds_toArray, List.set_cons_zero, List.set_cons_succ]
  refine wpAnyH_take (i := 4) (oi := { dst := some 9, op := Op.load 9 (Operand.tmp 8), type := 9, pos := "l4_layout.go:424", after := #[{ on := 3, ground := Ground.data }], guard := none }) (v := .string S0) rfl (by kernel_rfl) (by kernel_rfl) (by kernel_rfl) (fun _ _ _ h => h) (Or.inl ⟨by rfl, ?_⟩) hHeld ?_
  · intro W hSW
    have q := cell_kept z3 hSW.out
    clear hHeld hSW
    go_simp
  try simp only [Act.put, List.setIfInBounds_toArray, List.set_cons_zero, List.set_cons_succ]
  refine wpAnyH_take (i := 5) (oi := { dst := some 10, op := Op.binOp BinOp.add 9 (Operand.tmp 9) (Operand.const (Value.string { data := #[32] })) 9, type := 9, pos := "l4_layout.go:424", after := #[{ on := 4, ground := Ground.data }], guard := none }) (v := .string (S0 ++ ({ data := #[32] } : ByteArray))) rfl (by kernel_rfl) (by kernel_rfl) (by kernel_rfl) (fun _ _ _ h => h) (Or.inl ⟨by rfl, ?_⟩) hHeld ?_
  · intro W hSW
    clear hHeld hSW
    go_simp
  try simp only [Act.put, List.setIfInBounds_toArray, List.set_cons_zero, List.set_cons_succ]
  refine wpAnyH_take (i := 6) (oi := { dst := some 11, op := Op.fieldAddr 50 (Operand.tmp 2) 0, type := 0, pos := "l4_layout.go:424", after := #[], guard := none }) (v := .pointer (some ⟨w.heap.size, 0, none⟩)) rfl (by kernel_rfl) (by kernel_rfl) (by kernel_rfl) (fun _ _ _ h => h) (Or.inl ⟨by rfl, ?_⟩) hHeld ?_
  · intro W hSW
    clear hHeld hSW
    go_simp
  try simp only [Act.put, List.setIfInBounds_toArray, List.set_cons_zero, List.set_cons_succ]
  refine wpAnyH_take (i := 7) (oi := { dst := some 12, op := Op.load 39 (Operand.tmp 11), type := 39, pos := "l4_layout.go:424", after := #[{ on := 6, ground := Ground.data }], guard := none }) (v := .slice (some ⟨b, off, none⟩) s.size cap) rfl (by kernel_rfl) (by kernel_rfl) (by kernel_rfl) (fun _ _ _ h => h) (Or.inl ⟨by rfl, ?_⟩) hHeld ?_
  · intro W hSW
    have q := cell_kept z0 hSW.out
    clear hHeld hSW
    go_simp
  try simp only [Act.put, List.setIfInBounds_toArray, List.set_cons_zero, List.set_cons_succ]
  refine wpAnyH_take (i := 12) (oi := { dst := some 17, op := Op.fieldAddr 50 (Operand.tmp 2) 2, type := 0, pos := "l4_layout.go:424", after := #[], guard := none }) (v := .pointer (some ⟨w.heap.size, 2, none⟩)) rfl (by kernel_rfl) (by kernel_rfl) (by kernel_rfl) (fun _ _ _ h => h) (Or.inl ⟨by rfl, ?_⟩) hHeld ?_
  · intro W hSW
    clear hHeld hSW
    go_simp
  try simp only [Act.put, List.setIfInBounds_toArray, List.set_cons_zero, List.set_cons_succ]
  refine wpAnyH_take (i := 13) (oi := { dst := some 18, op := Op.load 3 (Operand.tmp 17), type := 3, pos := "l4_layout.go:424", after := #[{ on := 12, ground := Ground.data }], guard := none }) (v := .int .i64 mi) rfl (by kernel_rfl) (by kernel_rfl) (by kernel_rfl) (fun _ _ _ h => h) (Or.inl ⟨by rfl, ?_⟩) hHeld ?_
  · intro W hSW
    have q := cell_kept z2 hSW.out
    clear hHeld hSW
    go_simp
  try simp only [Act.put, List.setIfInBounds_toArray, List.set_cons_zero, List.set_cons_succ]
  refine wpAnyH_take (i := 14) (oi := { dst := some 19, op := Op.move (Operand.tmp 1), type := 3, pos := "l4_layout.go:424", after := #[], guard := none }) (v := .int .i64 Xi) rfl (by kernel_rfl) (by kernel_rfl) (by kernel_rfl) (fun _ _ _ h => h) (Or.inl ⟨by rfl, ?_⟩) hHeld ?_
  · intro W hSW
    clear hHeld hSW
    go_simp
  try simp only [Act.put, List.setIfInBounds_toArray, List.set_cons_zero, List.set_cons_succ]
  refine wpAnyH_take (i := 15) (oi := { dst := some 20, op := Op.binOp BinOp.rem 3 (Operand.tmp 18) (Operand.tmp 19) 3, type := 3, pos := "l4_layout.go:424", after := #[{ on := 13, ground := Ground.data }, { on := 14, ground := Ground.data }], guard := none }) (v := .int .i64 (x : Nat)) rfl (by kernel_rfl) (by kernel_rfl) (by kernel_rfl) (fun _ _ _ h => h) (Or.inl ⟨by rfl, ?_⟩) hHeld ?_
  · intro W hSW
    clear hHeld hSW
    go_simp
  try simp only [Act.put, List.setIfInBounds_toArray, List.set_cons_zero, List.set_cons_succ]
  refine wpAnyH_take (i := 19) (oi := { dst := some 24, op := Op.fieldAddr 50 (Operand.tmp 2) 2, type := 0, pos := "l4_layout.go:424", after := #[], guard := none }) (v := .pointer (some ⟨w.heap.size, 2, none⟩)) rfl (by kernel_rfl) (by kernel_rfl) (by kernel_rfl) (fun _ _ _ h => h) (Or.inl ⟨by rfl, ?_⟩) hHeld ?_
  · intro W hSW
    clear hHeld hSW
    go_simp
  try simp only [Act.put, List.setIfInBounds_toArray, List.set_cons_zero, List.set_cons_succ]
  refine wpAnyH_take (i := 20) (oi := { dst := some 25, op := Op.load 3 (Operand.tmp 24), type := 3, pos := "l4_layout.go:424", after := #[{ on := 19, ground := Ground.data }], guard := none }) (v := .int .i64 mi) rfl (by kernel_rfl) (by kernel_rfl) (by kernel_rfl) (fun _ _ _ h => h) (Or.inl ⟨by rfl, ?_⟩) hHeld ?_
  · intro W hSW
    have q := cell_kept z2 hSW.out
    clear hHeld hSW
    go_simp
  try simp only [Act.put, List.setIfInBounds_toArray, List.set_cons_zero, List.set_cons_succ]
  refine wpAnyH_take (i := 21) (oi := { dst := some 26, op := Op.move (Operand.tmp 1), type := 3, pos := "l4_layout.go:424", after := #[], guard := none }) (v := .int .i64 Xi) rfl (by kernel_rfl) (by kernel_rfl) (by kernel_rfl) (fun _ _ _ h => h) (Or.inl ⟨by rfl, ?_⟩) hHeld ?_
  · intro W hSW
    clear hHeld hSW
    go_simp
  try simp only [Act.put, List.setIfInBounds_toArray, List.set_cons_zero, List.set_cons_succ]
  refine wpAnyH_take (i := 22) (oi := { dst := some 27, op := Op.binOp BinOp.quo 3 (Operand.tmp 25) (Operand.tmp 26) 3, type := 3, pos := "l4_layout.go:424", after := #[{ on := 20, ground := Ground.data }, { on := 21, ground := Ground.data }], guard := none }) (v := .int .i64 (y : Nat)) rfl (by kernel_rfl) (by kernel_rfl) (by kernel_rfl) (fun _ _ _ h => h) (Or.inl ⟨by rfl, ?_⟩) hHeld ?_
  · intro W hSW
    clear hHeld hSW
    go_simp
  try simp only [Act.put, List.setIfInBounds_toArray, List.set_cons_zero, List.set_cons_succ]
  refine wpAnyH_ready (rs := [8]) (by kernel_rfl) (by simp) ?_
  refine AllReadyH.cons (o := { dst := some 13, op := Op.call { callee := Callee.value (Operand.func 58), args := #[Operand.tmp 12], argTypes := #[39] }, type := 39, pos := "l4_layout.go:424", after := #[{ on := 7, ground := Ground.data }], guard := none }) rfl (fun K hK => ?_) AllReadyH.nil
  go_simp
  go_at_call 58
  refine (HQ.out _ ((Below.refl _ _).drew)).mono ?_
  rintro e w1 ⟨v1, rfl, ho1, hb1⟩
  have HB1 : Hid (Below W0.heap.size W0 w1) := (Below.refl _ _).drew.trans hb1
  have HS1 := hide (HB1S.out ho1)
  clear hb1 ho1
  go_wp2_with fail
  refine hK.out _ _ ?_ (fun hHeld => ?_)
  · exact HB1.out
  clear hK K
  try simp only [Act.put, List.setIfInBounds_toArray, List.set_cons_zero, List.set_cons_succ]
  refine wpAnyH_mono (S2 := fun w' => Hid (Below w1.heap.size w1 w')) (fun w' h => HB1.out.trans (h.out.mono HB1.out.size)) _ _ _ _ ?_
  clear hHeld
  have hHeld : Hid (Below w1.heap.size w1 w1) := Below.refl _ _
  refine wpAnyH_take (i := 9) (oi := { dst := some 14, op := Op.convert 39 9 (Operand.tmp 13), type := 9, pos := "l4_layout.go:424", after := #[{ on := 8, ground := Ground.data }], guard := none }) (v := .string S1) rfl (by kernel_rfl) (by kernel_rfl) (by kernel_rfl) (fun _ _ _ h => h) (Or.inl ⟨by rfl, ?_⟩) hHeld ?_
  · intro W hSW
    have q := toStr_bs (HS1.out.below hSW.out)
    clear hHeld hSW
    go_simp
  try simp only [Act.put, List.setIfInBounds_toArray, List.set_cons_zero, List.set_cons_succ]
  refine wpAnyH_take (i := 10) (oi := { dst := some 15, op := Op.binOp BinOp.add 9 (Operand.tmp 10) (Operand.tmp 14) 9, type := 9, pos := "l4_layout.go:424", after := #[{ on := 5, ground := Ground.data }, { on := 9, ground := Ground.data }], guard := none }) (v := .string (S0 ++ ({ data := #[32] } : ByteArray) ++ S1)) rfl (by kernel_rfl) (by kernel_rfl) (by kernel_rfl) (fun _ _ _ h => h) (Or.inl ⟨by rfl, ?_⟩) hHeld ?_
  · intro W hSW
    clear hHeld hSW
    go_simp
  try simp only [Act.put, List.setIfInBounds_toArray, List.set_cons_zero, List.set_cons_succ]
  refine wpAnyH_take (i := 11) (oi := { dst := some 16, op := Op.binOp BinOp.add 9 (Operand.tmp 15) (Operand.const (Value.string { data := #[32] })) 9, type := 9, pos := "l4_layout.go:424", after := #[{ on := 10, ground := Ground.data }], guard := none }) (v := .string (S0 ++ ({ data := #[32] } : ByteArray) ++ S1 ++ ({ data := #[32] } : ByteArray))) rfl (by kernel_rfl) (by kernel_rfl) (by kernel_rfl) (fun _ _ _ h => h) (Or.inl ⟨by rfl, ?_⟩) hHeld ?_
  · intro W hSW
    clear hHeld hSW
    go_simp
  try simp only [Act.put, List.setIfInBounds_toArray, List.set_cons_zero, List.set_cons_succ]
  refine wpAnyH_ready (rs := [16]) (by kernel_rfl) (by simp) ?_
  refine AllReadyH.cons (o := { dst := some 21, op := Op.call { callee := Callee.value (Operand.func 59), args := #[Operand.tmp 20], argTypes := #[3] }, type := 9, pos := "l4_layout.go:425", after := #[{ on := 15, ground := Ground.data }, { on := 8, ground := Ground.chain }], guard := none }) rfl (fun K hK => ?_) AllReadyH.nil
  go_simp
  go_at_call 59
  refine (HX.out _).mono ?_
  rintro e w2 ⟨rfl, hb2⟩
  have HB2 : Hid (Below w1.heap.size w1 w2) := hHeld.out.trans (hb2.mono hHeld.out.size)
  clear hb2 hHeld
  go_wp2_with fail
  refine hK.out _ _ ?_ (fun hHeld => ?_)
  · exact HB2.out
  clear hK K
  try simp only [Act.put, List.setIfInBounds_toArray, List.set_cons_zero, List.set_cons_succ]
  refine wpAnyH_take (i := 17) (oi := { dst := some 22, op := Op.binOp BinOp.add 9 (Operand.tmp 16) (Operand.tmp 21) 9, type := 9, pos := "l4_layout.go:424", after := #[{ on := 11, ground := Ground.data }, { on := 16, ground := Ground.data }], guard := none }) (v := .string (S0 ++ ({ data := #[32] } : ByteArray) ++ S1 ++ ({ data := #[32] } : ByteArray) ++ S2)) rfl (by kernel_rfl) (by kernel_rfl) (by kernel_rfl) (fun _ _ _ h => h) (Or.inl ⟨by rfl, ?_⟩) hHeld ?_
  · intro W hSW
    clear hHeld hSW
    go_simp
  try simp only [Act.put, List.setIfInBounds_toArray, List.set_cons_zero, List.set_cons_succ]
  refine wpAnyH_take (i := 18) (oi := { dst := some 23, op := Op.binOp BinOp.add 9 (Operand.tmp 22) (Operand.const (Value.string { data := #[32] })) 9, type := 9, pos := "l4_layout.go:424", after := #[{ on := 17, ground := Ground.data }], guard := none }) (v := .string (S0 ++ ({ data := #[32] } : ByteArray) ++ S1 ++ ({ data := #[32] } : ByteArray) ++ S2 ++ ({ data := #[32] } : ByteArray))) rfl (by kernel_rfl) (by kernel_rfl) (by kernel_rfl) (fun _ _ _ h => h) (Or.inl ⟨by rfl, ?_⟩) hHeld ?_
  · intro W hSW
    clear hHeld hSW
    go_simp
  try simp only [Act.put, List.setIfInBounds_toArray, List.set_cons_zero, List.set_cons_succ]
  refine wpAnyH_ready (rs := [23]) (by kernel_rfl) (by simp) ?_
  refine AllReadyH.cons (o := { dst := some 28, op := Op.call { callee := Callee.value (Operand.func 59), args := #[Operand.tmp 27], argTypes := #[3] }, type := 9, pos := "l4_layout.go:425", after := #[{ on := 22, ground := Ground.data }, { on := 16, ground := Ground.chain }], guard := none }) rfl (fun K hK => ?_) AllReadyH.nil
  go_simp
  go_at_call 59
  refine (HY.out _).mono ?_
  rintro e w2 ⟨rfl, hb2⟩
  have HB2 : Hid (Below w1.heap.size w1 w2) := hHeld.out.trans (hb2.mono hHeld.out.size)
  clear hb2 hHeld
  go_wp2_with fail
  refine hK.out _ _ ?_ (fun hHeld => ?_)
  · exact HB2.out
  clear hK K
  try simp only [Act.put, List.setIfInBounds_toArray, List.set_cons_zero, List.set_cons_succ]
  refine wpAnyH_take (i := 24) (oi := { dst := some 29, op := Op.binOp BinOp.add 9 (Operand.tmp 23) (Operand.tmp 28) 9, type := 9, pos := "l4_layout.go:424", after := #[{ on := 18, ground := Ground.data }, { on := 23, ground := Ground.data }], guard := none }) (v := .string (S0 ++ ({ data := #[32] } : ByteArray) ++ S1 ++ ({ data := #[32] } : ByteArray) ++ S2 ++ ({ data := #[32] } : ByteArray) ++ S3)) rfl (by kernel_rfl) (by kernel_rfl) (by kernel_rfl) (fun _ _ _ h => h) (Or.inl ⟨by rfl, ?_⟩) hHeld ?_
  · intro W hSW
    clear hHeld hSW
    go_simp
  try simp only [Act.put, List.setIfInBounds_toArray, List.set_cons_zero, List.set_cons_succ]
  refine wpAnyH_take (i := 25) (oi := { dst := some 30, op := Op.binOp BinOp.add 9 (Operand.tmp 29) (Operand.const (Value.string { data := #[10] })) 9, type := 9, pos := "l4_layout.go:424", after := #[{ on := 24, ground := Ground.data }], guard := none }) (v := .string (S0 ++ ({ data := #[32] } : ByteArray) ++ S1 ++ ({ data := #[32] } : ByteArray) ++ S2 ++ ({ data := #[32] } : ByteArray) ++ S3 ++ ({ data := #[10] } : ByteArray))) rfl (by kernel_rfl) (by kernel_rfl) (by kernel_rfl) (fun _ _ _ h => h) (Or.inl ⟨by rfl, ?_⟩) hHeld ?_
  · intro W hSW
    clear hHeld hSW
    go_simp
  try simp only [Act.put, List.setIfInBounds_toArray, List.set_cons_zero, List.set_cons_succ]
  refine wpAnyH_take (i := 26) (oi := { dst := some 4, op := Op.assign (Operand.tmp 30), type := 9, pos := "l4_layout.go:424", after := #[{ on := 25, ground := Ground.data }, { on := 23, ground := Ground.chain }, { on := 0, ground := Ground.phase }, { on := 1, ground := Ground.phase }, { on := 2, ground := Ground.phase }, { on := 3, ground := Ground.phase }, { on := 4, ground := Ground.phase }, { on := 5, ground := Ground.phase }, { on := 6, ground := Ground.phase }, { on := 7, ground := Ground.phase }, { on := 8, ground := Ground.phase }, { on := 9, ground := Ground.phase }, { on := 10, ground := Ground.phase }, { on := 11, ground := Ground.phase }, { on := 12, ground := Ground.phase }, { on := 13, ground := Ground.phase }, { on := 14, ground := Ground.phase }, { on := 15, ground := Ground.phase }, { on := 16, ground := Ground.phase }, { on := 17, ground := Ground.phase }, { on := 18, ground := Ground.phase }, { on := 19, ground := Ground.phase }, { on := 20, ground := Ground.phase }, { on := 21, ground := Ground.phase }, { on := 22, ground := Ground.phase }, { on := 23, ground := Ground.phase }, { on := 24, ground := Ground.phase }, { on := 25, ground := Ground.phase }], guard := none }) (v := .string (S0 ++ ({ data := #[32] } : ByteArray) ++ S1 ++ ({ data := #[32] } : ByteArray) ++ S2 ++ ({ data := #[32] } : ByteArray) ++ S3 ++ ({ data := #[10] } : ByteArray))) rfl (by kernel_rfl) (by kernel_rfl) (by kernel_rfl) (fun _ _ _ h => h) (Or.inl ⟨by rfl, ?_⟩) hHeld ?_
  · intro W hSW
    clear hHeld hSW
    go_simp
  try simp only [Act.put, List.setIfInBounds_toArray, List.set_cons_zero, List.set_cons_succ]
  refine wpAnyH_done (by kernel_rfl) ?_ _
  go_wp2
  go_ret
  exact ⟨rfl, HB0.out.trans ((HB1.out.trans (hHeld.out.mono HB1.out.size)).mono HB0.out.size)⟩
set_option maxHeartbeats 4000000 in
set_option maxRecDepth 1000000 in
theorem targetLine_charger (s : ByteArray) (b off cap : Nat) (mi Xi : Int) (x y : Nat) (w : World) (hs : s.size ≤ 60) (hX : 1 ≤ Xi) (hmm : mi.tmod Xi = (x : Int)) (hdm : mi.tdiv Xi = (y : Int)) (hx1 : x < 40) (hy1 : y < 40)
    (hT : Lib.Utf8Tabs 4 5 w) (hdb : w.cell? ⟨7, 15, none⟩ = some (.int .u8 4)) (hwd : StW w)
    (hc : ∀ j, j < s.size → w.cell? ⟨b, off + j, none⟩ = some (bts s j)) :
    Calls Tryd.prog 47 #[.agg #[.slice (some ⟨b, off, none⟩) s.size cap, .int .i64 1, .int .i64 mi], .int .i64 Xi] w fun e w' => e = .returned (.string (byt ([99, 104, 97, 114, 103, 101, 114] ++ [32] ++ quoted s ++ [32] ++ decL x ++ [32] ++ decL y ++ [10]))) ∧ Below w.heap.size w w' := by
  have hwy : IntKind.i64.wrap (y : Int) = (y : Int) := by rw [IntKind.wrap_i64]; omega
  have hXz : ¬ Xi = 0 := by omega
  have hw14 : IntKind.i64.wrap 14 = 14 := by kernel_rfl
  have hw15 : IntKind.i64.wrap 15 = 15 := by kernel_rfl
  have hWne : (Xi == 0) = false := by rw [beq_eq_false_iff_ne]; omega
  have HRS : Hid (byt [99, 104, 97, 114, 103, 101, 114] ++ byt [32] ++ byt (quoted s) ++ byt [32] ++ byt (decL x) ++ byt [32] ++ byt (decL y) ++ byt [10] = byt ([99, 104, 97, 114, 103, 101, 114] ++ [32] ++ quoted s ++ [32] ++ decL x ++ [32] ++ decL y ++ [10])) := by
    show _ = _
    simp only [byt_append]
  rw [← HRS.out]
  have k0 : (byt [99, 104, 97, 114, 103, 101, 114]).size ≤ 100 := by rw [byt_size]; decide
  have k1 : (byt (quoted s)).size ≤ 400 := by rw [byt_size]; have := quoted_le s; omega
  have k2 : (byt (decL x)).size ≤ 2 := by rw [byt_size]; exact decL_le x
  have k3 : (byt (decL y)).size ≤ 2 := by rw [byt_size]; exact decL_le y
  clear HRS
  obtain ⟨W0, hW0⟩ : ∃ W, w.alloc (.cells #[.slice (some ⟨b, off, none⟩) s.size cap, .int .i64 1, .int .i64 mi] 50) = W := ⟨_, rfl⟩
  have hb0 : Below w.heap.size w W0 := by rw [← hW0]; exact (Below.refl _ _).alloc (Nat.le_refl _) _
  have hT0 : Blk W0 w.heap.size 50 #[.slice (some ⟨b, off, none⟩) s.size cap, .int .i64 1, .int .i64 mi] := by rw [← hW0]; exact Blk.new _ _ _
  have z0 := hT0.cell 0
  have z1 := hT0.cell 1
  have z2 := hT0.cell 2
  simp only [List.getElem?_toArray, List.getElem?_cons_succ, List.getElem?_cons_zero] at z0 z1 z2
  have z3 := cell_kept hwd.2 hb0
  have HQ := hide (fun W (hb : Below W0.heap.size W0 W) => implQuote_any b off cap s W (by omega) (Utf8Tabs_below hT (hb0.trans (hb.mono hb0.size))) (cell_kept hdb (hb0.trans (hb.mono hb0.size))) (fun j hj => cell_kept (hc j hj) (hb0.trans (hb.mono hb0.size))))
  have HX := hide (fun W => itoa_any x W hx1)
  have HY := hide (fun W => itoa_any y W hy1)
  have HB0 := hide hb0
  have HW := hide hW0
  have hmx : Tryd.prog.follows .mixedOrders = true := by kernel_rfl
  have HQL := hide (quoted_lo s)
  have HB1S : Hid (∀ {W : World} {B : Nat} {v : Value}, W.ownsRow B 5 1 v (quoted s).length (cv (quoted s)) → BS W v (byt (quoted s))) := fun h => own_bs h HQL.out
  obtain ⟨S0, h0⟩ : ∃ S, byt [99, 104, 97, 114, 103, 101, 114] = S := ⟨_, rfl⟩
  obtain ⟨S1, h1⟩ : ∃ S, byt (quoted s) = S := ⟨_, rfl⟩
  obtain ⟨S2, h2⟩ : ∃ S, byt (decL x) = S := ⟨_, rfl⟩
  obtain ⟨S3, h3⟩ : ∃ S, byt (decL y) = S := ⟨_, rfl⟩
  rw [h0] at k0 z3 ⊢
  rw [h1] at k1 HB1S ⊢
  rw [h2] at k2 HX ⊢
  rw [h3] at k3 HY ⊢
  have e1 : ¬ 9223372036854775807 < S0.size + 1 := by omega
  have e2 : ¬ 9223372036854775807 < S0.size + 1 + S1.size := by omega
  have e3 : ¬ 9223372036854775807 < S0.size + 1 + S1.size + 1 := by omega
  have e4 : ¬ 9223372036854775807 < S0.size + 1 + S1.size + 1 + S2.size := by omega
  have e5 : ¬ 9223372036854775807 < S0.size + 1 + S1.size + 1 + S2.size + 1 := by omega
  have e6 : ¬ 9223372036854775807 < S0.size + 1 + S1.size + 1 + S2.size + 1 + S3.size := by omega
  have e7 : ¬ 9223372036854775807 < S0.size + 1 + S1.size + 1 + S2.size + 1 + S3.size + 1 := by omega
  clear hb0 hW0 hT0 hT hdb hwd hc hx1 hy1 hs h0 h1 h2 h3 k0 k1 k2 k3
  go_enter Tryd.func47, Tryd.ntmps47
  go_wp2_with fail
  rw [HW.out]
  refine wp_region_held_drew (S := fun w' => Hid (Below W0.heap.size W0 w')) (by kernel_rfl) ((Below.refl _ _).drew) (fun hHeld => ?_)
  refine wpAnyH_take (i := 0) (oi := { dst := some 5, op := Op.fieldAddr 50 (Operand.tmp 2) 1, type := 0, pos := "l4_layout.go:424", after := #[], guard := none }) (v := .pointer (some ⟨w.heap.size, 1, none⟩)) rfl (by kernel_rfl) (by kernel_rfl) (by kernel_rfl) (fun _ _ _ h => h) (Or.inl ⟨by rfl, ?_⟩) hHeld ?_
  · intro W hSW
    clear hHeld hSW
    go_simp
  try simp only [Act.put, List.setIfInBounds_toArray, List.set_cons_zero, List.set_cons_succ]
  refine wpAnyH_take (i := 1) (oi := { dst := some 6, op := Op.load 3 (Operand.tmp 5), type := 3, pos := "l4_layout.go:424", after := #[{ on := 0, ground := Ground.data }], guard := none }) (v := .int .i64 1) rfl (by kernel_rfl) (by kernel_rfl) (by kernel_rfl) (fun _ _ _ h => h) (Or.inl ⟨by rfl, ?_⟩) hHeld ?_
  · intro W hSW
    have q := cell_kept z1 hSW.out
    clear hHeld hSW
    go_simp
  try simp only [Act.put, List.setIfInBounds_toArray, List.set_cons_zero, List.set_cons_succ]
  refine wpAnyH_take (i := 2) (oi := { dst := some 7, op := Op.binOp BinOp.add 3 (Operand.const (Value.int IntKind.i64 14)) (Operand.tmp 6) 3, type := 3, pos := "l4_layout.go:424", after := #[{ on := 1, ground := Ground.data }], guard := none }) (v := .int .i64 15) rfl (by kernel_rfl) (by kernel_rfl) (by kernel_rfl) (fun _ _ _ h => h) (Or.inl ⟨by rfl, ?_⟩) hHeld ?_
  · intro W hSW
    clear hHeld hSW
    go_simp
  try simp only [Act.put, List.setIfInBounds_toArray, List.set_cons_zero, List.set_cons_succ]
  refine wpAnyH_take (i := 3) (oi := { dst := some 8, op := Op.indexAddr 84 (Operand.global 0) (Operand.tmp 7), type := 0, pos := "l4_layout.go:424", after := #[{ on := 2, ground := Ground.data }], guard := none }) (v := .pointer (some ⟨0, 15, none⟩)) rfl (by kernel_rfl) (by kernel_rfl) (by kernel_rfl) (fun _ _ _ h => h) (Or.inl ⟨by rfl, ?_⟩) hHeld ?_
  · intro W hSW
    clear hHeld hSW
    go_simp
  try simp only [Act.put, List.setIfInBounds_toArray, List.set_cons_zero, List.set_cons_succ]
  refine wpAnyH_take (i := 4) (oi := { dst := some 9, op := Op.load 9 (Operand.tmp 8), type := 9, pos := "l4_layout.go:424", after := #[{ on := 3, ground := Ground.data }], guard := none }) (v := .string S0) rfl (by kernel_rfl) (by kernel_rfl) (by kernel_rfl) (fun _ _ _ h => h) (Or.inl ⟨by rfl, ?_⟩) hHeld ?_
  · intro W hSW
    have q := cell_kept z3 hSW.out
    clear hHeld hSW
    go_simp
  try simp only [Act.put, List.setIfInBounds_toArray, List.set_cons_zero, List.set_cons_succ]
  refine wpAnyH_take (i := 5) (oi := { dst := some 10, op := Op.binOp BinOp.add 9 (Operand.tmp 9) (Operand.const (Value.string { data := #[32] })) 9, type := 9, pos := "l4_layout.go:424", after := #[{ on := 4, ground := Ground.data }], guard := none }) (v := .string (S0 ++ ({ data := #[32] } : ByteArray))) rfl (by kernel_rfl) (by kernel_rfl) (by kernel_rfl) (fun _ _ _ h => h) (Or.inl ⟨by rfl, ?_⟩) hHeld ?_
  · intro W hSW
    clear hHeld hSW
    go_simp
  try simp only [Act.put, List.setIfInBounds_toArray, List.set_cons_zero, List.set_cons_succ]
  refine wpAnyH_take (i := 6) (oi := { dst := some 11, op := Op.fieldAddr 50 (Operand.tmp 2) 0, type := 0, pos := "l4_layout.go:424", after := #[], guard := none }) (v := .pointer (some ⟨w.heap.size, 0, none⟩)) rfl (by kernel_rfl) (by kernel_rfl) (by kernel_rfl) (fun _ _ _ h => h) (Or.inl ⟨by rfl, ?_⟩) hHeld ?_
  · intro W hSW
    clear hHeld hSW
    go_simp
  try simp only [Act.put, List.setIfInBounds_toArray, List.set_cons_zero, List.set_cons_succ]
  refine wpAnyH_take (i := 7) (oi := { dst := some 12, op := Op.load 39 (Operand.tmp 11), type := 39, pos := "l4_layout.go:424", after := #[{ on := 6, ground := Ground.data }], guard := none }) (v := .slice (some ⟨b, off, none⟩) s.size cap) rfl (by kernel_rfl) (by kernel_rfl) (by kernel_rfl) (fun _ _ _ h => h) (Or.inl ⟨by rfl, ?_⟩) hHeld ?_
  · intro W hSW
    have q := cell_kept z0 hSW.out
    clear hHeld hSW
    go_simp
  try simp only [Act.put, List.setIfInBounds_toArray, List.set_cons_zero, List.set_cons_succ]
  refine wpAnyH_take (i := 12) (oi := { dst := some 17, op := Op.fieldAddr 50 (Operand.tmp 2) 2, type := 0, pos := "l4_layout.go:424", after := #[], guard := none }) (v := .pointer (some ⟨w.heap.size, 2, none⟩)) rfl (by kernel_rfl) (by kernel_rfl) (by kernel_rfl) (fun _ _ _ h => h) (Or.inl ⟨by rfl, ?_⟩) hHeld ?_
  · intro W hSW
    clear hHeld hSW
    go_simp
  try simp only [Act.put, List.setIfInBounds_toArray, List.set_cons_zero, List.set_cons_succ]
  refine wpAnyH_take (i := 13) (oi := { dst := some 18, op := Op.load 3 (Operand.tmp 17), type := 3, pos := "l4_layout.go:424", after := #[{ on := 12, ground := Ground.data }], guard := none }) (v := .int .i64 mi) rfl (by kernel_rfl) (by kernel_rfl) (by kernel_rfl) (fun _ _ _ h => h) (Or.inl ⟨by rfl, ?_⟩) hHeld ?_
  · intro W hSW
    have q := cell_kept z2 hSW.out
    clear hHeld hSW
    go_simp
  try simp only [Act.put, List.setIfInBounds_toArray, List.set_cons_zero, List.set_cons_succ]
  refine wpAnyH_take (i := 14) (oi := { dst := some 19, op := Op.move (Operand.tmp 1), type := 3, pos := "l4_layout.go:424", after := #[], guard := none }) (v := .int .i64 Xi) rfl (by kernel_rfl) (by kernel_rfl) (by kernel_rfl) (fun _ _ _ h => h) (Or.inl ⟨by rfl, ?_⟩) hHeld ?_
  · intro W hSW
    clear hHeld hSW
    go_simp
  try simp only [Act.put, List.setIfInBounds_toArray, List.set_cons_zero, List.set_cons_succ]
  refine wpAnyH_take (i := 15) (oi := { dst := some 20, op := Op.binOp BinOp.rem 3 (Operand.tmp 18) (Operand.tmp 19) 3, type := 3, pos := "l4_layout.go:424", after := #[{ on := 13, ground := Ground.data }, { on := 14, ground := Ground.data }], guard := none }) (v := .int .i64 (x : Nat)) rfl (by kernel_rfl) (by kernel_rfl) (by kernel_rfl) (fun _ _ _ h => h) (Or.inl ⟨by rfl, ?_⟩) hHeld ?_
  · intro W hSW
    clear hHeld hSW
    go_simp
  try simp only [Act.put, List.setIfInBounds_toArray, List.set_cons_zero, List.set_cons_succ]
  refine wpAnyH_take (i := 19) (oi := { dst := some 24, op := Op.fieldAddr 50 (Operand.tmp 2) 2, type := 0, pos := "l4_layout.go:424", after := #[], guard := none }) (v := .pointer (some ⟨w.heap.size, 2, none⟩)) rfl (by kernel_rfl) (by kernel_rfl) (by kernel_rfl) (fun _ _ _ h => h) (Or.inl ⟨by rfl, ?_⟩) hHeld ?_
  · intro W hSW
    clear hHeld hSW
    go_simp
  try simp only [Act.put, List.setIfInBounds_toArray, List.set_cons_zero, List.set_cons_succ]
  refine wpAnyH_take (i := 20) (oi := { dst := some 25, op := Op.load 3 (Operand.tmp 24), type := 3, pos := "l4_layout.go:424", after := #[{ on := 19, ground := Ground.data }], guard := none }) (v := .int .i64 mi) rfl (by kernel_rfl) (by kernel_rfl) (by kernel_rfl) (fun _ _ _ h => h) (Or.inl ⟨by rfl, ?_⟩) hHeld ?_
  · intro W hSW
    have q := cell_kept z2 hSW.out
    clear hHeld hSW
    go_simp
  try simp only [Act.put, List.setIfInBounds_toArray, List.set_cons_zero, List.set_cons_succ]
  refine wpAnyH_take (i := 21) (oi := { dst := some 26, op := Op.move (Operand.tmp 1), type := 3, pos := "l4_layout.go:424", after := #[], guard := none }) (v := .int .i64 Xi) rfl (by kernel_rfl) (by kernel_rfl) (by kernel_rfl) (fun _ _ _ h => h) (Or.inl ⟨by rfl, ?_⟩) hHeld ?_
  · intro W hSW
    clear hHeld hSW
    go_simp
  try simp only [Act.put, List.setIfInBounds_toArray, List.set_cons_zero, List.set_cons_succ]
  refine wpAnyH_take (i := 22) (oi := { dst := some 27, op := Op.binOp BinOp.quo 3 (Operand.tmp 25) (Operand.tmp 26) 3, type := 3, pos := "l4_layout.go:424", after := #[{ on := 20, ground := Ground.data }, { on := 21, ground := Ground.data }], guard := none }) (v := .int .i64 (y : Nat)) rfl (by kernel_rfl) (by kernel_rfl) (by kernel_rfl) (fun _ _ _ h => h) (Or.inl ⟨by rfl, ?_⟩) hHeld ?_
  · intro W hSW
    clear hHeld hSW
    go_simp
  try simp only [Act.put, List.setIfInBounds_toArray, List.set_cons_zero, List.set_cons_succ]
  refine wpAnyH_ready (rs := [8]) (by kernel_rfl) (by simp) ?_
  refine AllReadyH.cons (o := { dst := some 13, op := Op.call { callee := Callee.value (Operand.func 58), args := #[Operand.tmp 12], argTypes := #[39] }, type := 39, pos := "l4_layout.go:424", after := #[{ on := 7, ground := Ground.data }], guard := none }) rfl (fun K hK => ?_) AllReadyH.nil
  go_simp
  go_at_call 58
  refine (HQ.out _ ((Below.refl _ _).drew)).mono ?_
  rintro e w1 ⟨v1, rfl, ho1, hb1⟩
  have HB1 : Hid (Below W0.heap.size W0 w1) := (Below.refl _ _).drew.trans hb1
  have HS1 := hide (HB1S.out ho1)
  clear hb1 ho1
  go_wp2_with fail
  refine hK.out _ _ ?_ (fun hHeld => ?_)
  · exact HB1.out
  clear hK K
  try simp only [Act.put, List.setIfInBounds_toArray, List.set_cons_zero, List.set_cons_succ]
  refine wpAnyH_mono (S2 := fun w' => Hid (Below w1.heap.size w1 w')) (fun w' h => HB1.out.trans (h.out.mono HB1.out.size)) _ _ _ _ ?_
  clear hHeld
  have hHeld : Hid (Below w1.heap.size w1 w1) := Below.refl _ _
  refine wpAnyH_take (i := 9) (oi := { dst := some 14, op := Op.convert 39 9 (Operand.tmp 13), type := 9, pos := "l4_layout.go:424", after := #[{ on := 8, ground := Ground.data }], guard := none }) (v := .string S1) rfl (by kernel_rfl) (by kernel_rfl) (by kernel_rfl) (fun _ _ _ h => h) (Or.inl ⟨by rfl, ?_⟩) hHeld ?_
  · intro W hSW
    have q := toStr_bs (HS1.out.below hSW.out)
    clear hHeld hSW
    go_simp
  try simp only [Act.put, List.setIfInBounds_toArray, List.set_cons_zero, List.set_cons_succ]
  refine wpAnyH_take (i := 10) (oi := { dst := some 15, op := Op.binOp BinOp.add 9 (Operand.tmp 10) (Operand.tmp 14) 9, type := 9, pos := "l4_layout.go:424", after := #[{ on := 5, ground := Ground.data }, { on := 9, ground := Ground.data }], guard := none }) (v := .string (S0 ++ ({ data := #[32] } : ByteArray) ++ S1)) rfl (by kernel_rfl) (by kernel_rfl) (by kernel_rfl) (fun _ _ _ h => h) (Or.inl ⟨by rfl, ?_⟩) hHeld ?_
  · intro W hSW
    clear hHeld hSW
    go_simp
  try simp only [Act.put, List.setIfInBounds_toArray, List.set_cons_zero, List.set_cons_succ]
  refine wpAnyH_take (i := 11) (oi := { dst := some 16, op := Op.binOp BinOp.add 9 (Operand.tmp 15) (Operand.const (Value.string { data := #[32] })) 9, type := 9, pos := "l4_layout.go:424", after := #[{ on := 10, ground := Ground.data }], guard := none }) (v := .string (S0 ++ ({ data := #[32] } : ByteArray) ++ S1 ++ ({ data := #[32] } : ByteArray))) rfl (by kernel_rfl) (by kernel_rfl) (by kernel_rfl) (fun _ _ _ h => h) (Or.inl ⟨by rfl, ?_⟩) hHeld ?_
  · intro W hSW
    clear hHeld hSW
    go_simp
  try simp only [Act.put, List.setIfInBounds_toArray, List.set_cons_zero, List.set_cons_succ]
  refine wpAnyH_ready (rs := [16]) (by kernel_rfl) (by simp) ?_
  refine AllReadyH.cons (o := { dst := some 21, op := Op.call { callee := Callee.value (Operand.func 59), args := #[Operand.tmp 20], argTypes := #[3] }, type := 9, pos := "l4_layout.go:425", after := #[{ on := 15, ground := Ground.data }, { on := 8, ground := Ground.chain }], guard := none }) rfl (fun K hK => ?_) AllReadyH.nil
  go_simp
  go_at_call 59
  refine (HX.out _).mono ?_
  rintro e w2 ⟨rfl, hb2⟩
  have HB2 : Hid (Below w1.heap.size w1 w2) := hHeld.out.trans (hb2.mono hHeld.out.size)
  clear hb2 hHeld
  go_wp2_with fail
  refine hK.out _ _ ?_ (fun hHeld => ?_)
  · exact HB2.out
  clear hK K
  try simp only [Act.put, List.setIfInBounds_toArray, List.set_cons_zero, List.set_cons_succ]
  refine wpAnyH_take (i := 17) (oi := { dst := some 22, op := Op.binOp BinOp.add 9 (Operand.tmp 16) (Operand.tmp 21) 9, type := 9, pos := "l4_layout.go:424", after := #[{ on := 11, ground := Ground.data }, { on := 16, ground := Ground.data }], guard := none }) (v := .string (S0 ++ ({ data := #[32] } : ByteArray) ++ S1 ++ ({ data := #[32] } : ByteArray) ++ S2)) rfl (by kernel_rfl) (by kernel_rfl) (by kernel_rfl) (fun _ _ _ h => h) (Or.inl ⟨by rfl, ?_⟩) hHeld ?_
  · intro W hSW
    clear hHeld hSW
    go_simp
  try simp only [Act.put, List.setIfInBounds_toArray, List.set_cons_zero, List.set_cons_succ]
  refine wpAnyH_take (i := 18) (oi := { dst := some 23, op := Op.binOp BinOp.add 9 (Operand.tmp 22) (Operand.const (Value.string { data := #[32] })) 9, type := 9, pos := "l4_layout.go:424", after := #[{ on := 17, ground := Ground.data }], guard := none }) (v := .string (S0 ++ ({ data := #[32] } : ByteArray) ++ S1 ++ ({ data := #[32] } : ByteArray) ++ S2 ++ ({ data := #[32] } : ByteArray))) rfl (by kernel_rfl) (by kernel_rfl) (by kernel_rfl) (fun _ _ _ h => h) (Or.inl ⟨by rfl, ?_⟩) hHeld ?_
  · intro W hSW
    clear hHeld hSW
    go_simp
  try simp only [Act.put, List.setIfInBounds_toArray, List.set_cons_zero, List.set_cons_succ]
  refine wpAnyH_ready (rs := [23]) (by kernel_rfl) (by simp) ?_
  refine AllReadyH.cons (o := { dst := some 28, op := Op.call { callee := Callee.value (Operand.func 59), args := #[Operand.tmp 27], argTypes := #[3] }, type := 9, pos := "l4_layout.go:425", after := #[{ on := 22, ground := Ground.data }, { on := 16, ground := Ground.chain }], guard := none }) rfl (fun K hK => ?_) AllReadyH.nil
  go_simp
  go_at_call 59
  refine (HY.out _).mono ?_
  rintro e w2 ⟨rfl, hb2⟩
  have HB2 : Hid (Below w1.heap.size w1 w2) := hHeld.out.trans (hb2.mono hHeld.out.size)
  clear hb2 hHeld
  go_wp2_with fail
  refine hK.out _ _ ?_ (fun hHeld => ?_)
  · exact HB2.out
  clear hK K
  try simp only [Act.put, List.setIfInBounds_toArray, List.set_cons_zero, List.set_cons_succ]
  refine wpAnyH_take (i := 24) (oi := { dst := some 29, op := Op.binOp BinOp.add 9 (Operand.tmp 23) (Operand.tmp 28) 9, type := 9, pos := "l4_layout.go:424", after := #[{ on := 18, ground := Ground.data }, { on := 23, ground := Ground.data }], guard := none }) (v := .string (S0 ++ ({ data := #[32] } : ByteArray) ++ S1 ++ ({ data := #[32] } : ByteArray) ++ S2 ++ ({ data := #[32] } : ByteArray) ++ S3)) rfl (by kernel_rfl) (by kernel_rfl) (by kernel_rfl) (fun _ _ _ h => h) (Or.inl ⟨by rfl, ?_⟩) hHeld ?_
  · intro W hSW
    clear hHeld hSW
    go_simp
  try simp only [Act.put, List.setIfInBounds_toArray, List.set_cons_zero, List.set_cons_succ]
  refine wpAnyH_take (i := 25) (oi := { dst := some 30, op := Op.binOp BinOp.add 9 (Operand.tmp 29) (Operand.const (Value.string { data := #[10] })) 9, type := 9, pos := "l4_layout.go:424", after := #[{ on := 24, ground := Ground.data }], guard := none }) (v := .string (S0 ++ ({ data := #[32] } : ByteArray) ++ S1 ++ ({ data := #[32] } : ByteArray) ++ S2 ++ ({ data := #[32] } : ByteArray) ++ S3 ++ ({ data := #[10] } : ByteArray))) rfl (by kernel_rfl) (by kernel_rfl) (by kernel_rfl) (fun _ _ _ h => h) (Or.inl ⟨by rfl, ?_⟩) hHeld ?_
  · intro W hSW
    clear hHeld hSW
    go_simp
  try simp only [Act.put, List.setIfInBounds_toArray, List.set_cons_zero, List.set_cons_succ]
  refine wpAnyH_take (i := 26) (oi := { dst := some 4, op := Op.assign (Operand.tmp 30), type := 9, pos := "l4_layout.go:424", after := #[{ on := 25, ground := Ground.data }, { on := 23, ground := Ground.chain }, { on := 0, ground := Ground.phase }, { on := 1, ground := Ground.phase }, { on := 2, ground := Ground.phase }, { on := 3, ground := Ground.phase }, { on := 4, ground := Ground.phase }, { on := 5, ground := Ground.phase }, { on := 6, ground := Ground.phase }, { on := 7, ground := Ground.phase }, { on := 8, ground := Ground.phase }, { on := 9, ground := Ground.phase }, { on := 10, ground := Ground.phase }, { on := 11, ground := Ground.phase }, { on := 12, ground := Ground.phase }, { on := 13, ground := Ground.phase }, { on := 14, ground := Ground.phase }, { on := 15, ground := Ground.phase }, { on := 16, ground := Ground.phase }, { on := 17, ground := Ground.phase }, { on := 18, ground := Ground.phase }, { on := 19, ground := Ground.phase }, { on := 20, ground := Ground.phase }, { on := 21, ground := Ground.phase }, { on := 22, ground := Ground.phase }, { on := 23, ground := Ground.phase }, { on := 24, ground := Ground.phase }, { on := 25, ground := Ground.phase }], guard := none }) (v := .string (S0 ++ ({ data := #[32] } : ByteArray) ++ S1 ++ ({ data := #[32] } : ByteArray) ++ S2 ++ ({ data := #[32] } : ByteArray) ++ S3 ++ ({ data := #[10] } : ByteArray))) rfl (by kernel_rfl) (by kernel_rfl) (by kernel_rfl) (fun _ _ _ h => h) (Or.inl ⟨by rfl, ?_⟩) hHeld ?_
  · intro W hSW
    clear hHeld hSW
    go_simp
  try simp only [Act.put, List.setIfInBounds_toArray, List.set_cons_zero, List.set_cons_succ]
  refine wpAnyH_done (by kernel_rfl) ?_ _
  go_wp2
  go_ret
  exact ⟨rfl, HB0.out.trans ((HB1.out.trans (hHeld.out.mono HB1.out.size)).mono HB0.out.size)⟩
end Go.Proofs.YtaapababeecmeaaDoor
