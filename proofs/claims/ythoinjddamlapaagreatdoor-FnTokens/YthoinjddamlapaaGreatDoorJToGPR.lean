/-
  spec.l9program.
-/
import Derived.Test.YthoinjddamlapaaGreatDoorJToGSZ
import Derived.Test.YthoinjddamlapaaGreatDoorJToGN0
namespace Go.Proofs.YthoinjddamlapaaGreatDoor
open Go.RowKit

set_option maxHeartbeats 1000000 in
set_option maxRecDepth 1000000 in
theorem left_gn {w : World} {c : GnC} {e : GE} {i : Nat} {vi vt : Value} {ints : List ByteArray} {f : Int} (h : GnAt w c e i vi vt ints f) :
    Calls Tryz.prog 34 #[.pointer (some ⟨c.R, 0, none⟩)] w fun r w' => r = .returned (.int .i64 (e.n - min i e.n : Nat)) ∧ Below w.heap.size w w' := by
  have c0 : w.cell? ⟨c.R, 0, none⟩ = some (.slice c.a0 e.n c.cap) := by simp [World.cell?, h.rd.blk]
  have c1 : w.cell? ⟨c.R, 1, none⟩ = some (.int .i64 ((min i e.n : Nat) : Int)) := by simp [World.cell?, h.rd.blk]
  have hn := h.n6
  obtain ⟨m, hm⟩ : ∃ m, min i e.n = m := ⟨_, rfl⟩
  obtain ⟨n, hn'⟩ : ∃ n, e.n = n := ⟨_, rfl⟩
  have hmn : m ≤ n := by omega
  rw [hm] at c1 ⊢
  rw [hn'] at c0 hn ⊢
  obtain ⟨d, hd⟩ : ∃ d, n - m = d := ⟨_, rfl⟩
  rw [hd]
  have hw : IntKind.i64.wrap ((n : Int) - (m : Int)) = (d : Int) := by rw [IntKind.wrap_i64]; omega
  have HB : Hid (∀ k, Below w.heap.size w (w.drewN k)) := fun k => below_drewN (Below.refl _ _) k
  clear h hm hn' hd
  go_enter Tryz.func34, Tryz.ntmps34
  go_wp2_with fail
  first
    | (go_quiet (fail); go_wp2; go_ret; exact ⟨rfl, HB.out _⟩)
    | (go_wp2; go_ret; exact ⟨rfl, Below.refl _ _⟩)
/-- A writer with a row of names that was built at once. -/
theorem gn_made {W W' : World} {R G : Nat} {a0 : Option Addr} {b off n cap : Nat} {cs : ByteArray} {i ww hh : Nat} {vi vt : Value} {ints texts : List ByteArray} {f : Int} (hr : RdAt W R a0 b off n cap cs i) (hb : Below W.heap.size W W') (hG : W.heap.size ≤ G)
    (hk : Blk W' G 57 #[.pointer (some ⟨R, 0, none⟩), .int .i64 (ww : Nat), .int .i64 (hh : Nat), vi, vt, .int .i64 f]) (ho : W'.ownsRow (R + 1) 9 1 vi ints.length (ist ints)) (hg : vi.ownBlock ≠ some G) (ht : SSr W' vt texts (GnX ⟨R, G, a0, b, off, cap⟩ vi))
    (hbb : 0 < n → b < R) (hn : n ≤ 600) (hw : 2 ≤ ww ∧ ww ≤ 40) (hh' : 2 ≤ hh ∧ hh ≤ 40) (hns : ∀ x ∈ ints, x.size ≤ 4) (hts : ∀ x ∈ texts, x.size ≤ 4) (hil : ints.length ≤ 10000) (htl : texts.length ≤ 10) (hz : ints.length = 0 → vi = .slice none 0 0) : GnAt W' ⟨R, G, a0, b, off, cap⟩ ⟨cs, n, ww, hh, texts⟩ i vi vt ints f :=
  ⟨hr.gw (P := fun _ => False) (Gw.of_below hb) (fun g => g) (fun _ g => g), hk, ho, hg, ht, Nat.lt_of_lt_of_le hr.lt hG, hbb, hn, hw, hh', hns, hts, hil, htl, hz⟩
theorem ssr_nil (W : World) (X : Nat → Prop) : SSr W (.slice none 0 0) [] X := ⟨none, 0, 0, 0, rfl, fun h => (by cases h), fun j hj => (by cases hj)⟩
theorem own_one {W : World} {B g : Nat} {s : ByteArray} (hB : B ≤ g) (h : W.heap[g]? = some (.cells #[.string s] 9 (0, 0))) : W.ownsRow B 9 1 (.slice (some ⟨g, 0, none⟩) 1 1) [s].length (ist [s]) :=
  ⟨rfl, .inr ⟨g, 1, _, rfl, hB, h, Nat.le_refl _, by unfold maxLen; omega, rfl, rfl⟩⟩
theorem GnAt.back2 {w w' w'' : World} {c : GnC} {e : GE} {i i' G' : Nat} {vi vt vi' : Value} {ints : List ByteArray} {f : Int} (h : GnAt w c e i vi vt ints f) (hG : w.heap.size ≤ G') (hv : ∀ k, vi'.ownBlock = some k → w.heap.size ≤ k) (hb : Below w.heap.size w w') (hw : Gw (GnX { c with G := G' } vi') w' w'') (h2 : RdAt w'' c.R c.a0 c.b c.off e.n c.cap e.cs i') : GnAt w'' c e i' vi vt ints f ∧ Gw (· = c.R) w w'' := by
  have hg : Gw (· = c.R) w w'' := (Gw.of_below hb (P := (· = c.R))).trans hw (fun k hk q => by
    rcases q with q | q | q
    · exact q
    · simp only at q; omega
    · have := hv k q; omega)
  exact ⟨h.go hg h2, hg⟩
/-- The rest of a program. -/
theorem gPl_step (st : Nat → List ByteArray → Int → GR) (n c j : Nat) (o : ByteArray) (i : Nat) (ints : List ByteArray) (f : Int) : gPl st n (c + 1) j o i ints f = if j < 2 ∨ i < n then gPl st n c (j + 1) (o ++ (st i ints f).s) (st i ints f).i (st i ints f).ints (f - 1) else (o, i) := rfl
theorem rowA {W0 W9 : World} {R : Nat} {a0 : Option Addr} {b off n cap : Nat} {cs : ByteArray} {i W H : Nat} (hr : RdAt W0 R a0 b off n cap cs i) (hw : (((W0.alloc (.cells #[.string ⟨#[121]⟩] 9)).alloc (.cells #[.string ⟨#[115]⟩] 9)).alloc (.cells #[.pointer (some ⟨R, 0, none⟩), .int .i64 (W : Nat), .int .i64 (H : Nat), .slice (some ⟨W0.heap.size, 0, none⟩) 1 1, .slice (some ⟨W0.heap.size + 1, 0, none⟩) 1 1, .int .i64 1] 57)).drew = W9) (hbR : 0 < n → b < R) (hn : n ≤ 600) (hW : 2 ≤ W ∧ W ≤ 40) (hH : 2 ≤ H ∧ H ≤ 40) :
    ∃ vi vt, GnAt W9 ⟨R, W0.heap.size + 1 + 1, a0, b, off, cap⟩ ⟨cs, n, W, H, [⟨#[115]⟩]⟩ i vi vt [⟨#[121]⟩] 1 ∧ (∀ k, vi.ownBlock = some k → W0.heap.size ≤ k) ∧ Below W0.heap.size W0 W9 := by
  have hR := hr.lt
  have hb : Below W0.heap.size W0 W9 := by rw [← hw]; exact ((((Below.refl _ _).alloc (Nat.le_refl _) _).alloc (by simp) _).alloc (by simp; omega) _).drew
  have hk : Blk W9 (W0.heap.size + 1 + 1) 57 #[.pointer (some ⟨R, 0, none⟩), .int .i64 (W : Nat), .int .i64 (H : Nat), .slice (some ⟨W0.heap.size, 0, none⟩) 1 1, .slice (some ⟨W0.heap.size + 1, 0, none⟩) 1 1, .int .i64 1] := by
    rw [← hw]
    have := Blk.new ((W0.alloc (.cells #[.string ⟨#[121]⟩] 9)).alloc (.cells #[.string ⟨#[115]⟩] 9)) 57 #[.pointer (some ⟨R, 0, none⟩), .int .i64 (W : Nat), .int .i64 (H : Nat), .slice (some ⟨W0.heap.size, 0, none⟩) 1 1, .slice (some ⟨W0.heap.size + 1, 0, none⟩) 1 1, .int .i64 1]
    rw [World.size_alloc, World.size_alloc] at this
    exact this
  have h1 : Blk W9 W0.heap.size 9 #[.string ⟨#[121]⟩] := by rw [← hw]; exact ((Blk.new W0 9 #[.string ⟨#[121]⟩]).alloc _).alloc _
  have h2 : Blk W9 (W0.heap.size + 1) 9 #[.string ⟨#[115]⟩] := by
    rw [← hw]
    have := (Blk.new (W0.alloc (.cells #[.string ⟨#[121]⟩] 9)) 9 #[.string ⟨#[115]⟩]).alloc (.cells #[.pointer (some ⟨R, 0, none⟩), .int .i64 (W : Nat), .int .i64 (H : Nat), .slice (some ⟨W0.heap.size, 0, none⟩) 1 1, .slice (some ⟨W0.heap.size + 1, 0, none⟩) 1 1, .int .i64 1] 57)
    rw [World.size_alloc] at this
    exact this
  refine ⟨.slice (some ⟨W0.heap.size, 0, none⟩) 1 1, .slice (some ⟨W0.heap.size + 1, 0, none⟩) 1 1, gn_made hr hb (by omega) hk (own_one (by omega) h1) (by simp [Value.ownBlock] <;> omega) ⟨_, W0.heap.size + 1, 0, 1, rfl, fun _ => ⟨rfl, fun q => ?_⟩, fun j hj => ?_⟩ hbR hn hW hH (by decide) (by decide) (by simp) (by simp) (fun q => by simp at q), fun k hk => by simp [Value.ownBlock] at hk; omega, hb⟩
  · rcases q with q | q | q
    · simp only at q; omega
    · simp only at q; omega
    · simp [Value.ownBlock] at q
  · obtain rfl : j = 0 := by simpa using hj
    exact h2.cell 0
theorem rowB {W0 W9 : World} {R : Nat} {a0 : Option Addr} {b off n cap : Nat} {cs : ByteArray} {i W H : Nat} (hr : RdAt W0 R a0 b off n cap cs i) (hw : (((W0.alloc (.cells #[.string ⟨#[115]⟩] 9)).alloc (.cells #[.string ⟨#[121]⟩] 9)).alloc (.cells #[.pointer (some ⟨R, 0, none⟩), .int .i64 (W : Nat), .int .i64 (H : Nat), .slice (some ⟨W0.heap.size + 1, 0, none⟩) 1 1, .slice (some ⟨W0.heap.size, 0, none⟩) 1 1, .int .i64 1] 57)).drew = W9) (hbR : 0 < n → b < R) (hn : n ≤ 600) (hW : 2 ≤ W ∧ W ≤ 40) (hH : 2 ≤ H ∧ H ≤ 40) :
    ∃ vi vt, GnAt W9 ⟨R, W0.heap.size + 1 + 1, a0, b, off, cap⟩ ⟨cs, n, W, H, [⟨#[115]⟩]⟩ i vi vt [⟨#[121]⟩] 1 ∧ (∀ k, vi.ownBlock = some k → W0.heap.size ≤ k) ∧ Below W0.heap.size W0 W9 := by
  have hR := hr.lt
  have hb : Below W0.heap.size W0 W9 := by rw [← hw]; exact ((((Below.refl _ _).alloc (Nat.le_refl _) _).alloc (by simp) _).alloc (by simp; omega) _).drew
  have hk : Blk W9 (W0.heap.size + 1 + 1) 57 #[.pointer (some ⟨R, 0, none⟩), .int .i64 (W : Nat), .int .i64 (H : Nat), .slice (some ⟨W0.heap.size + 1, 0, none⟩) 1 1, .slice (some ⟨W0.heap.size, 0, none⟩) 1 1, .int .i64 1] := by
    rw [← hw]
    have := Blk.new ((W0.alloc (.cells #[.string ⟨#[115]⟩] 9)).alloc (.cells #[.string ⟨#[121]⟩] 9)) 57 #[.pointer (some ⟨R, 0, none⟩), .int .i64 (W : Nat), .int .i64 (H : Nat), .slice (some ⟨W0.heap.size + 1, 0, none⟩) 1 1, .slice (some ⟨W0.heap.size, 0, none⟩) 1 1, .int .i64 1]
    rw [World.size_alloc, World.size_alloc] at this
    exact this
  have h1 : Blk W9 W0.heap.size 9 #[.string ⟨#[115]⟩] := by rw [← hw]; exact ((Blk.new W0 9 #[.string ⟨#[115]⟩]).alloc _).alloc _
  have h2 : Blk W9 (W0.heap.size + 1) 9 #[.string ⟨#[121]⟩] := by
    rw [← hw]
    have := (Blk.new (W0.alloc (.cells #[.string ⟨#[115]⟩] 9)) 9 #[.string ⟨#[121]⟩]).alloc (.cells #[.pointer (some ⟨R, 0, none⟩), .int .i64 (W : Nat), .int .i64 (H : Nat), .slice (some ⟨W0.heap.size + 1, 0, none⟩) 1 1, .slice (some ⟨W0.heap.size, 0, none⟩) 1 1, .int .i64 1] 57)
    rw [World.size_alloc] at this
    exact this
  refine ⟨.slice (some ⟨W0.heap.size + 1, 0, none⟩) 1 1, .slice (some ⟨W0.heap.size, 0, none⟩) 1 1, gn_made hr hb (by omega) hk (own_one (by omega) h2) (by simp [Value.ownBlock] <;> omega) ⟨_, W0.heap.size, 0, 1, rfl, fun _ => ⟨rfl, fun q => ?_⟩, fun j hj => ?_⟩ hbR hn hW hH (by decide) (by decide) (by simp) (by simp) (fun q => by simp at q), fun k hk => by simp [Value.ownBlock] at hk; omega, hb⟩
  · rcases q with q | q | q
    · simp only at q; omega
    · simp only at q; omega
    · simp [Value.ownBlock] at q
  · obtain rfl : j = 0 := by simpa using hj
    exact h1.cell 0
/-- A program whose floor is W by H. -/
def gPt (cs : ByteArray) (n W H i : Nat) : ByteArray × Nat :=
  gPl (gS ⟨cs, n, W, H, []⟩ 15) n (2 + nx cs n (gB (gS ⟨cs, n, W, H, [({ data := #[115] } : ByteArray)]⟩ 2) 1 (gB (gS ⟨cs, n, W, H, []⟩ 3) (1 + nx cs n (i + 2) % 2) (i + 3) [({ data := #[120] } : ByteArray)] 2).2 [({ data := #[121] } : ByteArray)] 1).2 % 9) 0 (({ data := #[103, 114, 105, 100, 32] } : ByteArray) ++ decB W ++ ({ data := #[44, 32] } : ByteArray) ++ decB H ++ ({ data := #[59, 10] } : ByteArray) ++ (({ data := #[109, 97, 99, 114, 111, 32, 109, 40, 105, 110, 116, 32, 120, 41, 32] } : ByteArray) ++ (gB (gS ⟨cs, n, W, H, []⟩ 3) (1 + nx cs n (i + 2) % 2) (i + 3) [({ data := #[120] } : ByteArray)] 2).1) ++ (({ data := #[109, 97, 99, 114, 111, 32, 114, 111, 119, 40, 105, 110, 116, 32, 121, 44, 32, 116, 101, 120, 116, 32, 115, 41, 32] } : ByteArray) ++ (gB (gS ⟨cs, n, W, H, [({ data := #[115] } : ByteArray)]⟩ 2) 1 (gB (gS ⟨cs, n, W, H, []⟩ 3) (1 + nx cs n (i + 2) % 2) (i + 3) [({ data := #[120] } : ByteArray)] 2).2 [({ data := #[121] } : ByteArray)] 1).1) ++ ({ data := #[109, 97, 99, 114, 111, 32, 100, 101, 101, 112, 40, 105, 110, 116, 32, 100, 41, 32, 123, 32, 105, 102, 32, 100, 32, 62, 32, 48, 32, 123, 32, 99, 97, 108, 108, 32, 100, 101, 101, 112, 40, 100, 32, 45, 32, 49, 41, 59, 32, 125, 32, 101, 108, 115, 101, 32, 123, 32, 119, 97, 108, 108, 32, 48, 44, 32, 48, 59, 32, 125, 32, 125, 10] } : ByteArray)) ((gB (gS ⟨cs, n, W, H, [({ data := #[115] } : ByteArray)]⟩ 2) 1 (gB (gS ⟨cs, n, W, H, []⟩ 3) (1 + nx cs n (i + 2) % 2) (i + 3) [({ data := #[120] } : ByteArray)] 2).2 [({ data := #[121] } : ByteArray)] 1).2 + 1) [] 14
set_option maxHeartbeats 8000000 in
set_option maxRecDepth 1000000 in
theorem program_any (w : World) (R : Nat) (a0 : Option Addr) (b off n cap : Nat) (cs : ByteArray) (i : Nat) (hn : n ≤ 600) (h : RdAt w R a0 b off n cap cs i) (hbR : 0 < n → b < R) :
    Calls Tryz.prog 19 #[.pointer (some ⟨R, 0, none⟩)] w (SrQ R a0 b off n cap cs (gP cs n i) w) := by
  have HN := hide (next_any w R a0 b off n cap cs i hn h)
  have HR0 : Hid (R < w.heap.size) := h.lt
  have k1 := nx_lt cs n i
  have k2 := nx_lt cs n (i + 1)
  obtain ⟨x1, hx1⟩ : ∃ x, nx cs n i = x := ⟨_, rfl⟩
  obtain ⟨x2, hx2⟩ : ∃ x, nx cs n (i + 1) = x := ⟨_, rfl⟩
  rw [hx1] at HN k1
  rw [hx2] at k2
  have HX2 := hide hx2
  obtain ⟨W, hW⟩ : ∃ W, 3 + x1 % 6 = W := ⟨_, rfl⟩
  obtain ⟨H, hH⟩ : ∃ H, 2 + x2 % 6 = H := ⟨_, rfl⟩
  obtain ⟨m1, hm1⟩ : ∃ m, x1 % 6 = m := ⟨_, rfl⟩
  obtain ⟨m2, hm2⟩ : ∃ m, x2 % 6 = m := ⟨_, rfl⟩
  have t1 : (x1 : Int).tmod 6 = (m1 : Int) := by rw [← hm1]; rfl
  have t2 : (x2 : Int).tmod 6 = (m2 : Int) := by rw [← hm2]; rfl
  have u1 : IntKind.i64.wrap (3 + (m1 : Int)) = (W : Int) := by rw [IntKind.wrap_i64]; omega
  have u2 : IntKind.i64.wrap (2 + (m2 : Int)) = (H : Int) := by rw [IntKind.wrap_i64]; omega
  have hWb : 2 ≤ W ∧ W ≤ 40 := by omega
  have hHb : 2 ≤ H ∧ H ≤ 40 := by omega
  have HGP : Hid (gP cs n i = gPt cs n W H i) := by show _ = _; unfold gP gPt; rw [hx1, hx2, hW, hH]
  have HBR := hide hbR
  have HHn := hide hn
  clear h hx1 hx2 hW hH hm1 hm2 hbR
  go_enter Tryz.func19, Tryz.ntmps19
  go_wp2_with fail
  refine HN.out.mono ?_
  rintro r w1 ⟨rfl, hg1, hr1⟩
  have HN2 := hide (next_any w1 R a0 b off n cap cs (i + 1) hn hr1)
  rw [HX2.out] at HN2
  have HW1 : Hid (Gw (· = R) w w1) := Gw.of_grown hg1 (fun k hk _ => by injection hk with hk; exact hk.symm)
  clear hg1 hr1 HN
  go_wp2_with fail
  refine HN2.out.mono ?_
  rintro r w2 ⟨rfl, hg2, hr2⟩
  have HR2 := hide hr2
  have HGmw0 : Hid (w.heap.size ≤ w2.heap.size) := Nat.le_trans HW1.out.size hg2.size
  have HW2 : Hid (Gw (· = R) w w2) := HW1.out.then (Gw.of_grown hg2 (fun k hk _ => by injection hk with hk; exact hk.symm))
  clear hg2 hr2 HN2 HW1
  obtain ⟨w3, hw3⟩ : ∃ V, w2.alloc (.cells #[.pointer (some ⟨R, 0, none⟩), .int .i64 (W : Nat), .int .i64 (H : Nat), .slice none 0 0, .slice none 0 0, .int .i64 14] 57) = V := ⟨_, rfl⟩
  have hb3 : Below w2.heap.size w2 w3 := by rw [← hw3]; exact (Below.refl _ _).alloc (Nat.le_refl _) _
  have hk3 : Blk w3 w2.heap.size 57 #[.pointer (some ⟨R, 0, none⟩), .int .i64 (W : Nat), .int .i64 (H : Nat), .slice none 0 0, .slice none 0 0, .int .i64 14] := by rw [← hw3]; exact Blk.new _ _ _
  have HG3 : Hid (GnAt w3 ⟨R, w2.heap.size, a0, b, off, cap⟩ ⟨cs, n, W, H, []⟩ (i + 2) (.slice none 0 0) (.slice none 0 0) [] 14) := gn_made HR2.out hb3 (Nat.le_refl _) hk3 (World.ownsRow_nil _ _ _ _) (by simp [Value.ownBlock]) (ssr_nil _ _) HBR.out hn hWb hHb (fun x hx => by cases hx) (fun x hx => by cases hx) (by simp) (by simp) (fun _ => rfl)
  have HW3 : Hid (Gw (· = R) w w3) := HW2.out.trans (Gw.of_below hb3 (P := fun _ => False)) (fun _ _ g => g.elim)
  have g1 := hk3.cell 1
  have g2 := hk3.cell 2
  simp only [List.getElem?_toArray, List.getElem?_cons_succ, List.getElem?_cons_zero] at g1 g2
  have hw := hw3
  clear hw3 hb3 hk3 HR2 HW2
  obtain ⟨Gm, hGm⟩ : ∃ G, w2.heap.size = G := ⟨_, rfl⟩
  have HGmw : Hid (w.heap.size ≤ Gm) := by rw [← hGm]; exact HGmw0.out
  have HDW := hide (fun V => l2dG_any W V (by omega))
  have HDH := hide (fun V => l2dG_any H V (by omega))
  have dw := decB_le W
  have dh := decB_le H
  obtain ⟨DW, hDW⟩ : ∃ Z, decB W = Z := ⟨_, rfl⟩
  obtain ⟨DH, hDH⟩ : ∃ Z, decB H = Z := ⟨_, rfl⟩
  rw [hDW] at HDW dw
  rw [hDH] at HDH dh
  have HGW := hide hDW
  have HGH := hide hDH
  have s1 : ¬ 9223372036854775807 < 5 + DW.size := by omega
  have s2 : ¬ 9223372036854775807 < 5 + DW.size + 2 := by omega
  have s3 : ¬ 9223372036854775807 < 5 + DW.size + 2 + DH.size := by omega
  have s4 : ¬ 9223372036854775807 < 5 + DW.size + 2 + DH.size + 2 := by omega
  clear hDW hDH k1 k2
  go_wp2_with fail
  clear hw t1 t2 u1 u2
  rw [hGm] at HG3 g1 g2
  have hGl : Hid (Gm < w3.heap.size) := HG3.out.blk.lt
  clear hGm
  refine wp_region_held_drew (S := fun w' => Hid (w'.cell? ⟨Gm, 1, none⟩ = some (.int .i64 (W : Nat)) ∧ w'.cell? ⟨Gm, 2, none⟩ = some (.int .i64 (H : Nat)))) (by kernel_rfl) (⟨g1, g2⟩) (fun hHeld => ?_)
  refine wpAnyH_take (i := 0) (v := ?_) rfl (by kernel_rfl) (by kernel_rfl) (by kernel_rfl) (fun _ _ _ h => h) (Or.inl ⟨by rfl, ?_⟩) hHeld ?_
  rotate_left 1
  · intro Wx hSW; simp only [List.getElem_toArray, List.getElem_cons_zero]; have z3 := hSW.out.1; have z4 := hSW.out.2; go_simp; try with_reducible rfl
  simp only [Act.put, List.getElem_toArray, List.getElem_cons_zero, List.setIfInBounds_toArray, List.set_cons_zero, List.set_cons_succ]
  refine wpAnyH_take (i := 1) (v := ?_) rfl (by kernel_rfl) (by kernel_rfl) (by kernel_rfl) (fun _ _ _ h => h) (Or.inl ⟨by rfl, ?_⟩) hHeld ?_
  rotate_left 1
  · intro Wx hSW; simp only [List.getElem_toArray, List.getElem_cons_zero, List.getElem_cons_succ]; have z3 := hSW.out.1; have z4 := hSW.out.2; go_simp; try with_reducible rfl
  simp only [Act.put, List.getElem_toArray, List.getElem_cons_zero, List.getElem_cons_succ, List.setIfInBounds_toArray, List.set_cons_zero, List.set_cons_succ]
  refine wpAnyH_take (i := 2) (v := ?_) rfl (by kernel_rfl) (by kernel_rfl) (by kernel_rfl) (fun _ _ _ h => h) (Or.inl ⟨by rfl, ?_⟩) hHeld ?_
  rotate_left 1
  · intro Wx hSW; simp only [List.getElem_toArray, List.getElem_cons_zero, List.getElem_cons_succ]; have z3 := hSW.out.1; have z4 := hSW.out.2; go_simp; try with_reducible rfl
  simp only [Act.put, List.getElem_toArray, List.getElem_cons_zero, List.getElem_cons_succ, List.setIfInBounds_toArray, List.set_cons_zero, List.set_cons_succ]
  refine wpAnyH_take (i := 3) (v := ?_) rfl (by kernel_rfl) (by kernel_rfl) (by kernel_rfl) (fun _ _ _ h => h) (Or.inl ⟨by rfl, ?_⟩) hHeld ?_
  rotate_left 1
  · intro Wx hSW; simp only [List.getElem_toArray, List.getElem_cons_zero, List.getElem_cons_succ]; have z3 := hSW.out.1; have z4 := hSW.out.2; go_simp; try with_reducible rfl
  simp only [Act.put, List.getElem_toArray, List.getElem_cons_zero, List.getElem_cons_succ, List.setIfInBounds_toArray, List.set_cons_zero, List.set_cons_succ]
  refine wpAnyH_take (i := 7) (v := ?_) rfl (by kernel_rfl) (by kernel_rfl) (by kernel_rfl) (fun _ _ _ h => h) (Or.inl ⟨by rfl, ?_⟩) hHeld ?_
  rotate_left 1
  · intro Wx hSW; simp only [List.getElem_toArray, List.getElem_cons_zero, List.getElem_cons_succ]; have z3 := hSW.out.1; have z4 := hSW.out.2; go_simp; try with_reducible rfl
  simp only [Act.put, List.getElem_toArray, List.getElem_cons_zero, List.getElem_cons_succ, List.setIfInBounds_toArray, List.set_cons_zero, List.set_cons_succ]
  refine wpAnyH_take (i := 8) (v := ?_) rfl (by kernel_rfl) (by kernel_rfl) (by kernel_rfl) (fun _ _ _ h => h) (Or.inl ⟨by rfl, ?_⟩) hHeld ?_
  rotate_left 1
  · intro Wx hSW; simp only [List.getElem_toArray, List.getElem_cons_zero, List.getElem_cons_succ]; have z3 := hSW.out.1; have z4 := hSW.out.2; go_simp; try with_reducible rfl
  simp only [Act.put, List.getElem_toArray, List.getElem_cons_zero, List.getElem_cons_succ, List.setIfInBounds_toArray, List.set_cons_zero, List.set_cons_succ]
  refine wpAnyH_take (i := 9) (v := ?_) rfl (by kernel_rfl) (by kernel_rfl) (by kernel_rfl) (fun _ _ _ h => h) (Or.inl ⟨by rfl, ?_⟩) hHeld ?_
  rotate_left 1
  · intro Wx hSW; simp only [List.getElem_toArray, List.getElem_cons_zero, List.getElem_cons_succ]; have z3 := hSW.out.1; have z4 := hSW.out.2; go_simp; try with_reducible rfl
  simp only [Act.put, List.getElem_toArray, List.getElem_cons_zero, List.getElem_cons_succ, List.setIfInBounds_toArray, List.set_cons_zero, List.set_cons_succ]
  refine wpAnyH_take (i := 10) (v := ?_) rfl (by kernel_rfl) (by kernel_rfl) (by kernel_rfl) (fun _ _ _ h => h) (Or.inl ⟨by rfl, ?_⟩) hHeld ?_
  rotate_left 1
  · intro Wx hSW; simp only [List.getElem_toArray, List.getElem_cons_zero, List.getElem_cons_succ]; have z3 := hSW.out.1; have z4 := hSW.out.2; go_simp; try with_reducible rfl
  simp only [Act.put, List.getElem_toArray, List.getElem_cons_zero, List.getElem_cons_succ, List.setIfInBounds_toArray, List.set_cons_zero, List.set_cons_succ]
  refine wpAnyH_ready (rs := [4]) (by kernel_rfl) (by simp) ?_
  refine AllReadyH.cons rfl (fun K hK => ?_) AllReadyH.nil
  go_simp
  go_at_call 17
  refine (HDW.out _).mono ?_
  rintro r w4 ⟨rfl, hbx⟩
  have HB4 : Hid (Below w3.heap.size w3 w4) := (Below.refl _ _).drew.trans hbx
  clear hbx
  go_wp2_with fail
  refine hK.out _ _ ⟨cell_kept g1 HB4.out, cell_kept g2 HB4.out⟩ (fun hHeld => ?_)
  clear hK K
  try simp only [Act.put, List.getElem_toArray, List.getElem_cons_zero, List.getElem_cons_succ, List.setIfInBounds_toArray, List.set_cons_zero, List.set_cons_succ]
  refine wpAnyH_take (i := 5) (v := ?_) rfl (by kernel_rfl) (by kernel_rfl) (by kernel_rfl) (fun _ _ _ h => h) (Or.inl ⟨by rfl, ?_⟩) hHeld ?_
  rotate_left 1
  · intro Wx hSW; simp only [List.getElem_toArray, List.getElem_cons_zero, List.getElem_cons_succ]; go_simp; try with_reducible rfl
  simp only [Act.put, List.getElem_toArray, List.getElem_cons_zero, List.getElem_cons_succ, List.setIfInBounds_toArray, List.set_cons_zero, List.set_cons_succ]
  refine wpAnyH_take (i := 6) (v := ?_) rfl (by kernel_rfl) (by kernel_rfl) (by kernel_rfl) (fun _ _ _ h => h) (Or.inl ⟨by rfl, ?_⟩) hHeld ?_
  rotate_left 1
  · intro Wx hSW; simp only [List.getElem_toArray, List.getElem_cons_zero, List.getElem_cons_succ]; go_simp; try with_reducible rfl
  simp only [Act.put, List.getElem_toArray, List.getElem_cons_zero, List.getElem_cons_succ, List.setIfInBounds_toArray, List.set_cons_zero, List.set_cons_succ]
  refine wpAnyH_ready (rs := [11]) (by kernel_rfl) (by simp) ?_
  refine AllReadyH.cons rfl (fun K hK => ?_) AllReadyH.nil
  go_simp
  go_at_call 17
  refine (HDH.out _).mono ?_
  rintro r w5 ⟨rfl, hbx⟩
  have HB5 : Hid (Below w3.heap.size w3 w5) := HB4.out.trans (hbx.mono HB4.out.size)
  clear hbx
  go_wp2_with fail
  refine hK.out _ _ ⟨cell_kept g1 HB5.out, cell_kept g2 HB5.out⟩ (fun hHeld => ?_)
  clear hK K
  try simp only [Act.put, List.getElem_toArray, List.getElem_cons_zero, List.getElem_cons_succ, List.setIfInBounds_toArray, List.set_cons_zero, List.set_cons_succ]
  refine wpAnyH_take (i := 12) (v := ?_) rfl (by kernel_rfl) (by kernel_rfl) (by kernel_rfl) (fun _ _ _ h => h) (Or.inl ⟨by rfl, ?_⟩) hHeld ?_
  rotate_left 1
  · intro Wx hSW; simp only [List.getElem_toArray, List.getElem_cons_zero, List.getElem_cons_succ]; go_simp; try with_reducible rfl
  simp only [Act.put, List.getElem_toArray, List.getElem_cons_zero, List.getElem_cons_succ, List.setIfInBounds_toArray, List.set_cons_zero, List.set_cons_succ]
  refine wpAnyH_take (i := 13) (v := ?_) rfl (by kernel_rfl) (by kernel_rfl) (by kernel_rfl) (fun _ _ _ h => h) (Or.inl ⟨by rfl, ?_⟩) hHeld ?_
  rotate_left 1
  · intro Wx hSW; simp only [List.getElem_toArray, List.getElem_cons_zero, List.getElem_cons_succ]; go_simp; try with_reducible rfl
  simp only [Act.put, List.getElem_toArray, List.getElem_cons_zero, List.getElem_cons_succ, List.setIfInBounds_toArray, List.set_cons_zero, List.set_cons_succ]
  refine wpAnyH_take (i := 14) (v := ?_) rfl (by kernel_rfl) (by kernel_rfl) (by kernel_rfl) (fun _ _ _ h => h) (Or.inl ⟨by rfl, ?_⟩) hHeld ?_
  rotate_left 1
  · intro Wx hSW; simp only [List.getElem_toArray, List.getElem_cons_zero, List.getElem_cons_succ]; go_simp; try with_reducible rfl
  simp only [Act.put, List.getElem_toArray, List.getElem_cons_zero, List.getElem_cons_succ, List.setIfInBounds_toArray, List.set_cons_zero, List.set_cons_succ]
  refine wpAnyH_done (by kernel_rfl) ?_ _
  clear HB4 g1 g2 HDW HDH
  have HG5 := hide (HG3.out.below HB5.out)
  have HW5 : Hid (Gw (· = R) w w5) := HW3.out.trans (Gw.of_below HB5.out (P := fun _ => False)) (fun _ _ g => g.elim)
  have g1 := (gc0 HG5.out).2.1
  have g2 := (gc0 HG5.out).2.2.1
  have g1a := cell_kept g1 ((Below.refl _ _).alloc (Nat.le_refl _) (.cells #[.string ⟨#[120]⟩] 9))
  have g2a := cell_kept g2 ((Below.refl _ _).alloc (Nat.le_refl _) (.cells #[.string ⟨#[120]⟩] 9))
  clear HG3 HW3 HB5 hGl
  go_wp2_with fail
  go_region
  clear g1 g2 g1a g2a
  obtain ⟨w6, hw6⟩ : ∃ V, ((w5.alloc (.cells #[.string ⟨#[120]⟩] 9)).alloc (.cells #[.pointer (some ⟨R, 0, none⟩), .int .i64 (W : Nat), .int .i64 (H : Nat), .slice (some ⟨w5.heap.size, 0, none⟩) 1 1, .slice none 0 0, .int .i64 2] 57)).drew = V := ⟨_, rfl⟩
  have hb6 : Below w5.heap.size w5 w6 := by rw [← hw6]; exact (((Below.refl _ _).alloc (Nat.le_refl _) _).alloc (by simp) _).drew
  have hk6 : Blk w6 (w5.heap.size + 1) 57 #[.pointer (some ⟨R, 0, none⟩), .int .i64 (W : Nat), .int .i64 (H : Nat), .slice (some ⟨w5.heap.size, 0, none⟩) 1 1, .slice none 0 0, .int .i64 2] := by
    rw [← hw6]
    have := Blk.new (w5.alloc (.cells #[.string ⟨#[120]⟩] 9)) 57 #[.pointer (some ⟨R, 0, none⟩), .int .i64 (W : Nat), .int .i64 (H : Nat), .slice (some ⟨w5.heap.size, 0, none⟩) 1 1, .slice none 0 0, .int .i64 2]
    rw [World.size_alloc] at this
    exact this
  have hq6 : w6.heap[w5.heap.size]? = some (.cells #[.string ⟨#[120]⟩] 9 (0, 0)) := by rw [← hw6]; exact (Blk.new w5 9 #[.string ⟨#[120]⟩]).alloc _
  have hR5 := HG5.out.rd.lt
  simp only at hR5
  have HGI6 : Hid (GnAt w6 ⟨R, w5.heap.size + 1, a0, b, off, cap⟩ ⟨cs, n, W, H, []⟩ (i + 2) (.slice (some ⟨w5.heap.size, 0, none⟩) 1 1) (.slice none 0 0) [⟨#[120]⟩] 2) := gn_made HG5.out.rd hb6 (by omega) hk6 (own_one (by omega) hq6) (by simp [Value.ownBlock]) (ssr_nil _ _) HBR.out hn hWb hHb (by decide) (fun x hx => by cases hx) (by simp) (by simp) (fun q => by simp at q)
  have HB6 := hide hb6
  rw [hw6]
  clear hw6 hb6 hk6 hq6
  have HN3 := hide (next_gn HGI6.out)
  have k3 := nx_lt cs n (i + 2)
  have HE3 : Hid (GE.nx ⟨cs, n, W, H, []⟩ (i + 2) = nx cs n (i + 2)) := rfl
  rw [HE3.out] at HN3
  unfold gPt at HGP
  rw [HGW.out, HGH.out] at HGP
  obtain ⟨x3, hx3⟩ : ∃ x, nx cs n (i + 2) = x := ⟨_, rfl⟩
  rw [hx3] at HN3 HGP k3
  obtain ⟨m3, hm3⟩ : ∃ m, x3 % 2 = m := ⟨_, rfl⟩
  have t3 : (x3 : Int).tmod 2 = (m3 : Int) := by rw [← hm3]; rfl
  rw [hm3] at HGP
  obtain ⟨n1, hn1⟩ : ∃ m, 1 + m3 = m := ⟨_, rfl⟩
  have u3 : IntKind.i64.wrap (1 + (m3 : Int)) = (n1 : Int) := by rw [IntKind.wrap_i64]; omega
  have hn12 : n1 ≤ 2 := by omega
  rw [hn1] at HGP
  have hSL := stL_all ⟨cs, n, W, H, []⟩ (fun x hx => by cases hx) 3
  have b1 := gB_le hSL n1 (i + 3) [⟨#[120]⟩] 2 (by decide)
  have hs3 : SBd 3 = 1750 := by decide
  rw [hs3] at b1
  have b1' : n1 * 1750 ≤ 2 * 1750 := Nat.mul_le_mul_right _ hn12
  obtain ⟨B1, hB1⟩ : ∃ Z, gB (gS ⟨cs, n, W, H, []⟩ 3) n1 (i + 3) [⟨#[120]⟩] 2 = Z := ⟨_, rfl⟩
  rw [hB1] at HGP b1
  have HB1 := hide hB1
  obtain ⟨X1, hX1⟩ : ∃ Z, B1.1 = Z := ⟨_, rfl⟩
  obtain ⟨I1, hI1⟩ : ∃ Z, B1.2 = Z := ⟨_, rfl⟩
  rw [hX1] at HGP b1
  rw [hI1] at HGP
  have HX1 := hide hX1
  have HI1 := hide hI1
  have HSL := hide hSL
  obtain ⟨O1, hO1⟩ : ∃ Z, ({ data := #[103, 114, 105, 100, 32] } : ByteArray) ++ DW ++ ({ data := #[44, 32] } : ByteArray) ++ DH ++ ({ data := #[59, 10] } : ByteArray) = Z := ⟨_, rfl⟩
  have o1 : O1.size ≤ 20 := by rw [← hO1]; simp only [ByteArray.size_append, lsz, List.size_toArray, List.length_cons, List.length_nil]; omega
  rw [hO1] at HGP ⊢
  have s5 : ¬ 9223372036854775807 < 15 + X1.size := by omega
  have s6 : ¬ 9223372036854775807 < O1.size + (15 + X1.size) := by omega
  clear hx3 hm3 hn1 hB1 hX1 hI1 hSL hO1 s1 s2 s3 s4 hs3 HGW HGH
  go_wp2_with fail
  refine HN3.out.mono ?_
  rintro r w7 ⟨rfl, h7, hg7⟩
  have HBL := hide (block_gn 3 (stC_all 3) ⟨R, w5.heap.size + 1, a0, b, off, cap⟩ ⟨cs, n, W, H, []⟩ HSL.out n1 (i + 3) _ _ [⟨#[120]⟩] 2 w7 h7 hn12 (by decide) (by decide) (by decide) (by decide))
  rw [HB1.out, HX1.out, HI1.out] at HBL
  have HW7 := hide hg7
  clear h7 hg7 HN3
  go_wp2_with fail
  refine HBL.out.mono ?_
  rintro r w8 ⟨vx8, ix8, fx8, rfl, h8, hg8⟩
  have hbk := HG5.out.back2 (G' := w5.heap.size + 1) (vi' := .slice (some ⟨w5.heap.size, 0, none⟩) 1 1) (by omega) (fun k hk => by simp [Value.ownBlock] at hk; omega) HB6.out ((HW7.out.mono (fun _ _ q => .inl q)).trans hg8 (fun _ _ q => q)) h8.rd
  have HG8 := hide hbk.1
  have HW8 : Hid (Gw (· = R) w w8) := HW5.out.then hbk.2
  clear h8 hg8 hbk HBL HW7 HGI6 HB6 HG5 HW5 hR5
  have g1 := (gc0 HG8.out).2.1
  have g2 := (gc0 HG8.out).2.2.1
  have g1y := cell_kept g1 ((Below.refl _ _).alloc (Nat.le_refl _) (.cells #[.string ⟨#[121]⟩] 9))
  have g1s := cell_kept g1 ((Below.refl _ _).alloc (Nat.le_refl _) (.cells #[.string ⟨#[115]⟩] 9))
  have g1ys := cell_kept g1y ((Below.refl _ _).alloc (Nat.le_refl _) (.cells #[.string ⟨#[115]⟩] 9))
  have g1sy := cell_kept g1s ((Below.refl _ _).alloc (Nat.le_refl _) (.cells #[.string ⟨#[121]⟩] 9))
  have g2y := cell_kept g2 ((Below.refl _ _).alloc (Nat.le_refl _) (.cells #[.string ⟨#[121]⟩] 9))
  have g2s := cell_kept g2 ((Below.refl _ _).alloc (Nat.le_refl _) (.cells #[.string ⟨#[115]⟩] 9))
  have g2ys := cell_kept g2y ((Below.refl _ _).alloc (Nat.le_refl _) (.cells #[.string ⟨#[115]⟩] 9))
  have g2sy := cell_kept g2s ((Below.refl _ _).alloc (Nat.le_refl _) (.cells #[.string ⟨#[121]⟩] 9))
  go_wp2_with fail
  clear s5 s6 t3 u3
  go_region
  clear g1 g2 g1y g1s g1ys g1sy g2y g2s g2ys g2sy
  all_goals
    first
      | (obtain ⟨w9, hw9⟩ : ∃ V, (((w8.alloc (.cells #[.string ⟨#[121]⟩] 9)).alloc (.cells #[.string ⟨#[115]⟩] 9)).alloc (.cells #[.pointer (some ⟨R, 0, none⟩), .int .i64 (W : Nat), .int .i64 (H : Nat), .slice (some ⟨w8.heap.size, 0, none⟩) 1 1, .slice (some ⟨w8.heap.size + 1, 0, none⟩) 1 1, .int .i64 1] 57)).drew = V := ⟨_, rfl⟩; rw [hw9]; have hJ := rowA HG8.out.rd hw9 HBR.out hn hWb hHb; clear hw9)
      | (obtain ⟨w9, hw9⟩ : ∃ V, (((w8.alloc (.cells #[.string ⟨#[115]⟩] 9)).alloc (.cells #[.string ⟨#[121]⟩] 9)).alloc (.cells #[.pointer (some ⟨R, 0, none⟩), .int .i64 (W : Nat), .int .i64 (H : Nat), .slice (some ⟨w8.heap.size + 1, 0, none⟩) 1 1, .slice (some ⟨w8.heap.size, 0, none⟩) 1 1, .int .i64 1] 57)).drew = V := ⟨_, rfl⟩; rw [hw9]; have hJ := rowB HG8.out.rd hw9 HBR.out hn hWb hHb; clear hw9)
    obtain ⟨viJ, vtJ, hJ1, hJ2, hJ3⟩ := hJ
    have HSL2 := hide (stL_all ⟨cs, n, W, H, [⟨#[115]⟩]⟩ (fun x hx => by have hx' : x ∈ [(⟨#[115]⟩ : ByteArray)] := hx; rw [List.mem_singleton.1 hx']; decide) 2)
    have b2 := gB_le HSL2.out 1 I1 [⟨#[121]⟩] 1 (by decide)
    have hs2 : SBd 2 = 750 := by decide
    rw [hs2] at b2
    obtain ⟨B2, hB2⟩ : ∃ Z, gB (gS ⟨cs, n, W, H, [⟨#[115]⟩]⟩ 2) 1 I1 [⟨#[121]⟩] 1 = Z := ⟨_, rfl⟩
    rw [hB2] at HGP b2
    obtain ⟨X2, hX2⟩ : ∃ Z, B2.1 = Z := ⟨_, rfl⟩
    obtain ⟨I2, hI2⟩ : ∃ Z, B2.2 = Z := ⟨_, rfl⟩
    rw [hX2] at HGP b2
    rw [hI2] at HGP
    have HBL := hide (block_gn 2 (stC_all 2) ⟨R, w8.heap.size + 1 + 1, a0, b, off, cap⟩ ⟨cs, n, W, H, [⟨#[115]⟩]⟩ HSL2.out 1 I1 _ _ [⟨#[121]⟩] 1 w9 hJ1 (by decide) (by decide) (by decide) (by decide) (by decide))
    rw [hB2, hX2, hI2] at HBL
    have HJ2 := hide hJ2
    have HJ3 := hide hJ3
    obtain ⟨O2, hO2⟩ : ∃ Z, O1 ++ (({ data := #[109, 97, 99, 114, 111, 32, 109, 40, 105, 110, 116, 32, 120, 41, 32] } : ByteArray) ++ X1) = Z := ⟨_, rfl⟩
    have o2 : O2.size ≤ 22000 := by rw [← hO2]; simp only [ByteArray.size_append, lsz, List.size_toArray, List.length_cons, List.length_nil]; omega
    rw [hO2] at HGP ⊢
    have s5 : ¬ 9223372036854775807 < 25 + X2.size := by omega
    have s6 : ¬ 9223372036854775807 < O2.size + (25 + X2.size) := by omega
    have s7 : ¬ 9223372036854775807 < O2.size + (25 + X2.size) + 73 := by omega
    clear hO2 hB2 hX2 hI2 hJ1 hJ2 hJ3 hs2
    go_wp2_with fail
    refine HBL.out.mono ?_
    rintro r w10 ⟨vx10, ix10, fx10, rfl, h10, hg10⟩
    have hbk := HG8.out.back2 (G' := w8.heap.size + 1 + 1) (vi' := viJ) (by omega) HJ2.out HJ3.out hg10 h10.rd
    have HG10 := hide hbk.1
    have HW10 : Hid (Gw (· = R) w w10) := HW8.out.then hbk.2
    clear h10 hg10 hbk HBL HJ2 HJ3 HG8 HW8
    have HN4 := hide (next_gn HG10.out)
    have k4 := nx_lt cs n I2
    have HE4 : Hid (GE.nx ⟨cs, n, W, H, []⟩ I2 = nx cs n I2) := rfl
    rw [HE4.out] at HN4
    obtain ⟨x4, hx4⟩ : ∃ x, nx cs n I2 = x := ⟨_, rfl⟩
    rw [hx4] at HN4 HGP k4
    obtain ⟨m4, hm4⟩ : ∃ m, x4 % 9 = m := ⟨_, rfl⟩
    have t4 : (x4 : Int).tmod 9 = (m4 : Int) := by rw [← hm4]; rfl
    rw [hm4] at HGP
    obtain ⟨N, hN⟩ : ∃ m, 2 + m4 = m := ⟨_, rfl⟩
    have u4 : IntKind.i64.wrap (2 + (m4 : Int)) = (N : Int) := by rw [IntKind.wrap_i64]; omega
    have hN11 : N ≤ 10 := by omega
    rw [hN] at HGP
    obtain ⟨O4, hO4⟩ : ∃ Z, O2 ++ (({ data := #[109, 97, 99, 114, 111, 32, 114, 111, 119, 40, 105, 110, 116, 32, 121, 44, 32, 116, 101, 120, 116, 32, 115, 41, 32] } : ByteArray) ++ X2) ++ ({ data := #[109, 97, 99, 114, 111, 32, 100, 101, 101, 112, 40, 105, 110, 116, 32, 100, 41, 32, 123, 32, 105, 102, 32, 100, 32, 62, 32, 48, 32, 123, 32, 99, 97, 108, 108, 32, 100, 101, 101, 112, 40, 100, 32, 45, 32, 49, 41, 59, 32, 125, 32, 101, 108, 115, 101, 32, 123, 32, 119, 97, 108, 108, 32, 48, 44, 32, 48, 59, 32, 125, 32, 125, 10] } : ByteArray) = Z := ⟨_, rfl⟩
    have o4 : O4.size ≤ 30000 := by rw [← hO4]; simp only [ByteArray.size_append, lsz, List.size_toArray, List.length_cons, List.length_nil]; omega
    rw [hO4] at HGP
    have hO := hO4
    clear hO4 hx4 hm4 hN
    go_wp2_with fail
    refine HN4.out.mono ?_
    rintro r w11 ⟨rfl, h11, hg11⟩
    have HG11 := hide h11
    have HW11 : Hid (Gw (· = R) w w11) := HW10.out.then hg11
    clear h11 hg11 HN4 HG10 HW10
    go_wp2
    try rw [hO]
    clear hO s5 s6 s7 t4 u4
    obtain ⟨I3, hI3⟩ : ∃ I, I2 + 1 = I := ⟨_, rfl⟩
    rw [hI3] at HGP HG11
    clear hI3
    have HSL5 := hide (stL_all ⟨cs, n, W, H, []⟩ (fun x hx => by cases hx) 15)
    have hs5 := SBd_le 15 (Nat.le_refl _)
    obtain ⟨sb, hsb⟩ : ∃ x, SBd 15 = x := ⟨_, rfl⟩
    rw [hsb] at hs5
    have HSB := hide hsb
    clear hsb
    go_loopw [4, 8] (fun os ix wr => ∃ (j : Nat) (o : ByteArray) (i' : Nat) (vi : Value) (ints : List ByteArray), j ≤ N ∧ ix = .int .i64 j ∧ os = .string o ∧ gPl (gS ⟨cs, n, W, H, []⟩ 15) n N 0 O4 I3 [] 14 = gPl (gS ⟨cs, n, W, H, []⟩ 15) n (N - j) j o i' ints (14 - j) ∧ GnAt wr ⟨R, Gm, a0, b, off, cap⟩ ⟨cs, n, W, H, []⟩ i' vi (.slice none 0 0) ints (14 - j) ∧ Gw (· = R) w wr ∧ o.size ≤ 30000 + j * sb ∧ ints.length ≤ j ∧ (∀ k, vi.ownBlock = some k → w.heap.size ≤ k)) (fun _ ix _ => N - (intOf ix).toNat)
    case atStart => exact ⟨0, O4, I3, _, [], Nat.zero_le _, rfl, rfl, rfl, HG11.out, HW11.out, by omega, Nat.le_refl _, fun k hk => by simp [Value.ownBlock] at hk⟩
    case round =>
      clear HG11 HW11
      obtain ⟨j, o, i', vi, ints, hj, rfl, rfl, hpl, hg, hw, ho, hil, hv⟩ := hrel
      rename World => V
      have HPL := hide hpl
      have HG := hide hg
      have HWV := hide hw
      have HV := hide hv
      have HOS := hide ho
      have HBD : Hid (j * sb ≤ 10 * sb) := Nat.mul_le_mul_right _ (by omega)
      clear hpl hw hv ho
      have HBODY : Hid (∀ V', Below V.heap.size V V' → j < N → (j < 2 ∨ i' < n) → Calls Tryz.prog 35 #[.pointer (some ⟨Gm, 0, none⟩)] V' fun r w' => ∃ o2 i2 vi2 ints2, r = .returned (.string o2) ∧ o2.size ≤ sb ∧ gPl (gS ⟨cs, n, W, H, []⟩ 15) n N 0 O4 I3 [] 14 = gPl (gS ⟨cs, n, W, H, []⟩ 15) n (N - (j + 1)) (j + 1) (o ++ o2) i2 ints2 (14 - ((j + 1 : Nat) : Int)) ∧ GnAt w' ⟨R, Gm, a0, b, off, cap⟩ ⟨cs, n, W, H, []⟩ i2 vi2 (.slice none 0 0) ints2 (14 - ((j + 1 : Nat) : Int)) ∧ Gw (· = R) w w' ∧ ints2.length ≤ j + 1 ∧ (∀ k, vi2.ownBlock = some k → w.heap.size ≤ k)) := fun V' hV' hjN hc => by
        have hg' := HG.out.below hV'
        have hlen := HSL5.out i' ints (14 - j) hg'.ns
        refine (stC_all 15 ⟨R, Gm, a0, b, off, cap⟩ ⟨cs, n, W, H, []⟩ i' vi (.slice none 0 0) ints (14 - j) V' hg' (by omega) (by decide) (by decide) (by omega) (by omega)).mono ?_
        rintro r w' ⟨vi2, rfl, q1, q2, q3⟩
        have hW1 : Gw (· = R) w V' := HWV.out.trans (Gw.of_below hV' (P := fun _ => False)) (fun _ _ g => g.elim)
        refine ⟨(gS ⟨cs, n, W, H, []⟩ 15 i' ints (14 - j)).s, (gS ⟨cs, n, W, H, []⟩ 15 i' ints (14 - j)).i, vi2, (gS ⟨cs, n, W, H, []⟩ 15 i' ints (14 - j)).ints, rfl, by rw [← HSB.out]; exact hlen.1, ?_, ?_, ?_, by have := hlen.2.2; omega, ?_⟩
        · rw [HPL.out, show N - j = (N - (j + 1)) + 1 by omega, gPl_step, if_pos hc, show (14 : Int) - (j : Int) - 1 = 14 - ((j + 1 : Nat) : Int) by omega]
        · rw [show (14 : Int) - ((j + 1 : Nat) : Int) = 14 - (j : Int) - 1 by omega]; exact q1
        · refine hW1.trans q2 (fun k hk q => ?_)
          rcases q with q | q | q
          · exact q
          · have := HGmw.out; simp only at q; omega
          · have := HV.out k q; omega
        · intro k hk
          rcases q3 with q | q
          · exact HV.out k (q ▸ hk)
          · exact Nat.le_trans hW1.size (q k hk)
      have HEND : Hid (∀ V', Below V.heap.size V V' → (¬ j < N ∨ ¬ (j < 2 ∨ i' < n)) → SrQ R a0 b off n cap cs (gP cs n i) w (.returned (.slice (some ⟨V'.heap.size, 0, none⟩) o.size (grownCap V' o.size 0 5))) (Lib.bytesWorld V' 5 o)) := fun V' hV' hc => by
        have he : gP cs n i = (o, i') := by
          rw [HGP.out]
          refine HPL.out.trans ?_
          by_cases hjN : j < N
          · rw [show N - j = (N - (j + 1)) + 1 by omega, gPl_step, if_neg (by rcases hc with q | q; exact absurd hjN q; exact q)]
          · rw [show N - j = 0 by omega]; rfl
        have hW1 : Gw (· = R) w V' := HWV.out.trans (Gw.of_below hV' (P := fun _ => False)) (fun _ _ g => g.elim)
        have hbw : Below V'.heap.size V' (Lib.bytesWorld V' 5 o) := ⟨rfl, rfl, rfl, by rw [Lib.bytesWorld_size]; omega, fun k hk => Lib.bytesWorld_at_old _ 5 o k hk⟩
        rw [he]
        refine ⟨V'.heap.size, _, rfl, grownCap_ge _ _ _ _, by have h1 := HOS.out; have h2 := HBD.out; show o.size ≤ _; omega, hW1.size, fun j hj => ?_, hW1.trans (Gw.of_below hbw (P := fun _ => False)) (fun _ _ g => g.elim), ((HG.out.below hV').below hbw).rd⟩
        have := bytes_bts V' o j hj
        rwa [Nat.zero_add] at this
      have hcv := fun W' => Lib.run_convert_string_bytes (P := Tryz.prog) W' 9 22 5 o Tryz.underlying9 Tryz.underlying22 Tryz.underlying5
      by_cases hjN : j < N
      · have tj : decide ((j : Int) < (N : Int)) = true := decide_eq_true (by omega)
        by_cases hj2 : j < 2
        · have tj2 : decide ((j : Int) < 2) = true := decide_eq_true (by omega)
          have HST := hide (HBODY.out V (Below.refl _ _) hjN (.inl hj2))
          clear hg
          go_wp2_with fail
          refine HST.out.mono ?_
          rintro r w' ⟨o2, i2, vi2, ints2, rfl, z1, z2, z3, z4, z5, z6⟩
          have HZ := hide (And.intro z2 (And.intro z3 (And.intro z4 (And.intro z5 z6))))
          have hos := HOS.out
          have hbd := HBD.out
          have q1 : ¬ 9223372036854775807 < o.size + o2.size := by omega
          clear z2 z3 z4 z5 z6 HST hbd
          go_wp2
          go_roundw
          case rel => exact ⟨j + 1, o ++ o2, i2, vi2, ints2, by omega, by go_num, rfl, HZ.out.1, HZ.out.2.1, HZ.out.2.2.1, by rw [ByteArray.size_append, Nat.succ_mul]; omega, HZ.out.2.2.2.1, HZ.out.2.2.2.2⟩
          case measure => simp [intOf]; omega
        · have tj2 : decide ((j : Int) < 2) = false := decide_eq_false (by omega)
          have HLF := hide (left_gn hg)
          obtain ⟨d, hd⟩ : ∃ d, n - min i' n = d := ⟨_, rfl⟩
          have HDD : Hid (0 < d ↔ i' < n) := by show _ ↔ _; omega
          have HLF2 : Hid (Calls Tryz.prog 34 #[.pointer (some ⟨R, 0, none⟩)] V fun r w' => r = .returned (.int .i64 (d : Nat)) ∧ Below V.heap.size V w') := by rw [← hd]; exact HLF.out
          clear hg HLF hd
          go_wp2_with fail
          refine HLF2.out.mono ?_
          rintro r V2 ⟨rfl, hb2⟩
          by_cases hd0 : 0 < d
          · have td : decide ((d : Int) > 0) = true := decide_eq_true (by omega)
            have HST := hide (HBODY.out V2 hb2 hjN (.inr (HDD.out.1 hd0)))
            clear hb2 HLF2
            go_wp2_with fail
            refine HST.out.mono ?_
            rintro r w' ⟨o2, i2, vi2, ints2, rfl, z1, z2, z3, z4, z5, z6⟩
            have HZ := hide (And.intro z2 (And.intro z3 (And.intro z4 (And.intro z5 z6))))
            have hos := HOS.out
            have hbd := HBD.out
            have q1 : ¬ 9223372036854775807 < o.size + o2.size := by omega
            clear z2 z3 z4 z5 z6 HST hbd
            go_wp2
            go_roundw
            case rel => exact ⟨j + 1, o ++ o2, i2, vi2, ints2, by omega, by go_num, rfl, HZ.out.1, HZ.out.2.1, HZ.out.2.2.1, by rw [ByteArray.size_append, Nat.succ_mul]; omega, HZ.out.2.2.2.1, HZ.out.2.2.2.2⟩
            case measure => simp [intOf]; omega
          · obtain rfl : d = 0 := by omega
            have HEE := hide (HEND.out V2 hb2 (.inr (fun q => by rcases q with q | q; exact hj2 q; have := HDD.out.2 q; omega)))
            clear hb2 HLF2
            go_wp2
            go_ret
            exact HEE.out
      · have tj : decide ((j : Int) < (N : Int)) = false := decide_eq_false (by omega)
        have HEE := hide (HEND.out V (Below.refl _ _) (.inl hjN))
        clear hg
        go_wp2
        go_ret
        exact HEE.out
end Go.Proofs.YthoinjddamlapaaGreatDoor
