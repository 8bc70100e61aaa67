import Derived.Test.YtbiakdjpeblclaaGreatDoorJPaPSA
import Derived.Test.YtbiakdjpeblclaaGreatDoorJPaRF
import Derived.Lib.ConvBytes
import Derived.Test.YtbiakdjpeblclaaGreatDoorJPaLX
namespace Go.Proofs.YtbiakdjpeblclaaGreatDoor
open Go.RowKit
theorem conv_bg (W : World) (s : ByteArray) : ∃ gc W', (convert 9 22 (.string s)).run Tryz.prog W = .ok (.slice (some ⟨W.heap.size, 0, none⟩) s.size gc) W' ∧ Below W.heap.size W W' ∧ BG W' (fun g => W.heap.size ≤ g) (.slice (some ⟨W.heap.size, 0, none⟩) s.size gc) s ∧ (∀ j, j < s.size → W'.cell? ⟨W.heap.size, j, none⟩ = some (bts s j)) ∧ W'.heap.size = W.heap.size + 1 := by
 have hc : ∀ j, j < s.size → (Lib.bytesWorld W 5 s).cell? ⟨W.heap.size, j, none⟩ = some (bts s j) := fun j hj => by
  rw [Lib.bytesWorld_cell W 5 s j hj]; unfold bts; rw [Utf8W.get!_of_lt s j hj]; have hj' : j < s.data.toList.length := by rw [Array.length_toList]; exact hj
  rw [List.getD_eq_getElem?_getD, List.getElem?_eq_getElem hj', Option.getD_some, Array.getElem_toList]; rfl
 refine ⟨grownCap W s.size 0 5, Lib.bytesWorld W 5 s, Lib.run_convert_string_bytes (P := Tryz.prog) W 9 22 5 s Tryz.underlying9 Tryz.underlying22 Tryz.underlying5, ⟨rfl, rfl, rfl, by rw [Lib.bytesWorld_size]; omega, fun j hj => Lib.bytesWorld_at_old W 5 s j hj⟩, ⟨_, W.heap.size, _, rfl, fun _ => ⟨rfl, Nat.le_refl _⟩, fun _ j u hj => ?_⟩, hc, by rw [Lib.bytesWorld_size]⟩
 have hl : j < s.size := by
  rcases Nat.lt_or_ge j s.size with h | h
  · exact h
  · rw [List.getElem?_eq_none (by rw [byv_len]; exact h)] at hj; cases hj
 rw [byv_at s j hl] at hj
 rw [hc j hl]; exact hj
set_option maxHeartbeats 1000000 in
set_option maxRecDepth 1000000 in
theorem l2ident_any {w : World} {c : PsC} {e : PsE} {p : Ps} (h : PsW w c e p) :
  Calls Tryz.prog 36 #[.pointer (some ⟨c.P, 0, none⟩)] w fun r w' => (∃ v, r = .returned v ∧ BG w' (fun g => w.heap.size ≤ g) v (e.ident p).1 ∧ (e.ident p).1.size ≤ 5000) ∧ RdQ c e (e.ident p).2 w w' := by
 have HK := hide (l2kind_any h)
 have hk5 := PsE.kind_le h
 have hPl := h.blk.lt
 by_cases c1 : e.kind p = 1
 · have hns := PsE.now_size h
  have hat := h.at_
  have htl := h.tl
  have hal : p.at_ ≤ 5000 := by omega
  have hlt := (kind_pos (e := e) (p := p) (by omega)).2
  rw [c1] at HK
  have HE : Hid (e.ident p = (e.now p, { p with at_ := p.at_ + 1, long := p.long || decide (30 < (e.now p).size) })) := by show _ = _; unfold PsE.ident; rw [if_pos c1]
  have HNW := hide (fun W (hW : Below w.heap.size w W) => l2now_any (h.below hW))
  have HPS := hide (fun W (hW : Below w.heap.size w W) => h.below hW)
  obtain ⟨R, hR⟩ : ∃ R, e.now p = R := ⟨_, rfl⟩
  rw [hR] at HE hns
  simp only [hR] at HNW
  clear h hR c1 hat htl
  go_enter Tryz.func36, Tryz.ntmps36
  go_wp2_with fail
  refine HK.out.mono ?_
  rintro r w' ⟨rfl, m0, rfl⟩
  go_wp2_with fail
  refine (HNW.out _ (below_drewN (Below.refl _ _) m0)).mono ?_
  rintro r w1 ⟨rfl, hb⟩
  have hB := (below_drewN (Below.refl w.heap.size w) m0).trans hb
  obtain ⟨gc, W', hcv, hb2, hbg, _, hsz⟩ := conv_bg w1 R
  have hBW := hB.trans (hb2.mono hB.size)
  have hps := HPS.out _ hBW
  obtain ⟨g0, g1, g2, g3, g4⟩ := hps.cells
  have f2 := hps.fz 2
  have f4 := hps.fz 4
  have hq : RdQ c e { p with at_ := p.at_ + 1 } w (W'.setCell ⟨c.P, 2, none⟩ (.int .i64 ((p.at_ : Nat) + 1 : Int))) := by
   have h1 := hps.one (p' := { p with at_ := p.at_ + 1 }) (k := 2) (v := .int .i64 ((p.at_ : Nat) + 1 : Int)) rfl (by show p.at_ + 1 ≤ _; omega) hps.bad
   exact ⟨h1.1, Gw.trans (Gw.of_below hBW) h1.2 (fun _ _ q => q)⟩
  obtain ⟨X, hX⟩ : ∃ X, W'.setCell ⟨c.P, 2, none⟩ (.int .i64 ((p.at_ : Nat) + 1 : Int)) = X := ⟨_, rfl⟩
  have hXg : Gw (· = c.P) W' X := by rw [← hX]; exact Gw.set _ _ _ _
  rw [hX] at hq
  have x4 := hq.1.cells.2.2.2.2
  have xf4 := hq.1.fz 4
  have HBG : Hid (BG X (fun g => w.heap.size ≤ g) (.slice (some ⟨w1.heap.size, 0, none⟩) R.size gc) R) := BG.gw (hbg.mono (fun g hg _ => Nat.le_trans hB.size hg)) hXg (fun k hk => by rw [hk]; omega)
  have HQ : Hid (RdQ c e { p with at_ := p.at_ + 1, long := p.long || decide (30 < R.size) } w (X.setCell ⟨c.P, 4, none⟩ (.bool (p.long || decide (30 < R.size)))) ∧ Gw (· = c.P) X (X.setCell ⟨c.P, 4, none⟩ (.bool (p.long || decide (30 < R.size))))) := by
   have h1 := hq.1.one (p' := { p with at_ := p.at_ + 1, long := p.long || decide (30 < R.size) }) (k := 4) (v := .bool (p.long || decide (30 < R.size))) rfl hq.1.at_ hq.1.bad
   exact ⟨hq.trans h1, h1.2⟩
  clear hb hb2 hbg hBW hps g0 g1 g3 hB hq hXg HPS HNW hsz
  have hdd : decide ((30 : Int) < (R.size : Int)) = decide (30 < R.size) := by
   by_cases q : 30 < R.size
   · rw [decide_eq_true q, decide_eq_true (by omega)]
   · rw [decide_eq_false q, decide_eq_false (by omega)]
  obtain ⟨D, hD⟩ : ∃ D, decide (30 < R.size) = D := ⟨_, rfl⟩
  rw [hD] at hdd HQ HE
  obtain ⟨L, hL⟩ : ∃ L, p.long = L := ⟨_, rfl⟩
  rw [hL] at x4 HQ HE g4
  clear hD hL
  cases L <;> go_wp2 <;> go_ret <;> rw [HE.out] <;> exact ⟨⟨_, rfl, HBG.out.gw HQ.out.2 (fun k hk => by rw [hk]; omega), hns⟩, HQ.out.1⟩
 · have t1 : (((e.kind p : Nat) : Int) != 1) = true := by rw [bne_iff_ne]; omega
  have HE : Hid (e.ident p = (⟨#[]⟩, e.wrong p)) := by show _ = _; unfold PsE.ident; rw [if_neg c1]
  have HPS := hide (fun m => l2wrong_any (h.drew m))
  obtain ⟨K, hK⟩ : ∃ K, e.kind p = K := ⟨_, rfl⟩
  rw [hK] at HK t1
  clear h hK c1 hk5
  go_enter Tryz.func36, Tryz.ntmps36
  go_wp2_with fail
  refine HK.out.mono ?_
  rintro r w' ⟨rfl, m0, rfl⟩
  go_wp2_with fail
  refine (HPS.out m0).mono ?_
  rintro r w1 ⟨rfl, hq⟩
  have HQ : Hid (RdQ c e (e.wrong p) w w1) := ⟨hq.1, Gw.trans (Gw.of_below (below_drewN (Below.refl _ _) m0)) hq.2 (fun _ _ q => q)⟩
  clear hq
  go_wp2
  go_ret
  rw [HE.out]
  exact ⟨⟨_, rfl, RwG.nil _ _ _ _, Nat.zero_le _⟩, HQ.out⟩
def Nf (w : World) (v : Value) : Prop := ∀ (g n c : Nat), v = .slice (some ⟨g, 0, none⟩) n c → ∀ j, j < n → w.frozen? ⟨g, j, none⟩ = false
structure RGf (w : World) (G : Nat → Prop) (v : Value) (n : Nat) (xs : List Value) : Prop where
 row : RwG w G v n xs
 len : xs.length = n
 nf : Nf w v
theorem RGf.gw {P : Nat → Prop} {w w' : World} {G : Nat → Prop} {n : Nat} {v : Value} {xs : List Value} (h : RGf w G v n xs) (hg : Gw P w w') (hp : ∀ k, P k → ¬ G k) : RGf w' G v n xs := by
 refine ⟨h.row.gw hg hp, h.len, fun g n' c e j hj => ?_⟩
 obtain ⟨a, g', c', h1, h2, h3⟩ := h.row
 have hnf := h.nf g n' c e j hj
 rw [h1] at e
 injection e with e1 e2 e3
 have hn : 0 < n := by omega
 obtain ⟨k1, k2⟩ := h2 hn
 rw [k1] at e1
 injection e1 with e1
 injection e1 with e1
 subst e1
 have hl := h.len
 have hlt : g' < w.heap.size := World.block_lt_of_cell? _ _ (h3 hn 0 _ (List.getElem?_eq_getElem (by omega)))
 rw [World.frozen?_of_block (w := w) (hg.block g' hlt (fun q => hp _ q k2))]
 exact hnf
theorem RGf.mono {w : World} {G G' : Nat → Prop} {n : Nat} {v : Value} {xs : List Value} (h : RGf w G v n xs) (hG : ∀ g, G g → g < w.heap.size → G' g) : RGf w G' v n xs := ⟨h.row.mono (ne_of_len (by rw [h.len]; exact Nat.le_refl _)) hG, h.len, h.nf⟩
theorem RGf.nil (w : World) (G : Nat → Prop) (c : Nat) : RGf w G (.slice none 0 c) 0 [] := ⟨RwG.nil _ _ _ _, rfl, fun g n c e => by injection e with e; cases e⟩
theorem RGf.of_own {w : World} {G : Nat → Prop} {B e n : Nat} {v : Value} {xs : List Value} (h : w.ownsRow B e 1 v n xs) (hb : ∀ g, v.ownBlock = some g → G g) : RGf w G v n xs := by
 obtain ⟨a, g, c, h1, h2, h3⟩ := RwG.of_own (G := fun _ => True) h (fun _ _ => trivial)
 refine ⟨⟨a, g, c, h1, fun hn => ⟨(h2 hn).1, hb g (by rw [h1, (h2 hn).1]; rfl)⟩, h3⟩, by have := h.1; omega, fun g' n' c' hv j hj => ?_⟩
 rcases h.2 with ⟨k1, _⟩ | ⟨g2, c2, cur, k1, _, k2, _⟩
 · rw [k1] at hv; injection hv with hv; cases hv
 · rw [k1] at hv
  injection hv with hv
  injection hv with hv
  injection hv with hv
  subst hv
  simp [World.frozen?, k2]
def BGf (w : World) (G : Nat → Prop) (v : Value) (s : ByteArray) : Prop := RGf w G v s.size (byv s)
theorem BGf.bg {w : World} {G : Nat → Prop} {v : Value} {s : ByteArray} (h : BGf w G v s) : BG w G v s := h.row
theorem BGf.gw {P : Nat → Prop} {w w' : World} {G : Nat → Prop} {v : Value} {s : ByteArray} (h : BGf w G v s) (hg : Gw P w w') (hp : ∀ k, P k → ¬ G k) : BGf w' G v s := RGf.gw h hg hp
theorem BGf.mono {w : World} {G G' : Nat → Prop} {v : Value} {s : ByteArray} (h : BGf w G v s) (hG : ∀ g, G g → g < w.heap.size → G' g) : BGf w G' v s := RGf.mono h hG
theorem BGf.slc {w : World} {G : Nat → Prop} {v : Value} {s : ByteArray} (h : BGf w G v s) : ∃ a c, v = .slice a s.size c := h.bg.slc
theorem conv_bf (W : World) (s : ByteArray) : ∃ gc W', (convert 9 22 (.string s)).run Tryz.prog W = .ok (.slice (some ⟨W.heap.size, 0, none⟩) s.size gc) W' ∧ Below W.heap.size W W' ∧ BGf W' (fun g => W.heap.size ≤ g) (.slice (some ⟨W.heap.size, 0, none⟩) s.size gc) s := by
 have hc : ∀ j, j < s.size → (Lib.bytesWorld W 5 s).cell? ⟨W.heap.size, j, none⟩ = some (bts s j) := fun j hj => by
  rw [Lib.bytesWorld_cell W 5 s j hj]; unfold bts; rw [Utf8W.get!_of_lt s j hj]; have hj' : j < s.data.toList.length := by rw [Array.length_toList]; exact hj
  rw [List.getD_eq_getElem?_getD, List.getElem?_eq_getElem hj', Option.getD_some, Array.getElem_toList]; rfl
 refine ⟨grownCap W s.size 0 5, Lib.bytesWorld W 5 s, Lib.run_convert_string_bytes (P := Tryz.prog) W 9 22 5 s Tryz.underlying9 Tryz.underlying22 Tryz.underlying5, ⟨rfl, rfl, rfl, by rw [Lib.bytesWorld_size]; omega, fun j hj => Lib.bytesWorld_at_old W 5 s j hj⟩, ⟨⟨_, W.heap.size, _, rfl, fun _ => ⟨rfl, Nat.le_refl _⟩, fun _ j u hj => ?_⟩, byv_len s, fun g n c e j hj => ?_⟩⟩
 · have hl : j < s.size := by
   rcases Nat.lt_or_ge j s.size with h | h
   · exact h
   · rw [List.getElem?_eq_none (by rw [byv_len]; exact h)] at hj; cases hj
  rw [byv_at s j hl] at hj
  rw [hc j hl]; exact hj
 · injection e with e1 e2 e3
  injection e1 with e1
  injection e1 with e1
  subst e1
  have h1 := hc j (by omega)
  have h2 := Lib.bytesWorld_at_new W 5 s
  have h3 : j < (Lib.bytesCells W 5 s).size := by
   simp only [World.cell?, h2] at h1
   rcases Nat.lt_or_ge j (Lib.bytesCells W 5 s).size with q | q
   · exact q
   · rw [Array.getElem?_eq_none q] at h1; cases h1
  simp [World.frozen?, h2]
  omega
def Iv (a b : Nat) (g : Nat) : Prop := a ≤ g ∧ g < b
def Dj (Gs : Nat → Nat → Prop) : Prop := ∀ i j g, i ≠ j → Gs i g → ¬ Gs j g
def SGd (w : World) (G : Nat → Prop) (Gs : Nat → Nat → Prop) (v : Value) (L : List ByteArray) : Prop := ∃ M : List Value, M.length = L.length ∧ RwG w G v L.length M ∧ ∀ (j : Nat) (x : ByteArray), L[j]? = some x → ∃ u : Value, M[j]? = some u ∧ BGf w (Gs (j + 2)) u x
structure Nv.Od (w : World) (G : Nat → Prop) (m : Nv) : Prop where
 ok : m.Ok w G
 ap : ∃ Gs, Dj Gs ∧ (∀ j g, Gs j g → G g) ∧ BGf w (Gs 0) m.t m.d.text ∧ RGf w (Gs 1) m.y m.d.types.length (inv m.d.types) ∧ SGd w G Gs m.n m.d.names
theorem Nv.Od.gw {P : Nat → Prop} {w w' : World} {G : Nat → Prop} {m : Nv} (h : m.Od w G) (hg : Gw P w w') (hp : ∀ k, P k → ¬ G k) : m.Od w' G := by
 obtain ⟨Gs, h1, h2, h3, h4, M, h0, h5, h6⟩ := h.ap
 have hq : ∀ j k, P k → ¬ Gs j k := fun j k a b => hp k a (h2 j k b)
 refine ⟨h.ok.gw hg hp, Gs, h1, h2, h3.gw hg (hq 0), h4.gw hg (hq 1), M, h0, h5.gw hg hp, fun j x hj => ?_⟩
 obtain ⟨u, a, b⟩ := h6 j x hj
 exact ⟨u, a, b.gw hg (hq _)⟩
theorem Nv.Od.mono {w : World} {G G' : Nat → Prop} {m : Nv} (h : m.Od w G) (hG : ∀ g, G g → g < w.heap.size → G' g) : m.Od w G' := by
 obtain ⟨Gs, h1, h2, h3, h4, M, h0, h5, h6⟩ := h.ap
 refine ⟨h.ok.mono hG, fun j g => Gs j g ∧ g < w.heap.size, fun i j g q a b => h1 i j g q a.1 b.1, fun j g a => hG g (h2 j g a.1) a.2, h3.mono (fun g a b => ⟨a, b⟩), h4.mono (fun g a b => ⟨a, b⟩), M, h0, h5.mono (ne_of_len (by rw [h0]; exact Nat.le_refl _)) hG, fun j x hj => ?_⟩
 obtain ⟨u, a, b⟩ := h6 j x hj
 exact ⟨u, a, b.mono (fun g a b => ⟨a, b⟩)⟩
theorem Nv.Od.kept {w w' : World} {G : Nat → Prop} {m : Nv} (h : m.Od w G) (hb : Below w.heap.size w w') : m.Od w' G := h.gw (P := fun _ => False) (Gw.of_below hb) (fun _ q => q.elim)
def oneG (i : Nat) (G : Nat → Prop) (j g : Nat) : Prop := j = i ∧ G g
theorem oneG_dj (i : Nat) (G : Nat → Prop) : Dj (oneG i G) := fun _ _ _ q h k => q (h.1.trans k.1.symm)
theorem od_plain (w : World) (G : Nat → Prop) (k n : Int) : (⟨{ ndK k with n := n }, .slice none 0 0, .slice none 0 0, .slice none 0 0⟩ : Nv).Od w G :=
 ⟨⟨RwG.nil _ _ _ _, ⟨[], rfl, RwG.nil _ _ _ _, fun j x h => by simp [ndK] at h⟩, RwG.nil _ _ _ _, by show (0 : Nat) ≤ _; omega, by show (0 : Nat) ≤ _; omega, fun x hx => by simp [ndK] at hx, by show (0 : Nat) ≤ _; omega⟩, oneG 0 G, oneG_dj 0 G, fun _ _ a => a.2, RGf.nil _ _ _, RGf.nil _ _ _, [], rfl, RwG.nil _ _ _ _, fun j x h => by simp [ndK] at h⟩
theorem od_text {w : World} {G : Nat → Prop} {v : Value} {s : ByteArray} (h : BGf w G v s) (hs : s.size ≤ 1048576) : (⟨{ ndK 17 with text := s }, v, .slice none 0 0, .slice none 0 0⟩ : Nv).Od w G :=
 ⟨⟨h.bg, ⟨[], rfl, RwG.nil _ _ _ _, fun j x h => by simp [ndK] at h⟩, RwG.nil _ _ _ _, hs, by show (0 : Nat) ≤ _; omega, fun x hx => by simp [ndK] at hx, by show (0 : Nat) ≤ _; omega⟩, oneG 0 G, oneG_dj 0 G, fun _ _ a => a.2, BGf.mono h (fun g a _ => ⟨rfl, a⟩), RGf.nil _ _ _, [], rfl, RwG.nil _ _ _ _, fun j x h => by simp [ndK] at h⟩
theorem od_name {w : World} {G : Nat → Prop} {g : Nat} {k : Int} {t : TypeId} {v : Value} {s : ByteArray} (hb : Blk w g t #[v]) (hg : G g) (h : BGf w G v s) (hs : s.size ≤ 1048576) : (⟨{ ndK k with names := [s] }, .slice none 0 0, .slice (some ⟨g, 0, none⟩) 1 1, .slice none 0 0⟩ : Nv).Od w G :=
 ⟨⟨RwG.nil _ _ _ _, ⟨[v], rfl, RwG.of_blk hb hg 1, fun j x hj => by
  cases j with
  | zero => obtain rfl : s = x := by simpa [ndK] using hj
       exact ⟨v, rfl, h.bg⟩
  | succ j => simp at hj⟩, RwG.nil _ _ _ _, by show (0 : Nat) ≤ _; omega, by show (1 : Nat) ≤ _; omega, fun x hx => by rw [List.mem_singleton.1 hx]; exact hs, by show (0 : Nat) ≤ _; omega⟩, oneG 2 G, oneG_dj 2 G, fun _ _ a => a.2, RGf.nil _ _ _, RGf.nil _ _ _, [v], rfl, RwG.of_blk hb hg 1, fun j x hj => by
  cases j with
  | zero => obtain rfl : s = x := by simpa [ndK] using hj
       exact ⟨v, rfl, BGf.mono h (fun g a _ => ⟨rfl, a⟩)⟩
  | succ j => simp at hj⟩
def ptM (m : Nv) (pl : Nat) (ks : List Pt) : Pt := ⟨m.d :: (ks.map Pt.t).flatten, pl :: (ks.map Pt.p).flatten⟩
def prv (m : Nv) (pl : Nat) (vb : Value) : Value := .agg #[.int .i64 m.d.kind, .int .i64 m.d.n, m.t, m.n, m.y, .int .i64 m.d.count, .int .i64 (pl : Nat), vb]
theorem ptM_eq {m : Nv} {n : Nd} {pl : Nat} {ks : List Pt} (h : m.d = { n with count := (ks.length : Int) }) : ptM m pl ks = ptN n pl ks := by unfold ptM ptN; rw [h]
inductive PM (w : World) : (Nat → Prop) → Pt → Value → Prop
 | mk (G : Nat → Prop) (Gs : Nat → Nat → Prop) (m : Nv) (pl : Nat) (ks : List Pt) (vb : Value) (us : List Value) (hd : Dj Gs) (hG : ∀ j g, Gs j g → G g) (hk : 0 ≤ m.d.kind ∧ m.d.kind ≤ 22) (hc : m.d.count = (ks.length : Int)) (hm : m.Od w (Gs 0)) (hl : us.length = ks.length) (hb : RwG w G vb ks.length us) (hs : ∀ (j : Nat) (k : Pt) (u : Value), ks[j]? = some k → us[j]? = some u → PM w (Gs (j + 1)) k u) : PM w G (ptM m pl ks) (.iface (ptK m.d.kind) (prv m pl vb))
theorem PM.gw {P : Nat → Prop} {w w' : World} {G : Nat → Prop} {x : Pt} {v : Value} (h : PM w G x v) (hg : Gw P w w') (hp : ∀ k, P k → ¬ G k) : PM w' G x v := by
 induction h with
 | mk G Gs m pl ks vb us hd hG hk hc hm hl hb _ ih =>
  have hq : ∀ j k, P k → ¬ Gs j k := fun j k a b => hp k a (hG j k b)
  exact PM.mk G Gs m pl ks vb us hd hG hk hc (hm.gw hg (hq 0)) hl (hb.gw hg hp) (fun j k u a b => ih j k u a b (hq _))
theorem PM.mono {w : World} {G : Nat → Prop} {x : Pt} {v : Value} (h : PM w G x v) : ∀ {G' : Nat → Prop}, (∀ g, G g → g < w.heap.size → G' g) → PM w G' x v := by
 induction h with
 | mk G Gs m pl ks vb us hd hG hk hc hm hl hb _ ih =>
  intro G' hG'
  exact PM.mk G' (fun j g => Gs j g ∧ g < w.heap.size) m pl ks vb us (fun i j g q a b => hd i j g q a.1 b.1) (fun j g a => hG' g (hG j g a.1) a.2) hk hc (hm.mono (fun g a b => ⟨a, b⟩)) hl (hb.mono (ne_of_len (by rw [hl]; exact Nat.le_refl _)) hG') (fun j k u a b => ih j k u a b (fun g a b => ⟨a, b⟩))
theorem PM.kept {w w' : World} {G : Nat → Prop} {x : Pt} {v : Value} (h : PM w G x v) (hb : Below w.heap.size w w') : PM w' G x v := h.gw (P := fun _ => False) (Gw.of_below hb) (fun _ q => q.elim)
theorem PM.iv {w : World} {a : Nat} {x : Pt} {v : Value} (h : PM w (fun g => a ≤ g) x v) : PM w (Iv a w.heap.size) x v := h.mono (fun _ q hl => ⟨q, hl⟩)
structure PmI (L : Nat) (V : World) (a b : Nat) (x : Pt) (v : Value) : Prop where
 lo : L ≤ a
 pm : PM V (Iv a b) x v
theorem PmI.rd {L : Nat} {V V' : World} {a b : Nat} {x : Pt} {v : Value} {c : PsC} (h : PmI L V a b x v) (hg : Gw (· = c.P) V V') (hP : c.P < L) : PmI L V' a b x v := ⟨h.lo, h.pm.gw hg (fun k hk q => by rw [hk] at q; have := h.lo; have := q.1; omega)⟩
theorem PmI.kept {L : Nat} {V V' : World} {a b : Nat} {x : Pt} {v : Value} (h : PmI L V a b x v) (hb : Below V.heap.size V V') : PmI L V' a b x v := ⟨h.lo, h.pm.kept hb⟩
def Pts (w : World) (lo hi : Nat) (ks : List Pt) (us : List Value) : Prop := ∃ Gs, Dj Gs ∧ (∀ j g, Gs j g → lo ≤ g ∧ g < hi) ∧ ∀ (j : Nat) (k : Pt) (u : Value), ks[j]? = some k → us[j]? = some u → PM w (Gs j) k u
theorem Pts.nil (w : World) (lo hi : Nat) : Pts w lo hi [] [] := ⟨fun _ _ => False, fun _ _ _ _ h => h.elim, fun _ _ h => h.elim, fun j k u h _ => by simp at h⟩
theorem Pts.app {w : World} {lo mi mj hi : Nat} {ks xs : List Pt} {us ys : List Value} (h : Pts w lo mi ks us) (hl : us.length = ks.length) (k : Pts w mj hi xs ys) (hm : mi ≤ mj) (h1 : lo ≤ mj) (h2 : mi ≤ hi) : Pts w lo hi (ks ++ xs) (us ++ ys) := by
 obtain ⟨Gs, d1, s1, e1⟩ := h
 obtain ⟨Gx, d2, s2, e2⟩ := k
 refine ⟨fun j => if j < ks.length then Gs j else Gx (j - ks.length), fun i j g q a b => ?_, fun j g a => ?_, fun j k u hk hu => ?_⟩
 · simp only at a b
  split at a <;> split at b
  · exact d1 i j g q a b
  · have := s1 _ _ a; have := s2 _ _ b; omega
  · have := s2 _ _ a; have := s1 _ _ b; omega
  · exact d2 _ _ g (by omega) a b
 · simp only at a
  split at a
  · have := s1 _ _ a; omega
  · have := s2 _ _ a; omega
 · by_cases hj : j < ks.length
  · rw [List.getElem?_append_left hj] at hk
   rw [List.getElem?_append_left (by omega)] at hu
   simp only [if_pos hj]
   exact e1 j k u hk hu
  · rw [List.getElem?_append_right (by omega)] at hk
   rw [List.getElem?_append_right (by omega), hl] at hu
   simp only [if_neg hj]
   exact e2 _ k u hk hu
theorem Pts.one {w : World} {a b : Nat} {x : Pt} {v : Value} (h : PM w (Iv a b) x v) : Pts w a b [x] [v] :=
 ⟨oneG 0 (Iv a b), oneG_dj _ _, fun _ _ q => q.2, fun j k u hk hu => by
  cases j with
  | zero => injection hk with hk; injection hu with hu; rw [← hk, ← hu]; exact h.mono (fun _ q _ => ⟨rfl, q⟩)
  | succ j => simp at hk⟩
theorem Pts.two {w : World} {a b a' b' : Nat} {x y : Pt} {v u : Value} (h : PM w (Iv a b) x v) (k : PM w (Iv a' b') y u) (h1 : b ≤ a') (h2 : a ≤ a') (h3 : b ≤ b') : Pts w a b' [x, y] [v, u] := (Pts.one h).app rfl (Pts.one k) h1 h2 h3
theorem Pts.three {w : World} {a b a' b' a2 b2 : Nat} {x y z : Pt} {v u t : Value} (h : PM w (Iv a b) x v) (k : PM w (Iv a' b') y u) (l : PM w (Iv a2 b2) z t) (h1 : b ≤ a') (h2 : a ≤ a') (h3 : b ≤ b') (h4 : b' ≤ a2) (h5 : a ≤ a2) (h6 : b' ≤ b2) : Pts w a b2 [x, y, z] [v, u, t] := (Pts.two h k h1 h2 h3).app rfl (Pts.one l) h4 h5 h6
theorem Pts.kept {w w' : World} {lo hi : Nat} {ks : List Pt} {us : List Value} (h : Pts w lo hi ks us) (hb : Below w.heap.size w w') : Pts w' lo hi ks us := by
 obtain ⟨Gs, d1, s1, e1⟩ := h
 exact ⟨Gs, d1, s1, fun j k u a b => (e1 j k u a b).kept hb⟩
def Kids (w : World) (G : Nat → Prop) (m : Nv) (ks : List Pt) (us : List Value) : Prop := ∃ Gs, Dj Gs ∧ (∀ j g, Gs j g → G g) ∧ m.Od w (Gs 0) ∧ ∀ (j : Nat) (k : Pt) (u : Value), ks[j]? = some k → us[j]? = some u → PM w (Gs (j + 1)) k u
theorem Kids.leaf {w : World} {G : Nat → Prop} {m : Nv} (h : m.Od w G) : Kids w G m [] [] := ⟨oneG 0 G, oneG_dj 0 G, fun _ _ q => q.2, h.mono (fun _ q _ => ⟨rfl, q⟩), fun j k u h _ => by simp at h⟩
theorem Kids.of {w : World} {lo a b hi : Nat} {m : Nv} {ks : List Pt} {us : List Value} (h : m.Od w (Iv lo a)) (k : Pts w b hi ks us) (h1 : a ≤ b) (h2 : lo ≤ b) : Kids w (fun g => lo ≤ g) m ks us := by
 obtain ⟨Gs, d1, s1, e1⟩ := k
 refine ⟨fun j => match j with | 0 => Iv lo a | j + 1 => Gs j, fun i j g q x y => ?_, fun j g x => ?_, h, fun j k u hk hu => e1 j k u hk hu⟩
 · cases i with
  | zero => cases j with
   | zero => exact q rfl
   | succ j => have := s1 _ _ y; have := (show Iv lo a g from x).2; omega
  | succ i => cases j with
   | zero => have := s1 _ _ x; have := (show Iv lo a g from y).2; omega
   | succ j => exact d1 i j g (by omega) x y
 · cases j with
  | zero => exact (show Iv lo a g from x).1
  | succ j => have := s1 _ _ x; show lo ≤ g; omega
theorem Kids.plain {w : World} {lo hi : Nat} {k n : Int} {ks : List Pt} {us : List Value} (h : Pts w lo hi ks us) : Kids w (fun g => lo ≤ g) ⟨{ ndK k with n := n }, .slice none 0 0, .slice none 0 0, .slice none 0 0⟩ ks us := Kids.of (a := lo) (od_plain _ _ _ _) h (Nat.le_refl _) (Nat.le_refl _)
theorem Pts.low {w : World} {lo lo' hi : Nat} {ks : List Pt} {us : List Value} (h : Pts w lo hi ks us) (hl : lo' ≤ lo) : Pts w lo' hi ks us := by
 obtain ⟨Gs, d1, s1, e1⟩ := h
 exact ⟨Gs, d1, fun j g a => ⟨Nat.le_trans hl (s1 j g a).1, (s1 j g a).2⟩, e1⟩
end Go.Proofs.YtbiakdjpeblclaaGreatDoor
