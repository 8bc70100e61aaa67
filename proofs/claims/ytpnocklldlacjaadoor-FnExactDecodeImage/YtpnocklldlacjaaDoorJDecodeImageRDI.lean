/-
  Plainly: an image is read back; what DecodeImage answers.
  spec's reader by what is read plainly.
  The walk of l7little.
-/
import Derived.Test.YtpnocklldlacjaaDoorJDecodeImageRTP
import Derived.Test.YtpnocklldlacjaaDoorJDecodeImageRDM
import Derived.Test.YtpnocklldlacjaaDoorJDecodeImageTB
import Derived.Test.YtpnocklldlacjaaDoorJDecodeImageIMD
namespace Go.Proofs.YtpnocklldlacjaaDoor
open Go.RowKit

/-- The three numbers of the head. -/
def rH (f : Nat → Nat) (N : Nat) : Nat × Nat × Nat × (Nat × Bool) :=
  ((rn f N (4, false) 2).1, (rn f N (rn f N (4, false) 2).2 2).1, (rn f N (rn f N (rn f N (4, false) 2).2 2).2 2).1, (rn f N (rn f N (rn f N (4, false) 2).2 2).2 2).2)
/-- What the reader makes of bytes, ahead of the last look. -/
def rI (f : Nat → Nat) (N : Nat) : Option Tb :=
  if N < 4 then none
  else if 40 < (rH f N).1 ∨ 40 < (rH f N).2.1 ∨ 30 < (rH f N).2.2.1 then none
  else match rRs f N ((rH f N).1 * (rH f N).2.1) (rTs f N (rH f N).2.2.2 (rH f N).2.2.1).2 (rH f N).2.2.1 with
    | none => none
    | some (P, D, st) => if st.2 = true then none else some ⟨((rH f N).1 : Nat), ((rH f N).2.1 : Nat), (rTs f N (rH f N).2.2.2 (rH f N).2.2.1).1, D, P⟩
theorem rH_ok {f : Nat → Nat} {N : Nat} {d : Tb} (hd : TbOk d) (hN : 10 ≤ N) (h : Lies f 0 (imH d)) : rH f N = (d.w.toNat, d.h.toNat, d.targets.length, (10, false)) := by
  have w1 := hd.w1; have h1 := hd.h1; have t1 := hd.tg.len
  unfold imH at h
  have a1 : Lies f 4 (le 2 d.w.toNat) := by simpa using h.left.left.right
  have a2 : Lies f 6 (le 2 d.h.toNat) := by
    have := h.left.right
    simp only [List.length_append, le_len, List.length_cons, List.length_nil] at this
    exact this
  have a3 : Lies f 8 (le 2 d.targets.length) := by
    have := h.right
    simp only [List.length_append, le_len, List.length_cons, List.length_nil] at this
    exact this
  have e1 := rn_ok (N := N) (by show _ < 65536; omega) (by omega) a1
  have e2 := rn_ok (N := N) (by show _ < 65536; omega) (by omega) a2
  have e3 := rn_ok (N := N) (by show _ < 65536; omega) (by omega) a3
  unfold rH
  rw [e1]
  simp only
  rw [e2]
  simp only
  rw [e3]
theorem rI_ok {f : Nat → Nat} {N : Nat} {d : Tb} (hd : TbOk d) (hN : N = (im d).length) (h : Lies f 0 (im d)) : rI f N = some d := by
  have w0 := hd.w0; have h0 := hd.h0; have w1 := hd.w1; have h1 := hd.h1; have t1 := hd.tg.len
  have lH := imH_len d
  unfold im imB at h hN
  rw [List.length_append, List.length_append, List.length_append, lH] at hN
  have b1 := h.left.left.left
  have b2 := h.left.left.right
  have b3 := h.left.right
  rw [List.length_append, lH] at b3
  rw [lH] at b2
  rw [Nat.zero_add] at b2 b3
  have eH := rH_ok (N := N) hd (by omega) b1
  have hwh : d.w * d.h ≤ 1600 := by
    have : d.w * d.h ≤ 40 * 40 := Int.mul_le_mul w1 h1 (by omega) (by omega)
    omega
  have eT := rTs_ok (N := N) hd.tg hwh d.targets.length (Nat.le_refl _) (by omega) b2
  have hc : ((d.w.toNat * d.h.toNat : Nat) : Int) = d.w * d.h := by
    rw [Int.natCast_mul, Int.toNat_of_nonneg (by omega), Int.toNat_of_nonneg (by omega)]
  have eR := rRs_ok (f := f) (N := N) (p := 10 + (imTs d.targets d.targets.length).length) hd hc d.targets.length (Nat.le_refl _) (by omega) b3
  unfold rI
  rw [if_neg (by omega), eH]
  simp only
  rw [if_neg (by omega), eT]
  simp only
  rw [eR]
  simp only
  rw [if_neg (by decide)]
  have hdl := hd.dl; have hhl := hd.hl
  rw [List.take_length, ← hhl, List.take_length, hhl, ← hdl, List.take_length, Int.toNat_of_nonneg (by omega), Int.toNat_of_nonneg (by omega)]
/-- Two tables that may stand with one image are one. -/
theorem im_inj {d e : Tb} (hd : TbOk d) (he : TbOk e) (h : byt (im d) = byt (im e)) : d = e := by
  have h1 := rI_ok (N := (im d).length) hd rfl (lies_byt (im_lo hd))
  have h2 := rI_ok (N := (im e).length) he rfl (lies_byt (im_lo he))
  have hl : (im d).length = (im e).length := by rw [← byt_size, ← byt_size, h]
  rw [h, hl] at h1
  exact Option.some.inj (h1.symm.trans h2)
open Classical in
/-- What DecodeImage answers. -/
noncomputable def diF (s : ByteArray) : Tb := if h : ∃ d, TbOk d ∧ byt (im d) = s then h.choose else ⟨0, 0, [], [], []⟩
open Classical in
noncomputable def diC (s : ByteArray) : Int := if ∃ d, TbOk d ∧ byt (im d) = s then 0 else 9
theorem di_yes {s : ByteArray} {d : Tb} (hd : TbOk d) (h : byt (im d) = s) : diF s = d ∧ diC s = 0 := by
  have hx : ∃ d, TbOk d ∧ byt (im d) = s := ⟨d, hd, h⟩
  unfold diF diC
  rw [dif_pos hx, if_pos hx]
  exact ⟨im_inj hx.choose_spec.1 hd (hx.choose_spec.2.trans h.symm), rfl⟩
theorem di_no {s : ByteArray} (h : ¬ ∃ d, TbOk d ∧ byt (im d) = s) : diF s = ⟨0, 0, [], [], []⟩ ∧ diC s = 9 := by
  unfold diF diC
  rw [dif_neg h, if_neg h]
  exact ⟨rfl, rfl⟩
/-- What the reader makes of bytes is all that there may be. -/
theorem di_read {s : ByteArray} {d : Tb} (hd : TbOk d) (h : byt (im d) = s) : rI (fun j => (s.get! j).toNat) s.size = some d := by
  subst h
  rw [byt_size]
  exact rI_ok hd rfl (lies_byt (im_lo hd))
theorem di_none {s : ByteArray} (h : rI (fun j => (s.get! j).toNat) s.size = none) : diF s = ⟨0, 0, [], [], []⟩ ∧ diC s = 9 :=
  di_no fun ⟨d, hd, hs⟩ => by rw [di_read hd hs] at h; cases h
theorem di_some {s : ByteArray} {d : Tb} (h : rI (fun j => (s.get! j).toNat) s.size = some d) (h4 : 4 ≤ s.size) : (eiF d = s → diF s = d ∧ diC s = 0) ∧ (eiF d ≠ s → diF s = ⟨0, 0, [], [], []⟩ ∧ diC s = 9) := by
  refine ⟨fun he => ?_, fun he => di_no fun ⟨e, hd, hs⟩ => ?_⟩
  · by_cases hd : TbOk d
    · exact di_yes hd (by rw [← eiF_yes hd]; exact he)
    · rw [eiF_no hd] at he
      rw [← he] at h4
      exact absurd h4 (by decide)
  · rw [di_read hd hs] at h
    obtain rfl := Option.some.inj h
    exact he (by rw [eiF_yes hd]; exact hs)
theorem TbOk.b {d : Tb} (h : TbOk d) : TbB d := by
  have t1 := h.tg.len
  have hdl := h.dl
  have hhl := h.hl
  have hwh : d.w * d.h ≤ 1600 := by
    have : d.w * d.h ≤ 40 * 40 := Int.mul_le_mul h.w1 h.h1 (by have := h.h0; omega) (by omega)
    omega
  refine ⟨⟨by omega, fun j hj => ⟨by have := (h.tg.each j hj).s1; omega⟩⟩, ⟨by omega, fun j hj => ?_⟩, ⟨by omega, fun j hj => ?_⟩⟩
  · have := (h.rows j (by omega)).dl; omega
  · have := (h.rows j (by omega)).pl; omega
theorem diF_b (s : ByteArray) : TbB (diF s) := by
  by_cases h : ∃ d, TbOk d ∧ byt (im d) = s
  · obtain ⟨d, hd, hs⟩ := h
    rw [(di_yes hd hs).1]
    exact hd.b
  · rw [(di_no h).1]
    exact ⟨⟨by decide, fun j hj => absurd hj (Nat.not_lt_zero _)⟩, ⟨by decide, fun j hj => absurd hj (Nat.not_lt_zero _)⟩, ⟨by decide, fun j hj => absurd hj (Nat.not_lt_zero _)⟩⟩
end Go.Proofs.YtpnocklldlacjaaDoor

namespace Go.Proofs.YtpnocklldlacjaaDoor
open Go.RowKit

/-- The bytes of a text as numbers by place. -/
def fb (s : ByteArray) : Nat → Nat := fun j => (s.get! j).toNat
theorem fb_lt (s : ByteArray) (j : Nat) : fb s j < 256 := (s.get! j).toNat_lt
/-- A text in a block, with room. -/
structure Tx (w : World) (b o c : Nat) (s : ByteArray) : Prop where
  pos : 0 < s.size
  len : s.size ≤ 1048576
  cap : s.size ≤ c
  cell : ∀ j, j < s.size → w.cell? ⟨b, o + j, none⟩ = some (bts s j)
theorem Tx.lt {w : World} {b o c : Nat} {s : ByteArray} (h : Tx w b o c s) : b < w.heap.size := World.block_lt_of_cell? _ _ (h.cell 0 h.pos)
theorem Tx.wrs {w w' : World} {b o c : Nat} {s : ByteArray} {bl : List Nat} (h : Tx w b o c s) (hw : Wrs bl w w') (hb : b ∉ bl) : Tx w' b o c s :=
  ⟨h.pos, h.len, h.cap, fun j hj => (World.cell?_of_block (w := w) (a := ⟨b, o + j, none⟩) (hw.blk b h.lt hb)).trans (h.cell j hj)⟩
theorem Tx.below {w w' : World} {b o c : Nat} {s : ByteArray} (h : Tx w b o c s) (hb : Below w.heap.size w w') : Tx w' b o c s :=
  ⟨h.pos, h.len, h.cap, fun j hj => cell_kept (h.cell j hj) hb⟩
/-- The reader stands at st of s. -/
def RdS (w : World) (g b o c : Nat) (s : ByteArray) (st : Nat × Bool) : Prop := Rd w g (.slice (some ⟨b, o, none⟩) s.size c) st.1 st.2 ∧ st.1 ≤ s.size
theorem RdS.below {w w' : World} {g b o c : Nat} {s : ByteArray} {st : Nat × Bool} (h : RdS w g b o c s st) (hb : Below w.heap.size w w') : RdS w' g b o c s st := ⟨Blk.below h.1 hb, h.2⟩
theorem rn_in {s : ByteArray} {st : Nat × Bool} (h : st.1 ≤ s.size) (n : Nat) : (rn (fb s) s.size st n).2.1 ≤ s.size := by
  unfold rn
  split
  · exact h
  · show st.1 + n ≤ _; omega
theorem rb_in {s : ByteArray} {st : Nat × Bool} (h : st.1 ≤ s.size) (n : Nat) : (rb (fb s) s.size st n).2.1 ≤ s.size := by
  unfold rb
  split
  · exact h
  · show st.1 + n ≤ _; omega
theorem rn_lt {s : ByteArray} {st : Nat × Bool} {n : Nat} : (rn (fb s) s.size st n).1 < 256 ^ n := by
  unfold rn
  split
  · exact Nat.pow_pos (by decide)
  · exact nv_lt (fb_lt s) n st.1

theorem rb_len {s : ByteArray} {st : Nat × Bool} {n : Nat} : (rb (fb s) s.size st n).1.size ≤ n := by
  unfold rb
  split
  · exact Nat.zero_le _
  · show (byt _).size ≤ n
    rw [byt_size]
    simp
theorem rTs_len (f : Nat → Nat) (N : Nat) (st : Nat × Bool) : ∀ k, (rTs f N st k).1.length = k
  | 0 => rfl
  | k + 1 => by show ((rTs f N st k).1 ++ [_]).length = _; rw [List.length_append, rTs_len f N st k, List.length_singleton]

theorem l7num_any {w : World} {g b o c : Nat} {s : ByteArray} {st : Nat × Bool} {n : Nat} (hn : n ≤ 4) (hgb : g ≠ b) (ht : Tx w b o c s) (h : RdS w g b o c s st) :
    Calls Tryd.prog 42 #[.pointer (some ⟨g, 0, none⟩), .int .i64 n] w fun e w' => e = .returned (.int .i64 ((rn (fb s) s.size st n).1 : Nat)) ∧ RdS w' g b o c s (rn (fb s) s.size st n).2 ∧ Wrs [g] w w' := by
  obtain ⟨h1, h2⟩ := h
  have hin := rn_in h2 n
  obtain ⟨p, bad⟩ := st
  simp only at h1 h2
  by_cases hx : bad = true ∨ s.size < p + n
  · have e : rn (fb s) s.size (p, bad) n = (0, (p, true)) := if_pos hx
    rw [e] at hin ⊢
    exact (l7num_no g c s.size p n _ bad w ht.len h2 hn hx h1).mono fun _ _ ⟨q1, q2, q3⟩ => ⟨q1, ⟨q2, hin⟩, q3⟩
  · have e : rn (fb s) s.size (p, bad) n = (nv (fb s) p n, (p + n, false)) := if_neg hx
    rw [e] at hin ⊢
    obtain ⟨hx1, hx2⟩ := not_or.1 hx
    obtain rfl : bad = false := by simpa using hx1
    exact (l7num_ok g b o c p n s w ht.len ht.cap hn (by omega) hgb ht.cell h1).mono fun _ _ ⟨q1, q2, q3⟩ => ⟨q1, ⟨q2, hin⟩, q3⟩

theorem l7take_any {w : World} {g b o c : Nat} {s : ByteArray} {st : Nat × Bool} {n : Nat} (hn : n ≤ 100000000) (hgb : g ≠ b) (ht : Tx w b o c s) (h : RdS w g b o c s st) :
    Calls Tryd.prog 43 #[.pointer (some ⟨g, 0, none⟩), .int .i64 n] w fun e w' => ∃ v, e = .returned v ∧ BS w' v (rb (fb s) s.size st n).1 ∧ Cp v ∧ RdS w' g b o c s (rb (fb s) s.size st n).2 ∧ Wrs [g] w w' := by
  obtain ⟨h1, h2⟩ := h
  have hin := rb_in h2 n
  obtain ⟨p, bad⟩ := st
  simp only at h1 h2
  by_cases hx : bad = true ∨ s.size < p + n
  · have e : rb (fb s) s.size (p, bad) n = (ByteArray.empty, (p, true)) := if_pos hx
    rw [e] at hin ⊢
    refine (l7take_no g c s.size p n _ bad w ht.len h2 hn hx h1).mono ?_
    rintro _ _ ⟨q1, q2, q3⟩
    exact ⟨_, q1, ⟨none, 0, 0, 0, rfl, fun h => absurd h (Nat.not_lt_zero _), fun j hj => absurd hj (Nat.not_lt_zero _)⟩, Nat.le_refl _, ⟨q2, hin⟩, q3⟩
  · have e : rb (fb s) s.size (p, bad) n = (byt ((List.range n).map fun j => fb s (p + j)), (p + n, false)) := if_neg hx
    rw [e] at hin ⊢
    obtain ⟨hx1, hx2⟩ := not_or.1 hx
    obtain rfl : bad = false := by simpa using hx1
    have hlo : Lo ((List.range n).map fun j => fb s (p + j)) := fun x hx => by
      obtain ⟨j, _, rfl⟩ := List.mem_map.1 hx
      exact fb_lt s _
    have hlen : ((List.range n).map fun j => fb s (p + j)).length = n := by simp
    have hcap := ht.cap
    refine (l7take_ok g b o c s.size p n w ht.len ht.cap (by omega) h1).mono ?_
    rintro _ w' ⟨a', q1, qa, q2, q3⟩
    have ht' := ht.wrs q3 (fun hm => hgb (List.mem_singleton.1 hm).symm)
    refine ⟨_, q1, ⟨a', b, o + p, c - p, by rw [byt_size, hlen], fun hz => qa (by rw [byt_size, hlen] at hz; exact hz), fun j hj => ?_⟩, ?_, ⟨q2, hin⟩, q3⟩
    · rw [byt_size, hlen] at hj
      rw [byt_bts hlo (by rw [hlen]; exact hj), Nat.add_assoc, ht'.cell (p + j) (by omega), List.getD_eq_getElem?_getD, List.getElem?_map, List.getElem?_range hj]
      rfl
    · show n ≤ c - p
      omega
end Go.Proofs.YtpnocklldlacjaaDoor

namespace Go.Proofs.YtpnocklldlacjaaDoor
open Go.RowKit

set_option maxHeartbeats 1000000 in
set_option maxRecDepth 1000000 in
theorem l7little_any (v n : Nat) (w : World) (hv : v ≤ 4294967296) (hn : n ≤ 8) :
    Calls Tryd.prog 61 #[.int .i64 v, .int .i64 n] w fun x w' => ∃ u, x = .returned u ∧ w'.ownsRow w.heap.size 5 1 u (le n v).length (cv (le n v)) ∧ Below w.heap.size w w' := by
  go_enter Tryd.func61, Tryd.ntmps61
  go_wp2
  go_loopw [0, 5, 6] (fun x out ix wr => ∃ k : Nat, k ≤ n ∧ ix = .int .i64 k ∧ x = .int .i64 ((v / 256 ^ k : Nat) : Int) ∧ wr.ownsRow w.heap.size 5 1 out (le k v).length (cv (le k v)) ∧ Below w.heap.size w wr) (fun _ _ ix _ => n - (intOf ix).toNat)
  case atStart => exact ⟨0, Nat.zero_le _, rfl, by simp, World.ownsRow_nil _ _ _ _, Below.refl _ _⟩
  case round =>
    obtain ⟨k, hk, rfl, rfl, hown, hb⟩ := hrel
    have HO := hide hown
    have HB := hide hb
    have hwr := hb.size
    have HS := hide (le_snoc k v)
    obtain ⟨z, hz⟩ : ∃ z, v / 256 ^ k = z := ⟨_, rfl⟩
    have hzv : z ≤ 4294967296 := by rw [← hz]; exact Nat.le_trans (Nat.div_le_self _ _) hv
    obtain ⟨y, hy⟩ : ∃ y, v / 256 ^ (k + 1) = y := ⟨_, rfl⟩
    have hyz : y = z / 256 := by rw [← hy, ← hz, Nat.pow_succ, Nat.div_div_eq_div_mul]
    have HY := hide hy
    have hyb : y ≤ 4294967296 := by omega
    have hdv : ((z : Nat) : Int).tdiv 256 = (y : Nat) := by rw [Int.tdiv_eq_ediv_of_nonneg (by omega), hyz]; omega
    obtain ⟨r, hr⟩ : ∃ r, z % 256 = r := ⟨_, rfl⟩
    have hmd : ((z : Nat) : Int).tmod 256 = (r : Nat) := by rw [Int.tmod_eq_emod_of_nonneg (by omega), ← hr]; omega
    have hr8 : r < 256 := by omega
    rw [hz, hr] at HS
    rw [hz]
    obtain ⟨X, hX⟩ : ∃ X, le k v = X := ⟨_, rfl⟩
    rw [hX] at HO HS
    have HE0 := hide hX
    have HXL : Hid (X.length = k) := by show _ = _; rw [← hX, le_len]
    clear hz hy hyz hr hown hb hX
    by_cases hlt : k < n
    · have hlti : (k : Int) < (n : Int) := by omega
      go_wp2_with (at_builtin; refine wp_app rfl _ _ rfl w.heap.size _ X rfl (HO.out.alloc _) wr.heap.size 1 [r] rfl ?n1 ?l1 ?b1 ?_)
      case n1 =>
        intro j hj
        obtain rfl : j = 0 := by simp at hj; omega
        exact (Blk.new _ _ _).cell 0
      case l1 => have := HXL.out; first | omega | (simp; omega)
      case b1 => first | omega | (simp; omega)
      intro v' w3 l hl3 ho hg
      have HO3 := hide ho
      have HB3 : Hid (Below w.heap.size w w3) := app_below (HB.out.alloc hwr _) (HO.out.alloc _) (by simp; omega) hg
      have HL := hl3
      clear ho hg hl3
      go_wp2
      go_roundw
      case rel => exact ⟨k + 1, by omega, by go_num, by rw [HY.out], by rw [HS.out, ← HL.out]; exact HO3.out, HB3.out⟩
      case measure => simp [intOf]; omega
    · have hlti : ¬ (k : Int) < (n : Int) := by omega
      obtain rfl : k = n := by omega
      go_wp2
      go_ret
      exact ⟨_, rfl, by rw [HE0.out]; exact HO.out, HB.out⟩
end Go.Proofs.YtpnocklldlacjaaDoor
