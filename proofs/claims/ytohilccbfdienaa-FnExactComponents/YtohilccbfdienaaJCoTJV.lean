/-
  The walk of the function that visits, in impl.Components.
-/
import Derived.Test.YtohilccbfdienaaJCoTJM
import Derived.Test.YtohilccbfdienaaJCoShelf
namespace Go.Proofs.Ytohilccbfdienaa
open Go.RowKit

theorem cntZ_pos {rk : Nat → Nat} {c n : Nat} (h : rk c = 0) (hc : c < n) : 1 ≤ cntZ rk n := by
  have := cntZ_upd (rk := rk) (t := c) (v := 1) h (by decide) hc
  omega
theorem nxt_ege {g : Gr} (h : GrOk g) {c y : Nat} (hc : c < g.n.toNat) (hy : (y : Int) ∈ nxt g c) : Ege (eds g) c y := by
  obtain ⟨e, h1, h2, h3⟩ := nxt_ed h hc hy
  exact ⟨e, h1, h2, h3⟩
theorem ege_nxt {g : Gr} (h : GrOk g) {c y : Nat} (hy : Ege (eds g) c y) : (y : Int) ∈ nxt g c := by
  obtain ⟨e, h1, h2, h3⟩ := hy
  have := ed_nxt h h1
  rw [h2, Int.toNat_natCast, h3] at this
  exact this
/-- Those that were looked at. -/
def Dn (C : List Int) (i y : Nat) : Prop := ∃ j, j < i ∧ C.getD j 0 = (y : Int)
theorem Dn.next {C : List Int} {i y z : Nat} (hy : C.getD i 0 = (y : Int)) (h : Dn C (i + 1) z) : Dn C i z ∨ z = y := by
  obtain ⟨j, h1, h2⟩ := h
  by_cases e : j = i
  · subst e; rw [hy] at h2; exact .inr (by omega)
  · exact .inl ⟨j, by omega, h2⟩
theorem Dn.all {C : List Int} {y : Nat} (h : (y : Int) ∈ C) : Dn C C.length y := by
  obtain ⟨j, hj, h1⟩ := List.getElem_of_mem h
  exact ⟨j, hj, by rw [List.getD_eq_getElem?_getD, List.getElem?_eq_getElem hj]; exact h1⟩

theorem IOw.pre {w : World} {G g c : Nat} {A B : List Int} (h : IOw w G (.slice (some ⟨g, 0, none⟩) (A ++ B).length c) (A ++ B)) : IOw w G (.slice (some ⟨g, 0, none⟩) A.length c) A := by
  obtain ⟨h1, h2⟩ := h
  refine ⟨by rw [cis_length, Nat.mul_one], ?_⟩
  rcases h2 with ⟨h3, _⟩ | ⟨g', c', cur, hv, hb, hg, hn, hm, hs, ht⟩
  · cases h3
  · cases hv
    refine .inr ⟨g, c, cur, rfl, hb, hg, ?_, hm, hs, ?_⟩
    · rw [List.length_append] at hn; omega
    · rw [Nat.mul_one] at ht ⊢
      have : List.take A.length (List.take (A ++ B).length cur.toList) = List.take A.length (cis (A ++ B)) := by rw [ht]
      rw [List.take_take, List.length_append, Nat.min_eq_left (by omega), cis_append] at this
      rw [this, List.take_append_of_le_length (by rw [cis_length]; exact Nat.le_refl _), ← cis_length A, List.take_length]
theorem IOw.same {w w' : World} {G g n c : Nat} {L : List Int} (h : IOw w G (.slice (some ⟨g, 0, none⟩) n c) L) (hk : w'.heap[g]? = w.heap[g]?) : IOw w' G (.slice (some ⟨g, 0, none⟩) n c) L := by
  obtain ⟨h1, h2⟩ := h
  refine ⟨h1, ?_⟩
  rcases h2 with ⟨h3, _⟩ | ⟨g', c', cur, hv, hb, hg, hr⟩
  · cases h3
  · cases hv
    exact .inr ⟨g, c, cur, rfl, hb, hk.trans hg, hr⟩
theorem IOw.cellAt {w : World} {G g n c i : Nat} {L : List Int} (h : IOw w G (.slice (some ⟨g, 0, none⟩) n c) L) (hi : i < L.length) : w.cell? ⟨g, i, none⟩ = some (.int .i64 (L.getD i 0)) := by
  obtain rfl : n = L.length := by
    rcases h.2 with ⟨h3, _⟩ | ⟨g', c', cur, hv, _⟩
    · cases h3
    · cases hv; rfl
  rw [World.ownsRow.cellAt h i (by omega)]
  simp [cis, List.getD, hi]
/-- The least ones, put one by one. -/
def lsK (f : Int) (q : Nat → Int) (ls : Nat → Int) : Nat → Nat → Int
  | 0 => ls
  | j + 1 => updZ (lsK f q ls j) (q j).toNat f
theorem lsK_in (f : Int) (q : Nat → Int) (ls : Nat → Int) : ∀ {j k : Nat}, k < j → lsK f q ls j (q k).toNat = f
  | 0, _, h => by omega
  | j + 1, k, h => by
    show updZ _ _ _ _ = _
    unfold updZ
    by_cases e : (q k).toNat = (q j).toNat
    · rw [if_pos e]
    · rw [if_neg e]
      exact lsK_in f q ls (by
        rcases Nat.lt_or_ge k j with q' | q'
        · exact q'
        · exfalso; apply e; rw [show k = j by omega])
theorem lsK_out (f : Int) (q : Nat → Int) (ls : Nat → Int) {x : Nat} : ∀ {j : Nat}, (∀ k, k < j → (q k).toNat ≠ x) → lsK f q ls j x = ls x
  | 0, _ => rfl
  | j + 1, h => by
    show updZ _ _ _ _ = _
    unfold updZ
    rw [if_neg (fun e => h j (by omega) e.symm)]
    exact lsK_out f q ls (fun k hk => h k (by omega))
/-- The unknown ones from c on, the last first. -/
theorem back_of {st T : List Nat} {c k : Nat} (hk : k ≤ T.length) : (nums (st ++ c :: T)).getD ((st ++ c :: T).length - k - 1) 0 = (((c :: T).getD (T.length - k) 0 : Nat) : Int) := by
  have hl : (st ++ c :: T).length = st.length + T.length + 1 := by simp; omega
  rw [nums_getD (by omega)]
  congr 1
  rw [List.getD_eq_getElem?_getD, List.getElem?_append_right (by omega), List.getD_eq_getElem?_getD, show (st ++ c :: T).length - k - 1 - st.length = T.length - k by omega]

set_option maxHeartbeats 8000000 in
set_option maxRecDepth 1000000 in
theorem visit_any (g : Gr) (v1 v2 v3 v4 : Value) (n : Nat) (w0 : World) (GB LB BL : Nat) (hok : GrOk g) (hgn : g.n = (n : Nat)) (hv : GrV w0 g v1 v2 v3 v4) (hcp : Cp v2) (hEb : ∀ e ∈ eds g, 0 ≤ e.f ∧ e.f < (n : Int) ∧ 0 ≤ e.t ∧ e.t < (n : Int)) :
    ∀ (N : Nat) (rk : Nat → Nat) (ls : Nat → Int) (st : List Nat) (m : Nat) (gy : Nat → Prop) (c : Nat) (W : World), cntZ rk n ≤ N → Tj n (eds g) rk ls st m gy → c < n → rk c = 0 → (∀ x, gy x → Rc (eds g) x c) → TjM w0 n GB LB BL #[.int .i64 g.n, v1, v2, v3, v4] rk ls st m W →
      Calls Try.prog 21 #[.int .i64 c, .pointer (some ⟨BL + 3, 0, none⟩), .pointer (some ⟨BL + 2, 0, none⟩), .pointer (some ⟨BL + 4, 0, none⟩), .pointer (some ⟨GB, 0, none⟩), .pointer (some ⟨BL + 5, 0, none⟩), .pointer (some ⟨BL, 0, none⟩)] W (VisP w0 n GB LB BL #[.int .i64 g.n, v1, v2, v3, v4] (eds g) gy c rk ls st m) := by
  intro N
  induction N with
  | zero => intro rk ls st m gy c W hN _ hc h0; have := cntZ_pos h0 hc; omega
  | succ N ih =>
    intro rk ls st m gy c W hN hj hc h0 hgy hM
    have HIH := hide ih
    have hn1 := hok.n1
    have hcn : c < g.n.toNat := by omega
    have hcnt := hj.cnt
    have hpos := cntZ_pos h0 hc
    have HNX := hide (fun V (hV : Below w0.heap.size w0 V) => next_any g v1 v2 v3 v4 c w0 V hok hcn hv hV hcp)
    obtain ⟨r, hr⟩ : ∃ r, m + 1 = r := ⟨_, rfl⟩
    obtain ⟨hjE, hlE⟩ := hj.enter hc h0 hgy
    rw [hr] at hjE hlE
    have hwr : IntKind.i64.wrap ((m : Int) + 1) = (r : Int) := by rw [IntKind.wrap_i64]; omega
    have hM1 := hM.raise (m' := r)
    have hM2 := hM1.rank (c := c) (r := r)
    obtain ⟨v, hvb, hvo⟩ := hM2.unk
    have hsl : st.length ≤ 100000 := by
      have h1 : st.length ≤ n := by
        have hnd : st.Nodup := (List.Pairwise.imp (fun {a b} (hab : rk a < rk b) => (fun e => by subst e; omega : a ≠ b)) hj.srt)
        have hsub : ∀ x ∈ st, x ∈ List.range n := fun x hx => List.mem_range.2 (hj.lt x hx)
        have := List.Nodup.length_le_of_subset hnd (fun x hx => hsub x hx)
        rwa [List.length_range] at this
      omega
    have HPU := hide (put_any (BL + 4) (BL + 6) v (nums st) (c : Int) _ hvb hvo (by omega) hM2.gz (by rw [nums_length]; exact hsl))
    have HM := hide hM
    have HM2 := hide hM2
    have HJ := hide hj
    have HJE := hide hjE
    have HLE := hide hlE
    have c0 := hM.met.cell
    have c1 := hM.met.frozen
    have c2 := hM1.met.cell
    have c3 := hM1.rkb.cell
    have c4 := hM1.rrow.cell hc
    have c5 := hM1.rrow.frozen c
    have hci : (c : Int) < (n : Int) := by omega
    have HR := hide hr
    obtain ⟨a1, k1, rfl⟩ := hv.start.slice
    obtain ⟨a2, k2, rfl⟩ := hv.to.slice
    obtain ⟨a3, k3, rfl⟩ := hv.dir.slice
    obtain ⟨a4, k4, rfl⟩ := hv.cost.slice
    unfold gragg at HNX
    have HGN := hide hgn
    have hnb : n ≤ 1600 := by omega
    have HOK := hide hok
    have HRK := hide h0
    clear hM hM1 hM2 hvb hvo hj hjE hlE ih hr hcp hgy hgn hv h0 hcnt
    go_enter Try.func21, Try.ntmps21
    go_wp2_with fail
    refine HPU.out.mono ?_
    rintro e w3 ⟨⟨u3, rfl⟩, v3', hb3, ho3, hc3⟩
    have HM3 : Hid (TjM w0 n GB LB BL #[.int .i64 g.n, .slice a1 g.start.length k1, .slice a2 g.to.length k2, .slice a3 g.dir.length k3, .slice a4 g.cost.length k4] (updN rk c r) ls (st ++ [c]) r w3) := HM2.out.row hb3 (by rw [nums_append]; exact ho3) ⟨hc3.os, hc3.tape, hc3.output, hc3.oth.size⟩ (fun k hk hk2 => hc3.blk k hk (fun q => hk2 (List.mem_singleton.1 q)))
    have z0 := HM3.out.gb.cell 0
    have z1 := HM3.out.gb.cell 1
    have z2 := HM3.out.gb.cell 2
    have z3 := HM3.out.gb.cell 3
    have z4 := HM3.out.gb.cell 4
    simp only [List.getElem?_toArray, List.getElem?_cons_succ, List.getElem?_cons_zero] at z0 z1 z2 z3 z4
    clear hb3 ho3 hc3 c0 c1 c2 c3 c4 c5 HPU HM2 HM
    go_wp2_with fail
    refine (HNX.out w3 HM3.out.bel).mono ?_
    rintro e w4 ⟨vn, rfl, hin, hb4⟩
    obtain ⟨C, hC⟩ : ∃ C, nxt g c = C := ⟨_, rfl⟩
    rw [hC] at hin
    obtain ⟨an, bn, on, kn, rfl, han, hcn2⟩ := hin
    have HM4 := hide (HM3.out.below hb4)
    have HCN := hide hcn2
    have HCC : Hid (∀ y : Nat, (y : Int) ∈ C ↔ Ege (eds g) c y) := fun y => by
      rw [← hC]
      exact ⟨nxt_ege HOK.out hcn, ege_nxt HOK.out⟩
    have HCB : Hid (∀ j, j < C.length → 0 ≤ C.getD j 0 ∧ C.getD j 0 < (n : Int)) := fun j hj => by
      have h1 := getD_mem hj
      rw [← hC] at h1
      obtain ⟨e, h2, _, h4⟩ := nxt_ed hok hcn h1
      have := hEb e h2
      rw [← hC]
      omega
    have HCL : Hid (C.length ≤ 6400) := by
      rw [← hC]
      show (nxt g c).length ≤ 6400
      rw [nxt_length]
      have m1 := start_le hok 0 c (by omega) (by omega)
      have m3 := start_le hok (c + 1) g.n.toNat (by omega) (by omega)
      have := hok.most
      omega
    obtain ⟨K, hK⟩ : ∃ K, C.length = K := ⟨_, rfl⟩
    rw [hK] at han HCL ⊢
    have HKL := hide hK
    have hKb : K ≤ 6400 := HCL.out
    clear hcn2 hb4 hC z0 z1 z2 z3 z4 HM3 hK
    have HG0 : Hid (∀ x, gy x → x ∈ st ∧ rk x ≠ 0 ∧ rk x ≤ m) := fun x hx => by
      have h1 := HJ.out.gry x hx
      have h2 := HJ.out.lt x h1
      exact ⟨h1, ((HJ.out.ins x h2).1 h1).1, HJ.out.top x h2⟩
    have HCZ : Hid (cntZ (updN rk c r) n + 1 = cntZ rk n) := cntZ_upd HRK.out (by have := HR.out; omega) hc
    go_wp2
    go_loopw [10, 31] (fun lo ix wr => ∃ (i low : Nat) (rk1 : Nat → Nat) (ls1 : Nat → Int) (st1 : List Nat) (m1 : Nat), i ≤ K ∧ ix = .int .i64 i ∧ lo = .int .i64 low ∧ TjM w0 n GB LB BL #[.int .i64 g.n, .slice a1 g.start.length k1, .slice a2 g.to.length k2, .slice a3 g.dir.length k3, .slice a4 g.cost.length k4] rk1 ls1 st1 m1 wr ∧ Tj n (eds g) rk1 ls1 st1 m1 (fun x => gy x ∨ x = c) ∧ Tl n (eds g) rk ls st c r low rk1 ls1 st1 (Dn C i) ∧ cntZ rk1 n + 1 ≤ cntZ rk n) (fun _ ix _ => K - (intOf ix).toNat)
    case atStart => exact ⟨0, r, updN rk c r, ls, st ++ [c], r, Nat.zero_le _, rfl, rfl, HM4.out, HJE.out, HLE.out.more (fun z hz => by obtain ⟨j, hj, _⟩ := hz; omega), Nat.le_of_eq HCZ.out⟩
    case round =>
      clear HM4 HJE HLE
      obtain ⟨i, low, rk1, ls1, st1, m1, hi, rfl, rfl, hM1, hj1, hl1, hz1⟩ := hrel
      rename World => Z
      have HM1 := hide hM1
      have HJ1 := hide hj1
      have HL1 := hide hl1
      have HZ1 := hide hz1
      clear hz1
      by_cases hlt : i < K
      · have hlti : (i : Int) < (K : Int) := by omega
        have hiC : i < C.length := by rw [HKL.out]; exact hlt
        obtain rfl := han (by omega)
        have f0 := cell_kept (HCN.out i hiC) hM1.bel
        have hyb := HCB.out i hiC
        obtain ⟨y, hy⟩ : ∃ y : Nat, C.getD i 0 = y := ⟨(C.getD i 0).toNat, by omega⟩
        have HYY := hide hy
        have HMEM : Hid ((y : Int) ∈ C) := by rw [← hy]; exact getD_mem hiC
        rw [hy] at f0 hyb
        have hyn : y < n := by omega
        have hyi : (y : Int) < (n : Int) := by omega
        have r0 := hM1.rkb.cell
        have r1 := hM1.rrow.cell hyn
        have l0 := hM1.lsb.cell
        have l1 := hM1.lrow.cell hyn
        have vv := hM1.vis.cell
        unfold visV at vv
        have HEG : Hid (Ege (eds g) c y) := (HCC.out y).1 HMEM.out
        have hcs : c ∈ st1 := hj1.gry c (.inr rfl)
        have HCR : Hid (rk1 c = r) := hl1.own
        have HLOW : Hid (low ≤ r) := hl1.lle
        have HRE : Hid (∀ x, (gy x ∨ x = c) → Rc (eds g) x y) := hj1.reach hcs (fun x hx => by
          rcases hx with hx | rfl
          · obtain ⟨_, h2, h3⟩ := HG0.out x hx
            rw [hl1.rks x h2, hl1.own]
            have := HR.out
            omega
          · exact Nat.le_refl _) HEG.out
        obtain ⟨ry, hry⟩ : ∃ q, rk1 y = q := ⟨_, rfl⟩
        rw [hry] at r1
        have HRY := hide hry
        have hryb : ry ≤ 1600 := by rw [← hry]; have h1 := hj1.top y hyn; have h2 := hj1.cnt; omega
        have hrb : r ≤ 1600 := by have h1 := hj1.top c hc; have h2 := hj1.cnt; rw [hl1.own] at h1; omega
        clear hM1 hj1 hl1 hy hyb hcs hry
        by_cases q0 : ry = 0
        · subst q0
          have HVI := hide (HIH.out rk1 ls1 st1 m1 (fun x => gy x ∨ x = c) y Z (by have h1 := HZ1.out; omega) HJ1.out hyn HRY.out HRE.out HM1.out)
          go_wp2_with fail
          refine HVI.out.mono ?_
          rintro e w5 ⟨low', rk', ls', st', m', rfl, hM5, hj5, hv5, hc5, hm5⟩
          have HM5 := hide hM5
          have HJ5 := hide hj5
          have HL5 := hide ((HL1.out.visit HJ1.out HRY.out (by rw [HCR.out]; have := HR.out; omega) HEG.out hyn hm5 hv5).more (D' := Dn C (i + 1)) (fun z hz => hz.next HYY.out))
          have HZ5 : Hid (cntZ rk' n + 1 ≤ cntZ rk n) := by have := HZ1.out; show _ ≤ _; omega
          obtain ⟨lm, hlm⟩ : ∃ q, min low low' = q := ⟨_, rfl⟩
          rw [hlm] at HL5
          have hmi : min (low : Int) (low' : Int) = (lm : Int) := by omega
          clear hM5 hj5 hv5 hc5 hm5 hlm
          go_wp2
          go_roundw
          case rel => exact ⟨i + 1, lm, rk', ls', st', m', by omega, by go_num, rfl, HM5.out, HJ5.out, HL5.out, HZ5.out⟩
          case measure => simp [intOf]; omega
        · have t0 : (((ry : Nat) : Int) == 0) = false := by simp; omega
          have HRN : Hid (rk1 y ≠ 0) := by show _ ≠ _; rw [HRY.out]; exact q0
          obtain ⟨ly, hly⟩ : ∃ q, ls1 y = q := ⟨_, rfl⟩
          rw [hly] at l1
          have HLY := hide hly
          clear hly
          by_cases q1 : ly < 0
          · have t1 : decide (ly < 0) = true := decide_eq_true q1
            have HL5 := hide ((HL1.out.seen HJ1.out HRN.out (by rw [HLY.out]; exact q1) HEG.out hyn).more (D' := Dn C (i + 1)) (fun z hz => hz.next HYY.out))
            rw [HRY.out] at HL5
            obtain ⟨lm, hlm⟩ : ∃ q, min low ry = q := ⟨_, rfl⟩
            rw [hlm] at HL5
            have hmi : min (low : Int) (ry : Int) = (lm : Int) := by omega
            clear hlm
            go_wp2
            go_roundw
            case rel => exact ⟨i + 1, lm, rk1, ls1, st1, m1, by omega, by go_num, rfl, HM1.out, HJ1.out, HL5.out, HZ1.out⟩
            case measure => simp [intOf]; omega
          · have t1 : decide (ly < 0) = false := decide_eq_false q1
            have HL5 := hide ((HL1.out.known HJ1.out HRN.out (by rw [HLY.out]; omega) hyn).more (D' := Dn C (i + 1)) (fun z hz => hz.next HYY.out))
            go_wp2
            go_roundw
            case rel => exact ⟨i + 1, low, rk1, ls1, st1, m1, by omega, by go_num, rfl, HM1.out, HJ1.out, HL5.out, HZ1.out⟩
            case measure => simp [intOf]; omega
      · have hge : ¬ (i : Int) < (K : Int) := by omega
        obtain rfl : i = K := by omega
        have HDA : Hid (∀ y, y < n → Ege (eds g) c y → Dn C i y) := fun y _ he => by
          have := Dn.all ((HCC.out y).2 he)
          rw [HKL.out] at this
          exact this
        have HEE : Hid (∀ x y, Ege (eds g) x y → x < n ∧ y < n) := fun x y ⟨e, he, h1, h2⟩ => by have := hEb e he; omega
        have hle := hl1.lle
        have hrb : r ≤ 1600 := by have h1 := hj1.top c hc; have h2 := hj1.cnt; rw [hl1.own] at h1; omega
        have HRP : Hid (r ≠ 0) := by have := HR.out; show _ ≠ _; omega
        clear hM1 hj1 hl1
        by_cases q0 : low = r
        · subst q0
          obtain ⟨T, hT, hT2⟩ := HL1.out.ext
          obtain ⟨uv, huv, huo⟩ := HM1.out.unk
          have hN1 : st1.length = st.length + T.length + 1 := by rw [hT]; simp; omega
          have hnl := nums_length st1
          obtain ⟨gg, cc, hcur⟩ : ∃ g c, uv = .slice (some ⟨g, 0, none⟩) st1.length c ∧ st1.length ≤ c := by
            rcases huo.2 with ⟨_, h0⟩ | ⟨g, c, cur, hv, _, _, hn, _⟩
            · omega
            · rw [hnl] at hv hn; exact ⟨g, c, hv, hn⟩
          obtain ⟨hcur, hcc⟩ := hcur
          subst hcur
          have hgl := World.ownsRow.lt huo gg rfl
          have hs1 : st1.length ≤ 100000 := by
            have hnd : st1.Nodup := (List.Pairwise.imp (fun {a b} (hab : rk1 a < rk1 b) => (fun e => by subst e; omega : a ≠ b)) HJ1.out.srt)
            have := List.Nodup.length_le_of_subset hnd (fun x hx => List.mem_range.2 (HJ1.out.lt x hx))
            rw [List.length_range] at this
            omega
          obtain ⟨q, hq⟩ : ∃ q : Nat → Int, q = fun k => (nums st1).getD (st1.length - k - 1) 0 := ⟨_, rfl⟩
          have HQV : Hid (∀ k, k ≤ T.length → q k = (((c :: T).getD (T.length - k) 0 : Nat) : Int)) := fun k hk => by
            rw [hq]
            show (nums st1).getD (st1.length - k - 1) 0 = _
            rw [hT]
            exact back_of hk
          have hsr := HJ1.out.srt
          rw [hT] at hsr
          have hsc := (List.pairwise_cons.1 (List.pairwise_append.1 hsr).2.1).1
          have HQE : Hid (q T.length = (c : Int)) := by show _ = _; rw [HQV.out _ (Nat.le_refl _), Nat.sub_self]; rfl
          have HQN : Hid (∀ k, k < T.length → q k ≠ (c : Int)) := fun k hk e => by
            rw [HQV.out k (by omega), show T.length - k = (T.length - k - 1) + 1 by omega] at e
            have hm : T.getD (T.length - k - 1) 0 ∈ T := by
              rw [List.getD_eq_getElem?_getD, List.getElem?_eq_getElem (by omega)]
              exact List.getElem_mem _
            have h1 := hsc _ hm
            have h2 : ((T.getD (T.length - k - 1) 0 : Nat) : Int) = (c : Int) := e
            have h3 : T.getD (T.length - k - 1) 0 = c := by omega
            rw [h3] at h1
            omega
          have HTT := hide (takeThrough_any (BL + 4) gg cc st1.length T.length (c : Int) q Z huv hgl.2 (by omega) hcc hs1 (by omega) (fun k hk => by
            rw [hq]
            exact huo.cellAt (by rw [hnl]; omega)) HQE.out HQN.out)
          have HIP : Hid (IOw Z (BL + 6) (.slice (some ⟨gg, 0, none⟩) st.length cc) (nums st)) := by
            have h1 := huo
            have h2 : IOw Z (BL + 6) (.slice (some ⟨gg, 0, none⟩) (nums st ++ nums (c :: T)).length cc) (nums st ++ nums (c :: T)) := by
              rw [← nums_append, ← hT, hnl]; exact h1
            have := h2.pre
            rw [nums_length] at this
            exact this
          have HTX := hide hT
          have HGL := hide hgl
          have tc : (((low : Nat) : Int) == ((low : Nat) : Int)) = true := by simp
          have HSL : Hid (st1.length - T.length - 1 = st.length) := by show _ = _; omega
          have hTb : T.length + 1 ≤ 100000 := by omega
          clear hT hT2 huv huo hgl hsr hsc hq hN1 hnl hcc
          go_wp2_with fail
          refine HTT.out.mono ?_
          rintro e w5 ⟨u5, rfl, ho5, hb5, hk5, hos5, htp5, hou5, hsz5⟩
          rw [HSL.out] at hb5
          have HM5 : Hid (TjM w0 n GB LB BL #[.int .i64 g.n, .slice a1 g.start.length k1, .slice a2 g.to.length k2, .slice a3 g.dir.length k3, .slice a4 g.cost.length k4] rk1 ls1 st m1 w5) := HM1.out.row hb5 (HIP.out.same (hk5 gg HGL.out.2 (by have := HGL.out.1; omega))) ⟨hos5, htp5, hou5, by omega⟩ (fun k hk h2 => hk5 k (by have := HM1.out.gz; omega) h2)
          obtain ⟨L, hL⟩ : ∃ L, accq q (T.length + 1) = L := ⟨_, rfl⟩
          have hLl : L.length = T.length + 1 := by rw [← hL, accq_len]
          rw [hL] at ho5
          obtain ⟨h5, c5, hu5⟩ : ∃ g c, u5 = .slice (some ⟨g, 0, none⟩) L.length c := by
            rcases ho5.2 with ⟨_, h0⟩ | ⟨g, c, cur, hv, _⟩
            · omega
            · exact ⟨g, c, hv⟩
          subst hu5
          have HO5 := hide ho5
          have HLL := hide hLl
          have HLA : Hid (∀ k, k ≤ T.length → L.getD k 0 = q k) := fun k hk => by
            rw [← hL]
            unfold accq
            rw [List.getD_eq_getElem?_getD, List.getElem?_map, List.getElem?_range (by omega)]
            rfl
          have HMI := hide (Try.slices_Min_int h5 0 L.length c5 L w5 (by omega) (Nat.le_refl _) (by omega) (fun j hj => by rw [Nat.zero_add]; exact ho5.cellAt hj))
          rw [List.take_length] at HMI
          have HMN : Hid (Lib.minOf L ∈ L ∧ ∀ x ∈ L, Lib.minOf L ≤ x) := by
            cases L with
            | nil => simp at hLl
            | cons z zs => exact minOf_mem z zs
          obtain ⟨fz, hfz⟩ : ∃ f, Lib.minOf L = f := ⟨_, rfl⟩
          rw [hfz] at HMI HMN
          obtain ⟨LN, hLN⟩ : ∃ x, L.length = x := ⟨_, rfl⟩
          rw [hLN] at HMI HO5 HLL ⊢
          have HLN := hide hLN
          have hLb : LN ≤ 100001 := by have := HLL.out; have h2 := HSL.out; omega
          have HZS : Hid (Z.heap.size + 3 ≤ w5.heap.size) := hsz5
          clear hb5 hk5 hos5 htp5 hou5 hsz5 hL hLl ho5 hfz hLN
          go_wp2_with fail
          refine HMI.out.mono ?_
          rintro e w6 ⟨rfl, hw6⟩
          subst hw6
          rename World => w6
          go_wp2
          go_loopw [66] (fun ix wr => ∃ j : Nat, j ≤ LN ∧ ix = .int .i64 j ∧ TjM w0 n GB LB BL #[.int .i64 g.n, .slice a1 g.start.length k1, .slice a2 g.to.length k2, .slice a3 g.dir.length k3, .slice a4 g.cost.length k4] rk1 (lsK fz q ls1 j) st m1 wr ∧ IOw wr (Z.heap.size + 3) (.slice (some ⟨h5, 0, none⟩) LN c5) L) (fun ix _ => LN - (intOf ix).toNat)
          case atStart => exact ⟨0, Nat.zero_le _, rfl, HM5.out, HO5.out⟩
          case round =>
            clear HM5 HO5
            obtain ⟨j, hj, rfl, hM6, ho6⟩ := hrel
            rename World => Y
            have HM6 := hide hM6
            have HO6 := hide ho6
            by_cases hlt : j < LN
            · have hlti : (j : Int) < (LN : Int) := by omega
              have hjT : j ≤ T.length := by have := HLL.out; omega
              have x0 := ho6.cellAt (i := j) (by rw [HLN.out]; exact hlt)
              rw [HLA.out j hjT] at x0
              have hqv := HQV.out j hjT
              have hmm : (c :: T).getD (T.length - j) 0 ∈ c :: T := by
                rw [List.getD_eq_getElem?_getD, List.getElem?_eq_getElem (by simp; omega)]
                exact List.getElem_mem _
              obtain ⟨xm, hxm⟩ : ∃ x : Nat, (c :: T).getD (T.length - j) 0 = x := ⟨_, rfl⟩
              rw [hxm] at hqv hmm
              have hxn : xm < n := HJ1.out.lt xm (by rw [HTX.out]; exact List.mem_append_right _ hmm)
              have hxi : (xm : Int) < (n : Int) := by omega
              rw [hqv] at x0
              have y0 := hM6.lsb.cell
              have y1 := hM6.lrow.cell hxn
              have y2 := hM6.lrow.frozen xm
              have HM7 : Hid (TjM w0 n GB LB BL #[.int .i64 g.n, .slice a1 g.start.length k1, .slice a2 g.to.length k2, .slice a3 g.dir.length k3, .slice a4 g.cost.length k4] rk1 (lsK fz q ls1 (j + 1)) st m1 (Y.setCell ⟨LB, xm, none⟩ (.int .i64 fz))) := by
                have := hM6.least (c := xm) (f := fz)
                show TjM _ _ _ _ _ _ _ (updZ (lsK fz q ls1 j) (q j).toNat fz) _ _ _
                rw [hqv, Int.toNat_natCast]
                exact this
              have HO7 : Hid (IOw (Y.setCell ⟨LB, xm, none⟩ (.int .i64 fz)) (Z.heap.size + 3) (.slice (some ⟨h5, 0, none⟩) LN c5) L) := own_set ho6 (by have h1 := HM1.out.gz; have h2 := HM1.out.num; omega)
              clear hM6 ho6 hqv hmm hxm
              go_wp2
              go_roundw
              case rel => exact ⟨j + 1, by omega, by go_num, HM7.out, HO7.out⟩
              case measure => simp [intOf]; omega
            · have hge : ¬ (j : Int) < (LN : Int) := by omega
              obtain rfl : j = LN := by omega
              have HF : Hid (VisP w0 n GB LB BL #[.int .i64 g.n, .slice a1 g.start.length k1, .slice a2 g.to.length k2, .slice a3 g.dir.length k3, .slice a4 g.cost.length k4] (eds g) gy c rk ls st m (.returned (.int .i64 low)) Y) := by
                have hqm : ∀ k, k ≤ T.length → ∃ x, x ∈ c :: T ∧ q k = ((x : Nat) : Int) := fun k hk => by
                  refine ⟨(c :: T).getD (T.length - k) 0, ?_, HQV.out k hk⟩
                  rw [List.getD_eq_getElem?_getD, List.getElem?_eq_getElem (by simp; omega)]
                  exact List.getElem_mem _
                have hmq : ∀ x ∈ c :: T, ∃ k, k ≤ T.length ∧ q k = ((x : Nat) : Int) := fun x hx => by
                  obtain ⟨i, hi, he⟩ := List.getElem_of_mem hx
                  have hi' : i ≤ T.length := by simp at hi; omega
                  refine ⟨T.length - i, by omega, ?_⟩
                  rw [HQV.out _ (by omega), show T.length - (T.length - i) = i by omega, List.getD_eq_getElem?_getD, List.getElem?_eq_getElem hi, he]
                  rfl
                have hLq : ∀ z ∈ L, ∃ k, k ≤ T.length ∧ q k = z := fun z hz => by
                  obtain ⟨i, hi, he⟩ := List.getElem_of_mem hz
                  have hi' : i ≤ T.length := by have h1 := HLN.out; have h2 := HLL.out; omega
                  refine ⟨i, hi', ?_⟩
                  rw [← HLA.out i hi', List.getD_eq_getElem?_getD, List.getElem?_eq_getElem hi, he]
                  rfl
                have hqL : ∀ k, k ≤ T.length → q k ∈ L := fun k hk => by
                  rw [← HLA.out k hk]
                  exact getD_mem (by have h1 := HLN.out; have h2 := HLL.out; omega)
                obtain ⟨kf, hkf, hkq⟩ := hLq fz HMN.out.1
                obtain ⟨f, hfm, hfq⟩ := hqm kf hkf
                have hff : fz = (f : Int) := by rw [← hkq, hfq]
                obtain ⟨h1, h2⟩ := HL1.out.pop hEb HJ1.out HTX.out HRK.out HRP.out HDA.out (fun x hx => (HG0.out x hx).1) hfm (fun x hx => by
                  obtain ⟨k, hk, hq⟩ := hmq x hx
                  have := HMN.out.2 _ (hqL k hk)
                  omega) (ls' := lsK fz q ls1 j) (fun x hx => by
                  obtain ⟨k, hk, hq⟩ := hmq x hx
                  have := lsK_in fz q ls1 (j := j) (k := k) (by have := HLL.out; omega)
                  rw [hq, Int.toNat_natCast] at this
                  rw [this, hff]) (fun x hx => lsK_out fz q ls1 (fun k hk e => hx (by
                    obtain ⟨y, hy, hqy⟩ := hqm k (by have := HLL.out; omega)
                    rw [hqy, Int.toNat_natCast] at e
                    rw [← e]; exact hy)))
                exact ⟨low, rk1, lsK fz q ls1 j, st, m1, rfl, HM6.out, h1, h2, HZ1.out, by rw [HL1.out.own]; have := HR.out; omega⟩
              clear hM6 ho6
              go_wp2
              go_ret
              exact HF.out
        · have t0 : (((low : Nat) : Int) == ((r : Nat) : Int)) = false := by simp; omega
          have HF : Hid (VisP w0 n GB LB BL #[.int .i64 g.n, .slice a1 g.start.length k1, .slice a2 g.to.length k2, .slice a3 g.dir.length k3, .slice a4 g.cost.length k4] (eds g) gy c rk ls st m (.returned (.int .i64 low)) Z) := by
            obtain ⟨h1, h2⟩ := HL1.out.keep HJ1.out HRK.out HRP.out HDA.out HEE.out (by omega)
            exact ⟨low, rk1, ls1, st1, m1, rfl, HM1.out, h1, h2, HZ1.out, by rw [HL1.out.own]; have := HR.out; omega⟩
          go_wp2
          go_ret
          exact HF.out
end Go.Proofs.Ytohilccbfdienaa
