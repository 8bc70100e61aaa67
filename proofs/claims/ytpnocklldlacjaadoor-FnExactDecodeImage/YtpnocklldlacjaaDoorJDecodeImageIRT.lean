/-
  The walk of impl's reader: target.
  The walk of impl.allWithin.
  The walk of impl.packedSize.
-/
import Derived.Test.YtpnocklldlacjaaDoorJDecodeImageIRN
import Derived.Test.YtpnocklldlacjaaDoorJDecodeImageSDS
import Derived.Test.YtpnocklldlacjaaDoorJDecodeImageIN0
import Derived.BigQuiet
import Derived.Deep.QuietTactic
import Derived.Test.YtpnocklldlacjaaDoorJDecodeImagePH
namespace Go.Proofs.YtpnocklldlacjaaDoor
open Go.RowKit

/-- The reader, its text, the sentinel. -/
structure Rz (w : World) (g b o c : Nat) (a : Addr) (s : ByteArray) (st : Nat × Bool) : Prop where
  ri : RiS w g b o c a s st
  ty : Ty w b o c s
  er : ErC w a
  gb : 0 < s.size → g ≠ b
  ge : g ≠ 0
theorem Rz.below {w w' : World} {g b o c : Nat} {a : Addr} {s : ByteArray} {st : Nat × Bool} (h : Rz w g b o c a s st) (hb : Below w.heap.size w w') : Rz w' g b o c a s st := ⟨h.ri.below hb, h.ty.below hb, h.er.below hb, h.gb, h.ge⟩
theorem Rz.wrs {w w' : World} {g b o c : Nat} {a : Addr} {s : ByteArray} {st st' : Nat × Bool} (h : Rz w g b o c a s st) (hr : RiS w' g b o c a s st') (hw : Wrs [g] w w') : Rz w' g b o c a s st' :=
  ⟨hr, h.ty.wrs hw (fun h0 hm => h.gb h0 (List.mem_singleton.1 hm).symm), h.er.wrs hw (fun hm => h.ge (List.mem_singleton.1 hm).symm), h.gb, h.ge⟩
theorem Rz.lt {w : World} {g b o c : Nat} {a : Addr} {s : ByteArray} {st : Nat × Bool} (h : Rz w g b o c a s st) : g < w.heap.size := by
  obtain ⟨_, a', h2, _⟩ := h.ri
  exact h2.lt
theorem Rz.num {w : World} {g b o c : Nat} {a : Addr} {s : ByteArray} {st : Nat × Bool} {n : Nat} (h : Rz w g b o c a s st) (hn : n ≤ 4) :
    Calls Tryd.prog 69 #[.pointer (some ⟨g, 0, none⟩), .int .i64 n] w fun e w' => e = .returned (.int .i64 ((rn (fb s) s.size st n).1 : Nat)) ∧ Rz w' g b o c a s (rn (fb s) s.size st n).2 ∧ Wrs [g] w w' :=
  (number_any hn h.gb h.ge h.ty h.er h.ri).mono fun _ _ ⟨h1, h2, h3⟩ => ⟨h1, h.wrs h2 h3, h3⟩
theorem Rz.take {w : World} {g b o c : Nat} {a : Addr} {s : ByteArray} {st : Nat × Bool} {n : Nat} (h : Rz w g b o c a s st) (hn : n ≤ 100000000) :
    Calls Tryd.prog 68 #[.pointer (some ⟨g, 0, none⟩), .int .i64 n] w fun e w' => ∃ v, e = .returned v ∧ BS w' v (rb (fb s) s.size st n).1 ∧ Cp v ∧ Rz w' g b o c a s (rb (fb s) s.size st n).2 ∧ Wrs [g] w w' :=
  (take_any hn h.gb h.ge h.ty h.er h.ri).mono fun _ _ ⟨v, h1, h2, h3, h4, h5⟩ => ⟨v, h1, h2, h3, h.wrs h4 h5, h5⟩

set_option maxHeartbeats 4000000 in
set_option maxRecDepth 1000000 in
theorem rtarget_any {w : World} {g b o c : Nat} {a : Addr} {s : ByteArray} {st : Nat × Bool} (h : Rz w g b o c a s st) :
    Calls Tryd.prog 70 #[.pointer (some ⟨g, 0, none⟩)] w fun e w' => ∃ u, e = .returned (.agg #[u, .int .i64 (rT (fb s) s.size st).1.kind, .int .i64 (rT (fb s) s.size st).1.cell]) ∧ w'.ownsRow w.heap.size 5 1 u (nb (rT (fb s) s.size st).1.name).length (cv (nb (rT (fb s) s.size st).1.name)) ∧ Rz w' g b o c a s (rT (fb s) s.size st).2 ∧ Wrs [g] w w' := by
  have HRT : Hid (rT (fb s) s.size st = (⟨(rb (fb s) s.size (rn (fb s) s.size (rn (fb s) s.size (rn (fb s) s.size st 1).2 2).2 1).2 (rn (fb s) s.size (rn (fb s) s.size (rn (fb s) s.size st 1).2 2).2 1).1).1, ((rn (fb s) s.size st 1).1 : Nat), ((rn (fb s) s.size (rn (fb s) s.size st 1).2 2).1 : Nat)⟩, (rb (fb s) s.size (rn (fb s) s.size (rn (fb s) s.size (rn (fb s) s.size st 1).2 2).2 1).2 (rn (fb s) s.size (rn (fb s) s.size (rn (fb s) s.size st 1).2 2).2 1).1).2)) := rfl
  have hgl := h.lt
  have HRW := hide h
  obtain ⟨Z, hZ⟩ : ∃ Z, w.heap.size = Z := ⟨_, rfl⟩
  obtain ⟨w0, hw0⟩ : ∃ W, w.alloc (.cells #[.slice none 0 0, .int .i64 0, .int .i64 0] 56) = W := ⟨_, rfl⟩
  have hb0 : Below w.heap.size w w0 := by rw [← hw0]; exact (Below.refl _ _).alloc (Nat.le_refl _) _
  have HZ0 : Hid (Blk w0 Z 56 #[.slice none 0 0, .int .i64 0, .int .i64 0]) := by rw [← hw0, ← hZ]; exact Blk.new _ _ _
  have HR0 := hide (h.below hb0)
  have HW0 : Hid (Wrs [g] w w0) := Wrs.of_below hb0
  have hZg : Z ≠ g := by omega
  have HWW := hide hw0
  have HZZ := hide hZ
  clear h hb0 hw0 hZ
  go_enter Tryd.func70, Tryd.ntmps70
  go_wp2_with fail
  rw [HWW.out, HZZ.out]
  refine (HR0.out.num (n := 1) (by omega)).mono ?_
  rintro e w1 ⟨rfl, hr, hw⟩
  have HZ1 := hide (wrs_blk hw HZ0.out hZg)
  have HR1 := hide hr
  have HW1 : Hid (Wrs [g] w w1) := HW0.out.trans hw
  have hka := rn_lt (s := s) (st := st) (n := 1)
  obtain ⟨kd, hkd⟩ : ∃ n, (rn (fb s) s.size st 1).1 = n := ⟨_, rfl⟩
  obtain ⟨sa, hsa⟩ : ∃ n, (rn (fb s) s.size st 1).2 = n := ⟨_, rfl⟩
  rw [hkd] at hka HRT ⊢
  rw [hsa] at HR1 HRT
  have hka' : kd < 256 := hka
  clear hr hw hkd hsa hka HR0 HZ0 HW0
  go_wp2_with fail
  refine (HR1.out.num (n := 2) (by omega)).mono ?_
  rintro e w2 ⟨rfl, hr, hw⟩
  have HZ2 := hide (wrs_blk hw HZ1.out hZg)
  have HR2 := hide hr
  have HW2 : Hid (Wrs [g] w w2) := HW1.out.trans hw
  have hka := rn_lt (s := s) (st := sa) (n := 2)
  obtain ⟨cl, hcl⟩ : ∃ n, (rn (fb s) s.size sa 2).1 = n := ⟨_, rfl⟩
  obtain ⟨sb, hsb⟩ : ∃ n, (rn (fb s) s.size sa 2).2 = n := ⟨_, rfl⟩
  rw [hcl] at hka HRT ⊢
  rw [hsb] at HR2 HRT
  have hkb' : cl < 65536 := hka
  clear hr hw hcl hsb hka HR1 HZ1 HW1
  obtain ⟨M, hM⟩ : ∃ M, w2.heap.size = M := ⟨_, rfl⟩
  obtain ⟨w3, hw3⟩ : ∃ W, w2.alloc (.cells #[.slice none 0 0, .int .i64 (kd : Nat), .int .i64 (cl : Nat)] 56) = W := ⟨_, rfl⟩
  have hb3 : Below w2.heap.size w2 w3 := by rw [← hw3]; exact (Below.refl _ _).alloc (Nat.le_refl _) _
  have HM3 : Hid (Blk w3 M 56 #[.slice none 0 0, .int .i64 (kd : Nat), .int .i64 (cl : Nat)]) := by rw [← hw3, ← hM]; exact Blk.new _ _ _
  have HZ3 := hide (HZ2.out.below hb3)
  have HR3 := hide (HR2.out.below hb3)
  have HW3 : Hid (Wrs [g] w w3) := HW2.out.trans (Wrs.of_below hb3)
  have hMg : M ≠ g := by have := HR2.out.lt; omega
  have hMZ : M ≠ Z := by have := HZ2.out.lt; omega
  have hMw : w.heap.size ≤ M := by have := HW2.out.size; omega
  have HWW3 := hide hw3
  have HMM := hide hM
  clear hb3 hw3 hM HZ2 HR2 HW2
  go_wp2_with fail
  rw [HWW3.out, HMM.out]
  refine (HR3.out.num (n := 1) (by omega)).mono ?_
  rintro e w4 ⟨rfl, hr, hw⟩
  have HZ4 := hide (wrs_blk hw HZ3.out hZg)
  have HM4 := hide (wrs_blk hw HM3.out hMg)
  have HR4 := hide hr
  have HW4 : Hid (Wrs [g] w w4) := HW3.out.trans hw
  have hka := rn_lt (s := s) (st := sb) (n := 1)
  obtain ⟨sz, hsz⟩ : ∃ n, (rn (fb s) s.size sb 1).1 = n := ⟨_, rfl⟩
  obtain ⟨sc, hsc⟩ : ∃ n, (rn (fb s) s.size sb 1).2 = n := ⟨_, rfl⟩
  rw [hsz] at hka HRT ⊢
  rw [hsc] at HR4 HRT
  have hkc' : sz < 256 := hka
  clear hr hw hsz hsc hka HR3 HZ3 HM3 HW3
  go_wp2_with fail
  refine (HR4.out.take (n := sz) (by omega)).mono ?_
  rintro e w5 ⟨v5, rfl, hbs, hcp5, hr, hw⟩
  have HZ5 := hide (wrs_blk hw HZ4.out hZg)
  have HM5 := hide (wrs_blk hw HM4.out hMg)
  have HR5 := hide hr
  have HW5 : Hid (Wrs [g] w w5) := HW4.out.trans hw
  have hnm := rb_len (s := s) (st := sc) (n := sz)
  obtain ⟨nm, hnme⟩ : ∃ n, (rb (fb s) s.size sc sz).1 = n := ⟨_, rfl⟩
  obtain ⟨sd, hsd⟩ : ∃ n, (rb (fb s) s.size sc sz).2 = n := ⟨_, rfl⟩
  rw [hnme] at hbs hnm HRT
  rw [hsd] at HR5 HRT
  have HCL := hide (cloneAll_any _ nm w5 (by omega) hbs)
  obtain ⟨a5, c5, rfl⟩ := hbs.slice
  clear hr hw hnme hsd HR4 HZ4 HM4 HW4 hbs hcp5
  go_wp2_with fail
  refine HCL.out.mono ?_
  rintro e w6 ⟨u, rfl, hown, hb6⟩
  have HZ6 := hide (HZ5.out.below hb6)
  have HM6 := hide (HM5.out.below hb6)
  have HR6 := hide (HR5.out.below hb6)
  have HW6 : Hid (Wrs [g] w w6) := HW5.out.trans (Wrs.of_below hb6)
  have HO6 := hide hown
  have hw5s : w.heap.size ≤ w5.heap.size := HW5.out.size
  obtain ⟨au, cu, rfl⟩ : ∃ a c, u = .slice a (nb nm).length c := by
    rcases hown.2 with ⟨h1, h2⟩ | ⟨gg, cap, cur, h1, _⟩
    · exact ⟨none, 0, by rw [h1, h2]⟩
    · exact ⟨_, _, h1⟩
  have m0 := HM6.out.cell 0
  have m1 := HM6.out.cell 1
  have m2 := HM6.out.cell 2
  have mf := HM6.out.frozen 0
  have z0 := HZ6.out.cell 0
  have z1 := HZ6.out.cell 1
  have z2 := HZ6.out.cell 2
  have f0 := HZ6.out.frozen 0
  have f1 := HZ6.out.frozen 1
  have f2 := HZ6.out.frozen 2
  simp only [List.getElem?_toArray, List.getElem?_cons_succ, List.getElem?_cons_zero] at m0 m1 m2 z0 z1 z2
  clear hown hb6 HR5 HZ5 HM5 HW5 HCL
  go_wp2
  (try simp only [Exit.inBlock, Exit.then])
  refine bodyPost_ret (results_cell_row rfl _ _ Z 56 #[.slice au (nb nm).length cu, .int .i64 (kd : Nat), .int .i64 (cl : Nat)] (0, 0) _ rfl ((((HZ6.out.other 0 _ (fun e => hMZ e.symm)).set 0 _).set 1 _).set 2 _) Tryd.underlying56 rfl (by kernel_rfl)) rfl ?_
  rw [HRT.out]
  have hk : ∀ (t : TypeId), t ≠ 56 → ∀ k cs, Blk w6 k t cs → Blk ((((w6.setCell ⟨M, 0, none⟩ (.slice au (nb nm).length cu)).setCell ⟨Z, 0, none⟩ (.slice au (nb nm).length cu)).setCell ⟨Z, 1, none⟩ (.int .i64 (kd : Nat))).setCell ⟨Z, 2, none⟩ (.int .i64 (cl : Nat))) k t cs := fun t ht k cs h => by
    have q1 := set_typed (k := 0) (v := .slice au (nb nm).length cu) HM6.out h ht
    have z1 := HZ6.out.other 0 (.slice au (nb nm).length cu) (fun e => hMZ e.symm)
    have q2 := set_typed (k := 0) (v := .slice au (nb nm).length cu) z1 q1 ht
    have z2 := z1.set 0 (.slice au (nb nm).length cu)
    have q3 := set_typed (k := 1) (v := .int .i64 (kd : Nat)) z2 q2 ht
    have z3 := z2.set 1 (.int .i64 (kd : Nat))
    exact set_typed z3 q3 ht
  have hwr : Wrs [g] w ((((w6.setCell ⟨M, 0, none⟩ (.slice au (nb nm).length cu)).setCell ⟨Z, 0, none⟩ (.slice au (nb nm).length cu)).setCell ⟨Z, 1, none⟩ (.int .i64 (kd : Nat))).setCell ⟨Z, 2, none⟩ (.int .i64 (cl : Nat))) := by
    have hZw : w.heap.size ≤ Z := by rw [HZZ.out]; exact Nat.le_refl _
    exact wrs_new (wrs_new (wrs_new (wrs_new HW6.out hMw) hZw) hZw) hZw
  refine ⟨_, rfl, own_base (own_typed HO6.out fun k cur q => hk 5 (by decide) k cur q) hw5s, HRW.out.wrs ?_ hwr, hwr⟩
  obtain ⟨r1, a1, r2, r3⟩ := HR6.out.ri
  exact ⟨r1, a1, hk _ (by decide) _ _ r2, r3⟩
end Go.Proofs.YtpnocklldlacjaaDoor

namespace Go.Proofs.YtpnocklldlacjaaDoor
open Go.RowKit

set_option maxHeartbeats 1000000 in
set_option maxRecDepth 1000000 in
theorem outside_any (x lo hi : Int) (B1 B2 : Nat) (w : World) (h1 : w.cell? ⟨B1, 0, none⟩ = some (.int .i64 lo)) (h2 : w.cell? ⟨B2, 0, none⟩ = some (.int .i64 hi)) :
    Calls Tryd.prog 82 #[.int .i64 x, .pointer (some ⟨B1, 0, none⟩), .pointer (some ⟨B2, 0, none⟩)] w fun e w' => e = .returned (.bool (decide (x < lo) || decide (hi < x))) ∧ Below w.heap.size w w' := by
  by_cases q : x < lo
  · have t : decide (x < lo) = true := decide_eq_true q
    rw [t, Bool.true_or]
    go_enter Tryd.func82, Tryd.ntmps82
    go_wp2
    go_ret
    exact ⟨rfl, Below.refl _ _⟩
  have t : decide (x < lo) = false := decide_eq_false q
  rw [t, Bool.false_or]
  by_cases q2 : hi < x
  · have t2 : decide (hi < x) = true := decide_eq_true q2
    rw [t2]
    go_enter Tryd.func82, Tryd.ntmps82
    go_wp2
    go_ret
    exact ⟨rfl, Below.refl _ _⟩
  have t2 : decide (hi < x) = false := decide_eq_false q2
  rw [t2]
  go_enter Tryd.func82, Tryd.ntmps82
  go_wp2
  go_ret
  exact ⟨rfl, Below.refl _ _⟩

/-- Some number of a list lies outside. -/
def SomeOut (L : List Int) (lo hi : Int) : Prop := ∃ i, i < L.length ∧ (L.getD i 0 < lo ∨ hi < L.getD i 0)

set_option maxHeartbeats 2000000 in
set_option maxRecDepth 1000000 in
theorem indexOut_any (v : Value) (L : List Int) (lo hi : Int) (B1 B2 : Nat) (w : World) (h1 : w.cell? ⟨B1, 0, none⟩ = some (.int .i64 lo)) (h2 : w.cell? ⟨B2, 0, none⟩ = some (.int .i64 hi)) (hl : (L.length : Int) ≤ 9223372036854775807) (h : IS w v L) :
    Calls Tryd.prog 89 #[v, .func (.func 82) #[] #[.pointer (some ⟨B1, 0, none⟩), .pointer (some ⟨B2, 0, none⟩)]] w fun e w' => (∃ r : Int, e = .returned (.int .i64 r) ∧ (0 ≤ r ↔ SomeOut L lo hi)) ∧ Below w.heap.size w w' := by
  obtain ⟨a, b, o, c, rfl, ha, hc⟩ := h
  have HC := hide hc
  have H1 := hide h1
  have H2 := hide h2
  clear hc h1 h2
  go_enter Tryd.func89, Tryd.ntmps89
  go_wp2
  go_loopw [8] (fun ix wr => ∃ k : Nat, k ≤ L.length ∧ ix = .int .i64 k ∧ (∀ i, i < k → ¬ (L.getD i 0 < lo ∨ hi < L.getD i 0)) ∧ Below w.heap.size w wr) (fun ix _ => L.length - (intOf ix).toNat)
  case atStart => exact ⟨0, Nat.zero_le _, rfl, fun _ h => absurd h (Nat.not_lt_zero _), Below.refl _ _⟩
  case round =>
    obtain ⟨k, hk, rfl, hne, hbl⟩ := hrel
    have HNE := hide hne
    have HB := hide hbl
    clear hne
    by_cases hlt : k < L.length
    · have hlti : (k : Int) < (L.length : Int) := by omega
      obtain rfl := ha (by omega)
      have hcell := cell_kept (HC.out k hlt) hbl
      obtain ⟨x, hx⟩ : ∃ x, L.getD k 0 = x := ⟨_, rfl⟩
      rw [hx] at hcell
      have HX := hide hx
      have HW := hide (outside_any x lo hi B1 B2 wr (cell_kept H1.out hbl) (cell_kept H2.out hbl))
      obtain ⟨g, hg⟩ : ∃ g, (decide (x < lo) || decide (hi < x)) = g := ⟨_, rfl⟩
      rw [hg] at HW
      have HG := hide hg
      clear hx hbl hg
      cases g with
      | true =>
        have HR : Hid (SomeOut L lo hi) := ⟨k, hlt, by
          rw [HX.out]
          have := HG.out
          simpa using this⟩
        go_wp2_with fail
        refine HW.out.mono ?_
        rintro e w5 ⟨rfl, hb5⟩
        have HB5 : Hid (Below w.heap.size w w5) := HB.out.trans (hb5.mono HB.out.size)
        clear hb5
        go_wp2
        go_ret
        exact ⟨⟨k, rfl, ⟨fun _ => HR.out, fun _ => by omega⟩⟩, HB5.out⟩
      | false =>
        have HNE1 : Hid (∀ i, i < k + 1 → ¬ (L.getD i 0 < lo ∨ hi < L.getD i 0)) := fun i hi => by
          by_cases e : i = k
          · subst e
            rw [HX.out]
            have := HG.out
            simpa using this
          · exact HNE.out i (by omega)
        go_wp2_with fail
        refine HW.out.mono ?_
        rintro e w5 ⟨rfl, hb5⟩
        have HB5 : Hid (Below w.heap.size w w5) := HB.out.trans (hb5.mono HB.out.size)
        clear hb5
        go_wp2
        go_roundw
        case rel => exact ⟨k + 1, by omega, by go_num, HNE1.out, HB5.out⟩
        case measure => simp [intOf]; omega
    · have hge : ¬ (k : Int) < (L.length : Int) := by omega
      clear hbl
      go_wp2
      go_ret
      exact ⟨⟨-1, rfl, ⟨fun h => by omega, fun ⟨i, hi, he⟩ => absurd he (HNE.out i (by omega))⟩⟩, HB.out⟩

set_option maxHeartbeats 1000000 in
set_option maxRecDepth 1000000 in
theorem containsOut_any (v : Value) (L : List Int) (lo hi : Int) (B1 B2 : Nat) (w : World) (h1 : w.cell? ⟨B1, 0, none⟩ = some (.int .i64 lo)) (h2 : w.cell? ⟨B2, 0, none⟩ = some (.int .i64 hi)) (hl : (L.length : Int) ≤ 9223372036854775807) (h : IS w v L) :
    Calls Tryd.prog 81 #[v, .func (.func 82) #[] #[.pointer (some ⟨B1, 0, none⟩), .pointer (some ⟨B2, 0, none⟩)]] w fun e w' => Ans (SomeOut L lo hi) e ∧ Below w.heap.size w w' := by
  have HI := hide (indexOut_any v L lo hi B1 B2 w h1 h2 hl h)
  clear h1 h2 h
  go_enter Tryd.func81, Tryd.ntmps81
  go_wp2_with fail
  refine HI.out.mono ?_
  rintro e w5 ⟨⟨r, rfl, hr⟩, hb5⟩
  have HB5 := hide hb5
  have HR := hide hr
  clear hb5 hr
  by_cases q : 0 ≤ r
  · have t : decide (0 ≤ r) = true := decide_eq_true q
    go_wp2
    go_ret
    exact ⟨Ans.yes (HR.out.1 q), HB5.out⟩
  · have t : decide (0 ≤ r) = false := decide_eq_false q
    go_wp2
    go_ret
    exact ⟨Ans.no (fun h => absurd (HR.out.2 h) (by omega)), HB5.out⟩

set_option maxHeartbeats 1000000 in
set_option maxRecDepth 1000000 in
theorem allWithin_any (v : Value) (L : List Int) (lo hi : Int) (w : World) (hl : (L.length : Int) ≤ 9223372036854775807) (h : IS w v L) :
    Calls Tryd.prog 64 #[v, .int .i64 lo, .int .i64 hi] w fun e w' => Ans (∀ i, i < L.length → lo ≤ L.getD i 0 ∧ L.getD i 0 ≤ hi) e ∧ Below w.heap.size w w' := by
  obtain ⟨W1, hW1⟩ : ∃ W, w.alloc (.cells #[.int .i64 lo] 3) = W := ⟨_, rfl⟩
  obtain ⟨W2, hW2⟩ : ∃ W, W1.alloc (.cells #[.int .i64 hi] 3) = W := ⟨_, rfl⟩
  have hb1 : Below w.heap.size w W1 := by rw [← hW1]; exact (Below.refl _ _).alloc (Nat.le_refl _) _
  have hb2 : Below W1.heap.size W1 W2 := by rw [← hW2]; exact (Below.refl _ _).alloc (Nat.le_refl _) _
  have c1 : W1.cell? ⟨w.heap.size, 0, none⟩ = some (.int .i64 lo) := by rw [← hW1]; simp
  have c2 : W2.cell? ⟨W1.heap.size, 0, none⟩ = some (.int .i64 hi) := by rw [← hW2]; simp
  have hb := hb1.trans (hb2.mono hb1.size)
  have hs1 : W1.heap.size = w.heap.size + 1 := by rw [← hW1, World.size_alloc]
  have HC := hide (containsOut_any v L lo hi w.heap.size W1.heap.size W2 (cell_kept c1 hb2) c2 hl (h.below hb))
  rw [hs1] at HC
  have HB := hide hb
  obtain ⟨a, c, rfl⟩ := h.slice
  have HW : Hid ((w.alloc (.cells #[.int .i64 lo] 3)).alloc (.cells #[.int .i64 hi] 3) = W2) := by show _ = _; rw [hW1, hW2]
  clear h hb hb1 hb2 c1 c2 hs1 hW1 hW2
  go_enter Tryd.func64, Tryd.ntmps64
  go_wp2_with fail
  rw [HW.out]
  refine HC.out.mono ?_
  rintro e w5 ⟨hr, hb5⟩
  have HB5 : Hid (Below w.heap.size w w5) := HB.out.trans (hb5.mono HB.out.size)
  clear hb5
  obtain ⟨g, rfl, hr⟩ := hr
  cases g with
  | true =>
    have HR := hide (hr.1 rfl)
    clear hr
    go_wp2
    go_ret
    refine ⟨Ans.no ?_, HB5.out⟩
    intro h
    obtain ⟨i, h1, he⟩ := HR.out
    have := h i h1
    omega
  | false =>
    have HR : Hid (¬ SomeOut L lo hi) := fun h => by have := hr.2 h; cases this
    clear hr
    go_wp2
    go_ret
    refine ⟨Ans.yes ?_, HB5.out⟩
    intro i h1
    have h2 : ¬ (L.getD i 0 < lo ∨ hi < L.getD i 0) := fun h => HR.out ⟨i, h1, h⟩
    omega
end Go.Proofs.YtpnocklldlacjaaDoor

namespace Go.Proofs.YtpnocklldlacjaaDoor
open Go.RowKit

set_option maxHeartbeats 1000000 in
set_option maxRecDepth 1000000 in
theorem packedSize_any (n : Nat) (w : World) (hn : n ≤ 9223372036854775807) :
    Calls Tryd.prog 65 #[.int .i64 n] w fun e w' => e = .returned (.int .i64 (((3 * n + 7) / 8 : Nat) : Int)) ∧ w' = w := by
  have HR : Hid ((n : Int) / 8 * 3 + ((n : Int) % 8 * 3 + 7) / 8 = (((3 * n + 7) / 8 : Nat) : Int)) := by show _ = _; omega
  go_enter Tryd.func65, Tryd.ntmps65
  go_wp2
  go_ret
  exact ⟨by rw [← HR.out]; rfl, rfl⟩
end Go.Proofs.YtpnocklldlacjaaDoor
