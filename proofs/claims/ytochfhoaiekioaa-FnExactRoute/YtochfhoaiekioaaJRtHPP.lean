/-
  The walk of a heap's put.
-/
import Derived.Test.YtochfhoaiekioaaJRtHPM
import Derived.Deep.RegionLaw
import Derived.Laws.AppendOwn
import Derived.Test.YtochfhoaiekioaaJRtSRY
namespace Go.Proofs.Ytochfhoaiekioaa
open Go.RowKit
open Go.Sort (grow)

/-- One trip more. -/
def updT (F : Nat → Tr) (n : Nat) (x : Tr) : Nat → Tr := fun k => if k = n then x else F k
theorem updT_eq (F : Nat → Tr) (n : Nat) (x : Tr) : updT F n x n = x := by unfold updT; rw [if_pos rfl]
theorem updT_ne {F : Nat → Tr} {n k : Nat} (h : k ≠ n) (x : Tr) : updT F n x k = F k := by unfold updT; rw [if_neg h]
theorem trc_upd (F : Nat → Tr) (n : Nat) (x : Tr) : trc (updT F n x) (n + 1) = trc F n ++ [.int .i64 x.c, .int .i64 x.l] := by
  show trc (updT F n x) n ++ _ = _
  rw [updT_eq, trc_congr (fun i hi => updT_ne (by omega) x)]
theorem InH.upd {F : Nat → Tr} {n : Nat} {x y : Tr} : InH (updT F n x) (n + 1) y ↔ y = x ∨ InH F n y := by
  constructor
  · rintro ⟨i, hi, rfl⟩
    by_cases e : i = n
    · subst e; exact .inl (updT_eq _ _ _)
    · exact .inr ⟨i, by omega, (updT_ne e x).symm⟩
  · rintro (rfl | ⟨i, hi, rfl⟩)
    · exact ⟨n, by omega, updT_eq _ _ _⟩
    · exact ⟨i, by omega, updT_ne (by omega) x⟩
theorem Hp.congr {F F' : Nat → Tr} {n : Nat} (h : Hp F n) (he : ∀ i, i < n → F i = F' i) : Hp F' n := fun i h0 hi => by
  rw [← he i hi, ← he _ (by omega)]; exact h i h0 hi
theorem HpU.put {F : Nat → Tr} {n : Nat} (h : Hp F n) (x : Tr) : HpU (updT F n x) (n + 1) n :=
  HpU.new (h.congr fun i hi => (updT_ne (by omega) x).symm)
/-- What is known of an append of a trip. -/
structure ApT (W W' : World) (G : Nat) (v v' : Value) (F : Nat → Tr) (n : Nat) : Prop where
  own : TrO W' G v' F n
  gr : W.grownBy W' v.ownBlock
  at' : v'.ownBlock = v.ownBlock ∨ v'.ownBlock = some W.heap.size
theorem ApT.kh {W W' : World} {G H : Nat} {v v' : Value} {F : Nat → Tr} {n : Nat} (h : ApT W W' G v v' F n) : Kh H v v' W W' :=
  ⟨h.gr.os, h.gr.tape, h.gr.output, h.gr.size, fun k hk _ h2 => h.gr.block k hk (fun e => h2 e.symm), fun k hk h2 => by
    rcases h.at' with e | e
    · rw [e]; exact h2
    · rw [e]; intro q; have := Option.some.inj q; omega⟩
theorem Try.infoTr : (Try.prog.info? 59).map (fun i => (i.zero, i.size, i.bytes)) = some (some (.agg #[.int .i64 0, .int .i64 0]), 2, 16) := by kernel_rfl
theorem info_partsTr {P : Program} {t : TypeId} {z : Value} {a b : Nat} (h : (P.info? t).map (fun i => (i.zero, i.size, i.bytes)) = some (some z, a, b)) : ∃ i, P.info? t = some i ∧ i.zero = some z ∧ i.size = a ∧ i.bytes = b := by
  cases hi : P.info? t with
  | none => rw [hi] at h; cases h
  | some i => rw [hi] at h; simp at h; exact ⟨i, rfl, h.1, h.2.1, h.2.2⟩
/-- append of a trip onto a row of the call's own, as one step of a region that draws. -/
theorem step_appT {ops : Array Oper} {o : Oper} {a : Act} {w : World} {K : Act → World → Prop} {Q : Exit → Act → World → Prop} {E : Prop} (hgd : o.guard = none) (s x : Operand)
    (ho : o.op = .call { callee := .builtin .append, args := #[s, x], argTypes := #[54, 54] }) (B : Nat) (v : Value) (F : Nat → Tr) (n : Nat) (hs : a.eval s = v) (hown : TrO w B v F n)
    (g c : Nat) (y : Tr) (hx : a.eval x = .slice (some ⟨g, 0, none⟩) 1 c) (hn0 : w.cell? ⟨g, 0, none⟩ = some (.int .i64 y.c)) (hn1 : w.cell? ⟨g, 1, none⟩ = some (.int .i64 y.l)) (hlen : n ≤ 20000000) (hbase : B ≤ w.heap.size)
    (h : ∀ v' w', ApT w w' B v v' (updT F n y) (n + 1) → K (a.put o.dst v') w') :
    if Region.wanted o (yielded ops a.tmps) = true then Oper.wp Try.prog o a w K Q else E := by
  have hw : Region.wanted o (yielded ops a.tmps) = true := by simp [Region.wanted, hgd]
  rw [if_pos hw]
  obtain ⟨i0, hi, hz0, hz1, hz2⟩ := info_partsTr Try.infoTr
  have hn : ∀ j u, ([.int .i64 y.c, .int .i64 y.l] : List Value)[j]? = some u → w.cell? ((⟨g, 0, none⟩ : Addr).add j) = some u := fun j u hj => by
    match j, hj with
    | 0, hj =>
      have e : (⟨g, 0, none⟩ : Addr).add 0 = ⟨g, 0, none⟩ := by unfold Addr.add; split <;> simp_all
      rw [e, hn0, ← hj]
      rfl
    | 1, hj =>
      have e : (⟨g, 0, none⟩ : Addr).add 1 = ⟨g, 1, none⟩ := by unfold Addr.add; split <;> simp_all
      rw [e, hn1, ← hj]
      rfl
  obtain ⟨v', w', hr, h1, h2, _, h4⟩ := run_append_own_at (P := Try.prog) w B 54 o.type 59 i0 _ 2 16 Try.underlying54 hi hz0 hz1 hz2 rfl (by decide) v n (trc F n) hown ⟨g, 0, none⟩ 1 c [.int .i64 y.c, .int .i64 y.l] rfl hn (by intro u hu; simp only [List.mem_cons, List.not_mem_nil, or_false] at hu; rcases hu with rfl | rfl <;> rfl) (by unfold maxLen; omega) (by omega) hbase
  unfold Oper.wp execOp
  simp only [ho, resolve, invoke, builtin, Sem.run_bind, Sem.run_pure, Result.andThen_ok, List.map_toArray, List.map_cons, List.map_nil, hs, hx, hr]
  refine h v' w' ⟨?_, h2, h4⟩
  unfold TrO
  rw [trc_upd]
  exact h1
/-- What put leaves. -/
def PutP (w w' : World) (H G : Nat) (v : Value) (F : Nat → Tr) (n : Nat) (x : Tr) : Prop := ∃ v' F', HpA w' H G v' F' (n + 1) ∧ Hp F' (n + 1) ∧ (∀ y, InH F' (n + 1) y ↔ y = x ∨ InH F n y) ∧ Kh H v v' w w'

set_option maxHeartbeats 4000000 in
set_option maxRecDepth 1000000 in
theorem hput_any (H G : Nat) (v : Value) (F : Nat → Tr) (n : Nat) (x : Tr) (w : World) (ha : HpA w H G v F n) (hh : Hp F n) (hG : G ≤ w.heap.size) (hn : n ≤ 20000000) :
    Calls Try.prog 29 #[.pointer (some ⟨H, 0, none⟩), tv x] w fun e w' => e = .returned (.tuple #[]) ∧ PutP w w' H G v F n x := by
  have HSH := hide (fun x y V => shorter_g x y V)
  have mixed : Try.prog.follows .mixedOrders = true := by kernel_rfl
  unfold tv at HSH ⊢
  obtain ⟨xc, xl⟩ := x
  simp only at HSH ⊢
  have HLT := hide ha.lt
  have hbA : Below w.heap.size w ((w.alloc (.cells #[.int .i64 xc, .int .i64 xl] 59)).alloc (.cells #[.int .i64 xc, .int .i64 xl] 59)).drew := (((Below.refl _ w).alloc (Nat.le_refl _) _).alloc (by rw [World.size_alloc]; omega) _).drew
  have hbB : Below w.heap.size w (w.alloc (.cells #[.int .i64 xc, .int .i64 xl] 59)) := (Below.refl _ w).alloc (Nat.le_refl _) _
  have HA := hide (ha.below hbA)
  have c0 := (ha.box.below hbB).cell 0
  have c1 := ha.box.cell 0
  have c2 := (ha.box.below (((Below.refl _ w).alloc (Nat.le_refl _) (.cells #[.int .i64 xc, .int .i64 xl] 59)).alloc (by rw [World.size_alloc]; omega) (.cells #[.int .i64 xc, .int .i64 xl] 59))).cell 0
  simp only [List.getElem?_toArray, List.getElem?_cons_zero] at c0 c1 c2
  have HHP := hide hh
  have HBA := hide hbA
  have HG1 : Hid (G ≤ ((w.alloc (.cells #[.int .i64 xc, .int .i64 xl] 59)).alloc (.cells #[.int .i64 xc, .int .i64 xl] 59)).drew.heap.size) := Nat.le_trans hG hbA.size
  have HN0 : Hid (((w.alloc (.cells #[.int .i64 xc, .int .i64 xl] 59)).alloc (.cells #[.int .i64 xc, .int .i64 xl] 59)).drew.cell? ⟨w.heap.size + 1, 0, none⟩ = some (.int .i64 xc)) := by
    have := (Blk.new (w.alloc (.cells #[.int .i64 xc, .int .i64 xl] 59)) 59 #[.int .i64 xc, .int .i64 xl]).cell 0
    rw [World.size_alloc] at this
    exact this
  have HN1 : Hid (((w.alloc (.cells #[.int .i64 xc, .int .i64 xl] 59)).alloc (.cells #[.int .i64 xc, .int .i64 xl] 59)).drew.cell? ⟨w.heap.size + 1, 1, none⟩ = some (.int .i64 xl)) := by
    have := (Blk.new (w.alloc (.cells #[.int .i64 xc, .int .i64 xl] 59)) 59 #[.int .i64 xc, .int .i64 xl]).cell 1
    rw [World.size_alloc] at this
    exact this
  obtain ⟨av, cv, hv⟩ := ha.own.slc
  subst hv
  clear ha hh hG hbA hbB
  go_enter Try.func29, Try.ntmps29
  go_wp2_with fail
  apply key_rest
  · intro HKEY
    go_region_law (refine step_appT rfl (.tmp 10) (.tmp 12) rfl G (.slice av n cv) F n rfl HA.out.own (w.heap.size + 1) 1 ⟨xc, xl⟩ rfl HN0.out HN1.out (by omega) HG1.out ?_
                   intro v' W' ap
                   have hbk := ap.kh.blk (H := H + 1) HA.out.box (by omega) (HA.out.own.ne HA.out.box (by decide))
                   obtain ⟨D, c, hv', hrow⟩ := ap.own.row (by omega)
                   subst hv'
                   have q0 := hbk.cell 0
                   have q1 := hbk.frozen 0
                   simp only [List.getElem?_toArray, List.getElem?_cons_zero] at q0
                   have HBK := hide hbk
                   have HROW := hide hrow
                   have HKH := hide (ApT.kh (H := H) ap)
                   clear ap hbk hrow)
    all_goals
      clear q0 q1
      revert HBK HROW HKH
      revert W' D c
      exact HKEY.out
  intro W' D c HBK HROW HKH
  have HK1 : Hid (Kh H (.slice av n cv) (.slice (some ⟨D, 0, none⟩) (n + 1) c) w (W'.setCell ⟨H, 0, none⟩ (.slice (some ⟨D, 0, none⟩) (n + 1) c))) := (Kh.of_below HBA.out).trans (HKH.out.trans (Kh.set rfl))
  have hDH : H ≠ D := by have h1 := HROW.out.lo; have h2 := HLT.out; omega
  have HA1 : Hid (Blk (W'.setCell ⟨H, 0, none⟩ (.slice (some ⟨D, 0, none⟩) (n + 1) c)) H 56 #[.slice (some ⟨D, 0, none⟩) (n + 1) c, ahV]) := HBK.out.set 0 _
  have HR1 : Hid (TrR (W'.setCell ⟨H, 0, none⟩ (.slice (some ⟨D, 0, none⟩) (n + 1) c)) G D c (updT F n ⟨xc, xl⟩) (n + 1)) := HROW.out.keep (Below.heap_setCell _ _ _ _ (fun e => hDH e.symm))
  obtain ⟨W1, hW1⟩ : ∃ W, W'.setCell ⟨H, 0, none⟩ (.slice (some ⟨D, 0, none⟩) (n + 1) c) = W := ⟨_, rfl⟩
  rw [hW1] at HK1 HA1 HR1 ⊢
  clear hW1 HBK HROW HKH HA HBA HG1 HN0 HN1 c0 c1 c2
  have z0 := HA1.out.cell 0
  simp only [List.getElem?_toArray, List.getElem?_cons_zero] at z0
  have hwn : IntKind.i64.wrap ((n : Int) + 1 - 1) = (n : Int) := by rw [IntKind.wrap_i64]; omega
  go_wp2
  go_loopw [4] (fun ix wr => ∃ (p : Nat) (F1 : Nat → Tr), p ≤ n ∧ ix = .int .i64 p ∧ TrR wr G D c F1 (n + 1) ∧ Blk wr H 56 #[.slice (some ⟨D, 0, none⟩) (n + 1) c, ahV] ∧ HpU F1 (n + 1) p ∧ (∀ y, InH F1 (n + 1) y ↔ y = ⟨xc, xl⟩ ∨ InH F n y) ∧ Kh H (.slice av n cv) (.slice (some ⟨D, 0, none⟩) (n + 1) c) w wr) (fun ix _ => (intOf ix).toNat)
  case atStart => exact ⟨n, updT F n ⟨xc, xl⟩, Nat.le_refl _, rfl, HR1.out, HA1.out, HpU.put HHP.out _, fun y => InH.upd, HK1.out⟩
  case round =>
    clear z0 HA1 HR1 HK1
    obtain ⟨p, F1, hp, rfl, hr, hb, hu, hin, hk⟩ := hrel
    rename World => Z
    have HR := hide hr
    have HB := hide hb
    have HU := hide hu
    have HIN := hide hin
    have HK := hide hk
    clear hr hb hu hin hk
    by_cases h0 : 0 < p
    · obtain ⟨pp, rfl⟩ : ∃ k, p = k + 1 := ⟨p - 1, by omega⟩
      obtain ⟨q, hq⟩ : ∃ q, pp / 2 = q := ⟨_, rfl⟩
      have HQ := hide hq
      have hqd : Int.tdiv (pp : Int) 2 = (q : Int) := by rw [← hq]; rfl
      have hqp : q ≤ pp := by omega
      have hwp : IntKind.i64.wrap ((pp : Int) + 1 - 1) = (pp : Int) := by rw [IntKind.wrap_i64]; omega
      have hwp2 : IntKind.i64.wrap (pp : Int) = (pp : Int) := by rw [IntKind.wrap_i64]; omega
      have hwq : IntKind.i64.wrap (q : Int) = (q : Int) := by rw [IntKind.wrap_i64]; omega
      obtain ⟨p0, p1⟩ := HR.out.each (pp + 1) (by omega)
      obtain ⟨q0, q1⟩ := HR.out.each q (by omega)
      obtain ⟨x, hx⟩ : ∃ x, F1 (pp + 1) = x := ⟨_, rfl⟩
      obtain ⟨y, hy⟩ : ∃ y, F1 q = y := ⟨_, rfl⟩
      rw [hx] at p0 p1
      rw [hy] at q0 q1
      have HX := hide hx
      have HY := hide hy
      have z0 := HB.out.cell 0
      have z1 := HB.out.cell 1
      simp only [List.getElem?_toArray, List.getElem?_cons_zero, List.getElem?_cons_succ] at z0 z1
      unfold ahV at z1
      have hp0 : ∀ k os, (grow (Z.drewN k) os).cell? ⟨D, (pp + 1) * 2, none⟩ = some (.int .i64 x.c) := fun k os => cell_kept p0 (below_grow Z k os)
      have hp1 : ∀ k os, (grow (Z.drewN k) os).cell? ⟨D, (pp + 1) * 2 + 1, none⟩ = some (.int .i64 x.l) := fun k os => cell_kept p1 (below_grow Z k os)
      have hq0 : ∀ k os, (grow (Z.drewN k) os).cell? ⟨D, q * 2, none⟩ = some (.int .i64 y.c) := fun k os => cell_kept q0 (below_grow Z k os)
      have hq1 : ∀ k os, (grow (Z.drewN k) os).cell? ⟨D, q * 2 + 1, none⟩ = some (.int .i64 y.l) := fun k os => cell_kept q1 (below_grow Z k os)
      have hz0 : ∀ k os, (grow (Z.drewN k) os).cell? ⟨H, 0, none⟩ = some (.slice (some ⟨D, 0, none⟩) (n + 1) c) := fun k os => cell_kept z0 (below_grow Z k os)
      have hz1 : ∀ k os, (grow (Z.drewN k) os).cell? ⟨H, 1, none⟩ = some (.func (.func 28) #[] #[]) := fun k os => cell_kept z1 (below_grow Z k os)
      have HSW := hide (fun V (hV : Below Z.heap.size Z V) => hswap_any H G D c (n + 1) (pp + 1) q F1 V (HB.out.below hV) (HR.out.below hV) (by omega) (by omega))
      have HSX := hide (fun V => HSH.out x y V)
      obtain ⟨x0, x1⟩ := x
      obtain ⟨y0, y1⟩ := y
      simp only at hp0 hp1 hq0 hq1 HSX
      obtain ⟨b, hb⟩ : ∃ b, decide (x1 < y1) = b := ⟨_, rfl⟩
      have HBB := hide hb
      simp only [hb] at HSX
      clear hb
      have hpi : (pp : Int) + 1 < (n : Int) + 1 := by omega
      have hqi : (q : Int) < (n : Int) + 1 := by omega
      have hpt : ((pp : Int) + 1).toNat = pp + 1 := by omega
      have hpn : (0 : Int) ≤ (pp : Int) + 1 := by omega
      have tg : decide ((0 : Int) < (pp : Int) + 1) = true := decide_eq_true (by omega)
      clear p0 p1 q0 q1 z0 z1 hx hy hq h0
      go_wp2_with fail
      go_quiet_grown ((go_at_call 28; exact Calls.grown_of (HSX.out _)))
      obtain ⟨Z3, hZ3⟩ : ∃ V, grow (Z.drewN nq) osq = V := ⟨_, rfl⟩
      have hBZ : Below Z.heap.size Z Z3 := by rw [← hZ3]; exact below_grow _ _ _
      rw [hZ3]
      have HBZ := hide hBZ
      clear hp0 hp1 hq0 hq1 hz0 hz1 hZ3 hBZ
      cases b with
      | true =>
        have hlt : x1 < y1 := of_decide_eq_true HBB.out
        have HS3 := hide (HSW.out Z3 HBZ.out)
        rw [Int.natCast_add, Int.cast_ofNat_Int] at HS3
        have HU2 : Hid (HpU (swF F1 (pp + 1) q) (n + 1) q) := by
          have := HU.out.step (by omega) (by omega) (by rw [Nat.add_sub_cancel, HQ.out, HX.out, HY.out]; exact hlt)
          rw [Nat.add_sub_cancel, HQ.out] at this
          exact this
        have HIN2 : Hid (∀ y, InH (swF F1 (pp + 1) q) (n + 1) y ↔ y = ⟨xc, xl⟩ ∨ InH F n y) := fun y => (InH.sw (by omega) (by omega)).trans (HIN.out y)
        clear hlt
        go_wp2_with fail
        refine HS3.out.mono ?_
        rintro e w5 ⟨rfl, hr5, hw5⟩
        have HR5 := hide hr5
        have HB5 : Hid (Blk w5 H 56 #[.slice (some ⟨D, 0, none⟩) (n + 1) c, ahV]) := (hw5.blk H (HB.out.below HBZ.out).lt (by simp; exact hDH)).trans (HB.out.below HBZ.out)
        have HK5 : Hid (Kh H (.slice av n cv) (.slice (some ⟨D, 0, none⟩) (n + 1) c) w w5) := (HK.out.trans (Kh.of_below HBZ.out)).trans (Kh.of_wrs hw5)
        clear hr5 hw5
        go_wp2
        go_roundw
        case rel => exact ⟨q, swF F1 (pp + 1) q, by omega, rfl, HR5.out, HB5.out, HU2.out, HIN2.out, HK5.out⟩
        case measure => simp [intOf]; omega
      | false =>
        have hlt : ¬ x1 < y1 := of_decide_eq_false HBB.out
        have HHF : Hid (PutP w Z3 H G (.slice av n cv) F n ⟨xc, xl⟩) := ⟨_, F1, ⟨HB.out.below HBZ.out, (HR.out.below HBZ.out).own, HLT.out⟩, HU.out.stop (.inr (by rw [Nat.add_sub_cancel, HQ.out, HX.out, HY.out]; exact hlt)), HIN.out, HK.out.trans (Kh.of_below HBZ.out)⟩
        clear hlt
        go_wp2
        refine bodyPost_ret (results_none rfl _ _ _) rfl ?_
        exact ⟨rfl, HHF.out⟩
    · obtain rfl : p = 0 := by omega
      have HHF : Hid (PutP w Z H G (.slice av n cv) F n ⟨xc, xl⟩) := ⟨_, F1, ⟨HB.out, HR.out.own, HLT.out⟩, HU.out.stop (.inl rfl), HIN.out, HK.out⟩
      go_wp2
      go_end0
      exact ⟨rfl, HHF.out⟩
end Go.Proofs.Ytochfhoaiekioaa
