/-
  The walk of spec.l1hex.
-/
import Derived.Test.YtaapababeecmeaaDoorJShowLayoutK
import Derived.Test.YtaapababeecmeaaDoorJShowLayoutE
import Derived.Deep.RegionLaw
namespace Go.Proofs.YtaapababeecmeaaDoor
open Go.RowKit

set_option maxHeartbeats 1000000 in
set_option maxRecDepth 1000000 in
theorem hex_one (v : Nat) (w : World) (hv : v < 16) :
    Calls Tryd.prog 57 #[.int .i64 v] w fun e w' => e = .returned (.slice (some ⟨w.heap.size, 0, none⟩) 1 1) ∧ w' = w.alloc (.cells #[.int .u8 (dg v : Nat)] 5) := by
  have hc : v = 0 ∨ v = 1 ∨ v = 2 ∨ v = 3 ∨ v = 4 ∨ v = 5 ∨ v = 6 ∨ v = 7 ∨ v = 8 ∨ v = 9 ∨ v = 10 ∨ v = 11 ∨ v = 12 ∨ v = 13 ∨ v = 14 ∨ v = 15 := by omega
  clear hv
  rcases hc with rfl | rfl | rfl | rfl | rfl | rfl | rfl | rfl | rfl | rfl | rfl | rfl | rfl | rfl | rfl | rfl
  all_goals
    go_enter Tryd.func57, Tryd.ntmps57
    go_wp2
    go_ret
    exact ⟨rfl, rfl⟩

theorem hex_one_int (x : Int) (v : Nat) (w : World) (hx : x = (v : Int)) (hv : v < 16) :
    Calls Tryd.prog 57 #[.int .i64 x] w fun e w' => e = .returned (.slice (some ⟨w.heap.size, 0, none⟩) 1 1) ∧ w' = w.alloc (.cells #[.int .u8 (dg v : Nat)] 5) := by
  subst hx; exact hex_one v w hv

/-- append onto a row of the call's own, as one step of a region that draws. -/
theorem step_append_own {P : Program} {ops : Array Oper} {o : Oper} {a : Act} {w : World} {K : Act → World → Prop} {Q : Exit → Act → World → Prop} {E : Prop}
    (hg : o.guard = none) (s x : Operand) (t : TypeId) (hop : o.op = Op.call { callee := Callee.builtin Builtin.append, args := #[s, x], argTypes := #[t, t] })
    (base : Nat) (e : TypeId) (i : TypeInfo) (z : Value) (size bytes : Nat) (ht : P.underlying t = some (.slice e)) (hi : P.info? e = some i) (hz : i.zero = some z)
    (hsize : i.size = size) (hby : i.bytes = bytes) (hzs : z.cells.size = size) (hsz : 0 < size)
    (v : Value) (n : Nat) (xs : List Value) (hs : a.eval s = v) (hown : w.ownsRow base e size v n xs)
    (ad : Addr) (m c : Nat) (news : List Value) (hx : a.eval x = .slice (some ad) m c) (hl : news.length = m * size) (hnews : ∀ j u, news[j]? = some u → w.cell? (ad.add j) = some u) (h1 : ∀ u ∈ news, u.oneCell' = true)
    (h63 : n + m ≤ maxLen) (hbytes : (n + m) * bytes ≤ 140737488355328) (hbase : base ≤ w.heap.size)
    (h : ∀ v' w', w'.ownsRow base e size v' (n + m) (xs ++ news) → w.grownBy w' v.ownBlock → K (a.put o.dst v') w') :
    if Region.wanted o (yielded ops a.tmps) = true then Oper.wp P o a w K Q else E := by
  have hw : Region.wanted o (yielded ops a.tmps) = true := by simp [Region.wanted, hg]
  rw [if_pos hw]
  exact wp_append_own w s x t hop base e i z size bytes ht hi hz hsize hby hzs hsz v n xs hs hown ad m c news hx hl hnews h1 h63 hbytes hbase fun v' w' h2 h3 _ => h v' w' h2 h3

theorem digit_at (r : Nat) (hr : r < 16) (w : World) : (Instr.index 9 (.string { data := #[48, 49, 50, 51, 52, 53, 54, 55, 56, 57, 97, 98, 99, 100, 101, 102] }) (.int .i64 (r : Int))).run Tryd.prog w = .ok (.int .u8 (dg r : Nat)) w :=
  match r, hr with
  | 0, _ => by kernel_rfl
  | 1, _ => by kernel_rfl
  | 2, _ => by kernel_rfl
  | 3, _ => by kernel_rfl
  | 4, _ => by kernel_rfl
  | 5, _ => by kernel_rfl
  | 6, _ => by kernel_rfl
  | 7, _ => by kernel_rfl
  | 8, _ => by kernel_rfl
  | 9, _ => by kernel_rfl
  | 10, _ => by kernel_rfl
  | 11, _ => by kernel_rfl
  | 12, _ => by kernel_rfl
  | 13, _ => by kernel_rfl
  | 14, _ => by kernel_rfl
  | 15, _ => by kernel_rfl
  | n + 16, h => absurd h (by omega)

set_option maxHeartbeats 1000000 in
set_option maxRecDepth 1000000 in
theorem hex_two' (v q r : Nat) (w : World) (hd : decide ((v : Int) < 16) = false) (hwr : IntKind.i64.wrap ((v : Int) / 16) = (q : Int)) (hrm : (v : Int).tmod 16 = (r : Int)) (hq : q < 16) (hr : r < 16) :
    Calls Tryd.prog 57 #[.int .i64 v] w fun e w' => ∃ v', e = .returned v' ∧ w'.ownsRow w.heap.size 5 1 v' 2 (cv [dg q, dg r]) ∧ Below w.heap.size w w' := by
  obtain ⟨i0, hi, hz0, hz1, hz2⟩ := info_parts Tryd.info5
  have hdig : ∀ w, (Instr.index 9 (.string { data := #[48, 49, 50, 51, 52, 53, 54, 55, 56, 57, 97, 98, 99, 100, 101, 102] }) (.int .i64 (r : Int))).run Tryd.prog w = .ok (.int .u8 (dg r : Nat)) w := fun w => digit_at r hr w
  have HQ := hide (fun w => hex_one q w hq)
  obtain ⟨D, hD⟩ : ∃ D : Int, ((dg r : Nat) : Int) = D := ⟨_, rfl⟩
  obtain ⟨C, hC⟩ : ∃ C : Int, ((dg q : Nat) : Int) = C := ⟨_, rfl⟩
  have HE : Hid (cv [dg q, dg r] = [.int .u8 C, .int .u8 D]) := by show _ = _; rw [← hC, ← hD]; rfl
  rw [hD] at hdig
  rw [hC] at HQ
  rw [HE.out]
  clear hD hC hq hr
  go_enter Tryd.func57, Tryd.ntmps57
  go_wp2_with fail
  have own1 : ∀ o, (((w.alloc (.cells #[.int .u8 C] 5)).alloc o).drew).ownsRow w.heap.size 5 1 (.slice (some ⟨w.heap.size, 0, none⟩) 1 1) 1 [.int .u8 C] := fun o => ((World.ownsRow_lit w #[.int .u8 C] 1 (Nat.le_refl _) (by unfold maxLen; omega) rfl).alloc o).drew
  have own2 : ∀ o, (((w.alloc o).alloc (.cells #[.int .u8 C] 5)).drew).ownsRow w.heap.size 5 1 (.slice (some ⟨w.heap.size + 1, 0, none⟩) 1 1) 1 [.int .u8 C] := fun o => by
    have h := (World.ownsRow_lit (base := w.heap.size) (e := 5) (size := 1) (w.alloc o) #[.int .u8 C] 1 (by simp) (by unfold maxLen; omega) rfl).drew
    simpa using h
  have HO1 := hide own1
  have HO2 := hide own2
  clear own1 own2
  go_region_law (first
    | (refine step_append_own rfl (.tmp 12) (.tmp 17) 39 rfl w.heap.size 5 i0 (.int .u8 0) 1 1 Tryd.underlying39 hi hz0 hz1 hz2 rfl (by decide) (.slice (some ⟨w.heap.size, 0, none⟩) 1 1) 1 [.int .u8 C] rfl (HO1.out _) ⟨w.heap.size + 1, 0, none⟩ 1 1 [.int .u8 D] rfl rfl ?news ?one ?h63 ?byt ?bas ?_
       case news => (intro j u hj; match j, hj with | 0, hj => (simp at hj; subst hj; simp [Addr.add]))
       case one => (intro u hu; simp at hu; subst hu; rfl)
       case h63 => (unfold maxLen; omega)
       case byt => omega
       case bas => (simp; omega)
       intro v' w' ho hg)
    | (refine step_append_own rfl (.tmp 12) (.tmp 17) 39 rfl w.heap.size 5 i0 (.int .u8 0) 1 1 Tryd.underlying39 hi hz0 hz1 hz2 rfl (by decide) (.slice (some ⟨w.heap.size + 1, 0, none⟩) 1 1) 1 [.int .u8 C] rfl (HO2.out _) ⟨w.heap.size, 0, none⟩ 1 1 [.int .u8 D] rfl rfl ?news ?one ?h63 ?byt ?bas ?_
       case news => (intro j u hj; match j, hj with | 0, hj => (simp at hj; subst hj; simp [Addr.add]))
       case one => (intro u hu; simp at hu; subst hu; rfl)
       case h63 => (unfold maxLen; omega)
       case byt => omega
       case bas => (simp; omega)
       intro v' w' ho hg)
    | (go_simp; go_at_call 57; refine (HQ.out _).mono ?_; rintro e w' ⟨rfl, rfl⟩))
  all_goals
    go_wp2
    go_ret
    refine ⟨v', rfl, ho, ?_⟩
    exact ((((Below.refl _ w).alloc (Nat.le_refl _) _).alloc (by simp) _).drew).grown hg (by simp; omega) (fun k hk => by cases hk; simp)

theorem hex_any (v : Nat) (w : World) (hv : v < 256) :
    Calls Tryd.prog 57 #[.int .i64 v] w fun e w' => ∃ v', e = .returned v' ∧ w'.ownsRow w.heap.size 5 1 v' (hexL v).length (cv (hexL v)) ∧ Below w.heap.size w w' := by
  by_cases h : v < 16
  · have e : hexL v = [dg v] := by unfold hexL; rw [if_pos h]
    rw [e]
    refine (hex_one v w h).mono ?_
    rintro e w' ⟨rfl, rfl⟩
    exact ⟨_, rfl, World.ownsRow_lit w #[.int .u8 (dg v : Nat)] 1 (Nat.le_refl _) (by unfold maxLen; omega) rfl, (Below.refl _ w).alloc (Nat.le_refl _) _⟩
  · have e : hexL v = [dg (v / 16), dg (v % 16)] := by unfold hexL; rw [if_neg h]
    rw [e]
    exact hex_two' v (v / 16) (v % 16) w (decide_eq_false (by omega)) (by rw [wrap_small _ (by omega) (by omega)]; omega) (by rfl) (by omega) (by omega)
end Go.Proofs.YtaapababeecmeaaDoor
