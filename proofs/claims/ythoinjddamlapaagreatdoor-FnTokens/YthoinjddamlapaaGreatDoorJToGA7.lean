/-
  spec.l9anySource: the branches of many texts.
  append of one value of one cell, of whatever type, onto a row of the call's own.
-/
import Derived.Test.YthoinjddamlapaaGreatDoorJToGFL
import Derived.Test.YthoinjddamlapaaGreatDoorJToGN0
import Derived.Test.YthoinjddamlapaaGreatDoorJToB0
import Derived.Maps.AppendAt
import Derived.Deep.RegionLaw
namespace Go.Proofs.YthoinjddamlapaaGreatDoor
open Go.RowKit

theorem rpt_size (s : ByteArray) : ∀ k o, (rpt s k o).size = o.size + k * s.size
  | 0, o => by simp [rpt]
  | k + 1, o => by rw [rpt, ByteArray.size_append, rpt_size s k o, Nat.add_mul]; omega
theorem prs_le : ∀ k, (prs k).size ≤ 14 + k * 11
  | 0 => Nat.le_refl _
  | k + 1 => by
    have h := prs_le k
    have d := decB_le (k + 1)
    have e : (⟨#[44, 32, 116, 101, 120, 116, 32, 97]⟩ : ByteArray).size = 8 := rfl
    rw [prs, ByteArray.size_append, ByteArray.size_append]
    omega
set_option maxHeartbeats 4000000 in
set_option maxRecDepth 1000000 in
theorem any_7 (w : World) (R : Nat) (a0 : Option Addr) (b off n cap : Nat) (cs : ByteArray) (i : Nat) (hn : n ≤ 600) (h : RdAt w R a0 b off n cap cs i) (hk : nx cs n i = 7) :
    Calls Tryz.prog 9 #[.pointer (some ⟨R, 0, none⟩)] w (AnQ R a0 b off n cap cs (gY cs n i) w) := by
  have HN := hide (next_rd hn h)
  have HX1 : Hid (∀ V, RdAt V R a0 b off n cap cs (i + 1) → Calls Tryz.prog 8 #[.pointer (some ⟨R, 0, none⟩)] V fun r w' => r = .returned (.int .i64 (nx cs n (i + 1) : Nat)) ∧ RdAt w' R a0 b off n cap cs (i + 2) ∧ Gw (· = R) V w') := fun V hV => next_rd hn hV
  have hv := nx_lt cs n (i + 1)
  obtain ⟨y, hy⟩ : ∃ x, nx cs n (i + 1) = x := ⟨_, rfl⟩
  obtain ⟨m, hm⟩ : ∃ m, y % 4 = m := ⟨_, rfl⟩
  have hG : gY cs n i = (lst (rpt (one7 ++ (⟨#[59]⟩ : ByteArray)) (33 + m) ⟨#[]⟩), i + 2) := by unfold gY gYk; rw [hk, hy, hm]; rfl
  rw [hy] at HX1 hv
  rw [hG]
  obtain ⟨x, hx0⟩ : ∃ x, nx cs n i = x := ⟨_, rfl⟩
  rw [hx0] at HN hk
  have hx0 := hk
  have t3 : ((x : Int) == 3) = false := by rw [hx0]; rfl
  have t4 : ((x : Int) == 4) = false := by rw [hx0]; rfl
  have t5 : ((x : Int) == 5) = false := by rw [hx0]; rfl
  have t6 : ((x : Int) == 6) = false := by rw [hx0]; rfl
  have t7 : ((x : Int) == 7) = true := by rw [hx0]; rfl
  have tm : (y : Int).tmod 4 = (m : Int) := by rw [← hm]; rfl
  have tb : IntKind.i64.wrap (33 + (m : Int)) = ((33 + m : Nat) : Int) := by rw [IntKind.wrap_i64]; omega
  obtain ⟨c, hc⟩ : ∃ c, 33 + m = c := ⟨_, rfl⟩
  have hcb : c ≤ 40 := by omega
  rw [hc] at tb ⊢
  obtain ⟨P, hP⟩ : ∃ P, (⟨#[108, 101, 116, 32, 97, 61, 49]⟩ : ByteArray) = P := ⟨_, rfl⟩
  have hPs : P.size = 7 := by rw [← hP]; rfl
  have HPE := hide hP
  have hE7 : one7.size = 121 := by unfold one7; rw [rpt_size]; rfl
  have HR7 : Hid (∀ j, (rpt (⟨#[43, 49]⟩ : ByteArray) j P).size = 7 + j * 2) := fun j => by rw [rpt_size, hPs]; rfl
  have H7E : Hid (rpt (⟨#[43, 49]⟩ : ByteArray) 57 P = one7) := by show _ = _; unfold one7; rw [hP]
  have hz0 : ({ data := #[59] } : ByteArray).size = 1 := rfl
  have HR8 : Hid (∀ j, (rpt (one7 ++ (⟨#[59]⟩ : ByteArray)) j ⟨#[]⟩).size = j * 122) := fun j => by rw [rpt_size, ByteArray.size_append, hE7, hz0]; show 0 + _ = _; rw [Nat.zero_add]
  have hcv := fun W' => Lib.run_convert_string_bytes (P := Tryz.prog) W' 9 22 5 (rpt (one7 ++ (⟨#[59]⟩ : ByteArray)) c ⟨#[]⟩) Tryz.underlying9 Tryz.underlying22 Tryz.underlying5
  clear h hk hy hm hG hc hx0
  go_enter Tryz.func9, Tryz.ntmps9
  go_wp2_with fail
  refine HN.out.mono ?_
  rintro r w1 ⟨rfl, hr1, hg1⟩
  have HW1 := hide hg1
  have HRR := hide hr1
  clear hr1 hg1 HN
  go_wp2_with fail
  go_loopw [5, 6] (fun os ix wr => ∃ j : Nat, j ≤ 57 ∧ ix = .int .i64 j ∧ os = .string (rpt (⟨#[43, 49]⟩ : ByteArray) j P) ∧ Below w1.heap.size w1 wr) (fun _ ix _ => 57 - (intOf ix).toNat)
  case atStart => exact ⟨0, Nat.zero_le _, rfl, by rw [← HPE.out]; rfl, Below.refl _ _⟩
  case round =>
    obtain ⟨j, hj, rfl, rfl, hbl⟩ := hrel
    rename World => V
    have HBL := hide hbl
    have HBD : Hid (∀ k, Below w1.heap.size w1 (V.drewN k)) := fun k => below_drewN hbl k
    by_cases hlt : j < 57
    · have hlti : (j : Int) < 57 := by omega
      have hs := HR7.out j
      have HSN : Hid (rpt (⟨#[43, 49]⟩ : ByteArray) (j + 1) P = rpt (⟨#[43, 49]⟩ : ByteArray) j P ++ (⟨#[43, 49]⟩ : ByteArray)) := rfl
      obtain ⟨o, ho⟩ : ∃ o, rpt (⟨#[43, 49]⟩ : ByteArray) j P = o := ⟨_, rfl⟩
      rw [ho] at hs HSN ⊢
      have s1 : ¬ 9223372036854775807 < o.size + 2 := by omega
      clear hbl ho
      go_wp2
      go_roundw
      case rel => exact ⟨j + 1, by omega, by go_num, by rw [HSN.out], by first | exact HBL.out | exact HBD.out _⟩
      case measure => simp [intOf]; omega
    · have hje : j = 57 := by omega
      subst hje
      rw [H7E.out]
      have HN2 := hide (HX1.out V (HRR.out.bel hbl))
      have HW2 := hide (HW1.out.bel hbl)
      clear hbl HBD
      go_wp2_with fail
      refine HN2.out.mono ?_
      rintro r w3 ⟨rfl, hr3, hg3⟩
      have HW3 := hide (HW2.out.then hg3)
      have HR3 := hide hr3
      clear hr3 hg3 HN2
      go_wp2_with fail
      go_loopw [7, 9] (fun os ix wr => ∃ j : Nat, j ≤ c ∧ ix = .int .i64 j ∧ os = .string (rpt (one7 ++ (⟨#[59]⟩ : ByteArray)) j ⟨#[]⟩) ∧ Below w3.heap.size w3 wr) (fun _ ix _ => c - (intOf ix).toNat)
      case atStart => exact ⟨0, Nat.zero_le _, rfl, rfl, Below.refl _ _⟩
      case round =>
        obtain ⟨j, hj, rfl, rfl, hbl⟩ := hrel
        rename World => V2
        have HBL2 := hide hbl
        have HBD2 : Hid (∀ k, Below w3.heap.size w3 (V2.drewN k)) := fun k => below_drewN hbl k
        by_cases hlt2 : j < c
        · have hlti2 : (j : Int) < (c : Int) := by omega
          have hs := HR8.out j
          have HSN : Hid (rpt (one7 ++ (⟨#[59]⟩ : ByteArray)) (j + 1) ⟨#[]⟩ = rpt (one7 ++ (⟨#[59]⟩ : ByteArray)) j ⟨#[]⟩ ++ (one7 ++ (⟨#[59]⟩ : ByteArray))) := rfl
          obtain ⟨o, ho⟩ : ∃ o, rpt (one7 ++ (⟨#[59]⟩ : ByteArray)) j ⟨#[]⟩ = o := ⟨_, rfl⟩
          rw [ho] at hs HSN ⊢
          have s0 : ¬ 9223372036854775807 < one7.size + 1 := by omega
          have s1 : ¬ 9223372036854775807 < o.size + (one7.size + 1) := by omega
          clear hbl ho
          go_wp2
          go_roundw
          case rel => exact ⟨j + 1, by omega, by go_num, by rw [HSN.out], by first | exact HBL2.out | exact HBD2.out _⟩
          case measure => simp [intOf]; omega
        · have hje : j = c := by omega
          subst hje
          have hs := HR8.out j
          have hni : ¬ (j : Int) < (j : Int) := by omega
          have HF := hide (sr_an (sr_done (o := rpt (one7 ++ (⟨#[59]⟩ : ByteArray)) j ⟨#[]⟩) (HW3.out.bel hbl) (HR3.out.bel hbl) (by omega)))
          obtain ⟨O, hO⟩ : ∃ o, rpt (one7 ++ (⟨#[59]⟩ : ByteArray)) j ⟨#[]⟩ = o := ⟨_, rfl⟩
          rw [hO] at HF hcv ⊢
          have HOO := hide hO
          clear hbl hs hO HBD2
          go_wp2
          go_ret
          rw [HOO.out]
          exact HF.out
set_option maxHeartbeats 4000000 in
set_option maxRecDepth 1000000 in
theorem any_8 (w : World) (R : Nat) (a0 : Option Addr) (b off n cap : Nat) (cs : ByteArray) (i : Nat) (hn : n ≤ 600) (h : RdAt w R a0 b off n cap cs i) (hk : nx cs n i = 8) :
    Calls Tryz.prog 9 #[.pointer (some ⟨R, 0, none⟩)] w (AnQ R a0 b off n cap cs (gY cs n i) w) := by
  have HN := hide (next_rd hn h)
  have HX1 : Hid (∀ V, RdAt V R a0 b off n cap cs (i + 1) → Calls Tryz.prog 8 #[.pointer (some ⟨R, 0, none⟩)] V fun r w' => r = .returned (.int .i64 (nx cs n (i + 1) : Nat)) ∧ RdAt w' R a0 b off n cap cs (i + 2) ∧ Gw (· = R) V w') := fun V hV => next_rd hn hV
  have hv := nx_lt cs n (i + 1)
  obtain ⟨y, hy⟩ : ∃ x, nx cs n (i + 1) = x := ⟨_, rfl⟩
  obtain ⟨m, hm⟩ : ∃ m, y % 3 = m := ⟨_, rfl⟩
  have hG : gY cs n i = (lst (prs (8 + m) ++ (⟨#[41, 32, 123, 32, 125]⟩ : ByteArray)), i + 2) := by unfold gY gYk; rw [hk, hy, hm]; rfl
  rw [hy] at HX1 hv
  rw [hG]
  obtain ⟨x, hx0⟩ : ∃ x, nx cs n i = x := ⟨_, rfl⟩
  rw [hx0] at HN hk
  have hx0 := hk
  have t3 : ((x : Int) == 3) = false := by rw [hx0]; rfl
  have t4 : ((x : Int) == 4) = false := by rw [hx0]; rfl
  have t5 : ((x : Int) == 5) = false := by rw [hx0]; rfl
  have t6 : ((x : Int) == 6) = false := by rw [hx0]; rfl
  have t7 : ((x : Int) == 7) = false := by rw [hx0]; rfl
  have t8 : ((x : Int) == 8) = true := by rw [hx0]; rfl
  have tm : (y : Int).tmod 3 = (m : Int) := by rw [← hm]; rfl
  have tb : IntKind.i64.wrap (9 + (m : Int)) = ((9 + m : Nat) : Int) := by rw [IntKind.wrap_i64]; omega
  obtain ⟨c, hc⟩ : ∃ c, 8 + m = c := ⟨_, rfl⟩
  obtain ⟨d, hd⟩ : ∃ d, 9 + m = d := ⟨_, rfl⟩
  have hcd : d = c + 1 := by omega
  have hcb : c ≤ 11 := by omega
  rw [hc]
  rw [hd] at tb
  have hcv := fun W' => Lib.run_convert_string_bytes (P := Tryz.prog) W' 9 22 5 (prs c ++ (⟨#[41, 32, 123, 32, 125]⟩ : ByteArray)) Tryz.underlying9 Tryz.underlying22 Tryz.underlying5
  clear h hk hy hm hG hc hx0 hd
  go_enter Tryz.func9, Tryz.ntmps9
  go_wp2_with fail
  refine HN.out.mono ?_
  rintro r w1 ⟨rfl, hr1, hg1⟩
  have HW1 := hide hg1
  have HN2 := hide (HX1.out w1 hr1)
  clear hr1 hg1 HN
  go_wp2_with fail
  refine HN2.out.mono ?_
  rintro r w3 ⟨rfl, hr3, hg3⟩
  have HW3 := hide (HW1.out.then hg3)
  have HR3 := hide hr3
  clear hr3 hg3 HN2
  go_wp2_with fail
  go_loopw [10, 12] (fun os ix wr => ∃ j : Nat, j ≤ c ∧ ix = .int .i64 ((j + 1 : Nat) : Int) ∧ os = .string (prs j) ∧ Below w3.heap.size w3 wr) (fun _ ix _ => d - (intOf ix).toNat)
  case atStart => exact ⟨0, Nat.zero_le _, rfl, rfl, Below.refl _ _⟩
  case round =>
    obtain ⟨j, hj, rfl, rfl, hbl⟩ := hrel
    rename World => V
    have HBL := hide hbl
    have hs := prs_le j
    by_cases hlt : j < c
    · obtain ⟨j1, hj1⟩ : ∃ q, j + 1 = q := ⟨_, rfl⟩
      have hlti : (j1 : Int) < (d : Int) := by omega
      have HD := hide (fun W => l2dG_any j1 W (by omega))
      have ld := decB_le j1
      have HSN : Hid (prs (j + 1) = prs j ++ ((⟨#[44, 32, 116, 101, 120, 116, 32, 97]⟩ : ByteArray) ++ decB (j + 1))) := rfl
      rw [hj1] at HSN ⊢
      obtain ⟨D, hD⟩ : ∃ q, decB j1 = q := ⟨_, rfl⟩
      rw [hD] at HD ld HSN
      obtain ⟨o, ho⟩ : ∃ o, prs j = o := ⟨_, rfl⟩
      rw [ho] at hs HSN ⊢
      have s0 : ¬ 9223372036854775807 < 8 + D.size := by omega
      have s1 : ¬ 9223372036854775807 < o.size + (8 + D.size) := by omega
      have u1 : IntKind.i64.wrap ((j1 : Int) + 1) = ((j1 + 1 : Nat) : Int) := by rw [IntKind.wrap_i64]; omega
      have HJ1 := hide hj1
      clear hbl ho hD hj1
      go_wp2_with fail
      refine (HD.out _).mono ?_
      rintro r w4 ⟨rfl, hb4⟩
      have HB4 : Hid (Below w3.heap.size w3 w4) := HBL.out.trans (hb4.mono HBL.out.size)
      have HBD : Hid (∀ k, Below w3.heap.size w3 (w4.drewN k)) := fun k => below_drewN HB4.out k
      clear hb4
      go_wp2
      go_roundw
      case rel => exact ⟨j1, by have := HJ1.out; omega, by first | go_num | rfl, by rw [HSN.out], by first | exact HB4.out | exact HBD.out _⟩
      case measure => simp [intOf]; omega
    · have hje : j = c := by omega
      subst hje
      have hni : ¬ ((j : Int) + 1) < (d : Int) := by omega
      have e5 : (⟨#[41, 32, 123, 32, 125]⟩ : ByteArray).size = 5 := rfl
      have HF := hide (sr_an (sr_done (o := prs j ++ (⟨#[41, 32, 123, 32, 125]⟩ : ByteArray)) (HW3.out.bel hbl) (HR3.out.bel hbl) (by rw [ByteArray.size_append]; omega)))
      obtain ⟨o, ho⟩ : ∃ o, prs j = o := ⟨_, rfl⟩
      rw [ho] at HF hs hcv ⊢
      have HOO := hide ho
      have s1 : ¬ 9223372036854775807 < o.size + 5 := by omega
      clear hbl ho
      go_wp2
      go_ret
      rw [HOO.out]
      have hf := HF.out
      rw [ByteArray.size_append] at hf
      exact hf
end Go.Proofs.YthoinjddamlapaaGreatDoor

namespace Go.Proofs.YthoinjddamlapaaGreatDoor
open Go.RowKit

theorem info_partsV {P : Program} {t : TypeId} {z : Value} {a b : Nat} (h : (P.info? t).map (fun i => (i.zero, i.size, i.bytes)) = some (some z, a, b)) : ∃ i, P.info? t = some i ∧ i.zero = some z ∧ i.size = a ∧ i.bytes = b := by
  cases hi : P.info? t with
  | none => rw [hi] at h; cases h
  | some i => rw [hi] at h; simp at h; exact ⟨i, rfl, h.1, h.2.1, h.2.2⟩
theorem one_news {w : World} {g : Nat} {u : Value} (h : w.cell? ⟨g, 0, none⟩ = some u) : ∀ j x, ([u] : List Value)[j]? = some x → w.cell? ((⟨g, 0, none⟩ : Addr).add j) = some x
  | 0, x, hx => by
    have e : (⟨g, 0, none⟩ : Addr).add 0 = ⟨g, 0, none⟩ := by unfold Addr.add; split <;> simp_all
    rw [e, h]
    exact hx
  | _ + 1, _, hx => by cases hx
/-- The law. -/
theorem wp_app1V {P : Program} {ops : Array Oper} {rest : List Oper} {o : Oper} {a : Act} {Q : Exit → Act → World → Prop} {w : World} (hgd : o.guard = none) (s x : Operand) (t e : TypeId)
    (ho : o.op = .call { callee := .builtin .append, args := #[s, x], argTypes := #[t, t] }) (z : Value) (bytes : Nat) (ht : P.underlying t = some (.slice e)) (hinfo : (P.info? e).map (fun i => (i.zero, i.size, i.bytes)) = some (some z, 1, bytes)) (hzc : z.cells.size = 1) (hby : bytes ≤ 1000)
    (B : Nat) (v : Value) (n : Nat) (xs : List Value) (hs : a.eval s = v) (hown : w.ownsRow B e 1 v n xs)
    (g c : Nat) (u : Value) (hx : a.eval x = .slice (some ⟨g, 0, none⟩) 1 c) (hnew : w.cell? ⟨g, 0, none⟩ = some u) (hone : u.oneCell' = true) (hlen : n ≤ 10000000) (hbase : B ≤ w.heap.size)
    (h : ∀ v' w', w'.ownsRow B e 1 v' (n + 1) (xs ++ [u]) → w.grownBy w' v.ownBlock → (v'.ownBlock = v.ownBlock ∨ v'.ownBlock = some w.heap.size) → wpList P ops Q rest (a.put o.dst v') w') : wpList P ops Q (o :: rest) a w := by
  obtain ⟨i0, hi, hz0, hz1, hz2⟩ := info_partsV hinfo
  refine wpList_append_own_at _ hgd s x t ho B e i0 z 1 bytes ht hi hz0 hz1 hz2 hzc (by decide) v n xs hs hown ⟨g, 0, none⟩ 1 c [u] hx rfl (one_news hnew) (fun y hy => by rw [List.mem_singleton.1 hy]; exact hone) (by unfold maxLen; omega) ?_ hbase (fun v' w' h1 h2 _ h4 => h v' w' h1 h2 h4)
  have : (n + 1) * bytes ≤ 10000001 * 1000 := Nat.mul_le_mul (by omega) hby
  omega
/-- .. as a step of a region that draws. -/
theorem step_app1V {P : Program} {ops : Array Oper} {o : Oper} {a : Act} {w : World} {K : Act → World → Prop} {Q : Exit → Act → World → Prop} {E : Prop} (hgd : o.guard = none) (s x : Operand) (t e : TypeId)
    (ho : o.op = .call { callee := .builtin .append, args := #[s, x], argTypes := #[t, t] }) (z : Value) (bytes : Nat) (ht : P.underlying t = some (.slice e)) (hinfo : (P.info? e).map (fun i => (i.zero, i.size, i.bytes)) = some (some z, 1, bytes)) (hzc : z.cells.size = 1) (hby : bytes ≤ 1000)
    (B : Nat) (v : Value) (n : Nat) (xs : List Value) (hs : a.eval s = v) (hown : w.ownsRow B e 1 v n xs)
    (g c : Nat) (u : Value) (hx : a.eval x = .slice (some ⟨g, 0, none⟩) 1 c) (hnew : w.cell? ⟨g, 0, none⟩ = some u) (hone : u.oneCell' = true) (hlen : n ≤ 10000000) (hbase : B ≤ w.heap.size)
    (h : ∀ v' w', w'.ownsRow B e 1 v' (n + 1) (xs ++ [u]) → w.grownBy w' v.ownBlock → (v'.ownBlock = v.ownBlock ∨ v'.ownBlock = some w.heap.size) → K (a.put o.dst v') w') :
    if Region.wanted o (yielded ops a.tmps) = true then Oper.wp P o a w K Q else E := by
  have hw : Region.wanted o (yielded ops a.tmps) = true := by simp [Region.wanted, hgd]
  rw [if_pos hw]
  obtain ⟨i0, hi, hz0, hz1, hz2⟩ := info_partsV hinfo
  have hb2 : (n + 1) * bytes ≤ 140737488355328 := by
    have : (n + 1) * bytes ≤ 10000001 * 1000 := Nat.mul_le_mul (by omega) hby
    omega
  obtain ⟨v', w', hr, h1, h2, _, h4⟩ := run_append_own_at (P := P) w B t o.type e i0 z 1 bytes ht hi hz0 hz1 hz2 hzc (by decide) v n xs hown ⟨g, 0, none⟩ 1 c [u] rfl (one_news hnew) (fun y hy => by rw [List.mem_singleton.1 hy]; exact hone) (by unfold maxLen; omega) hb2 hbase
  unfold Oper.wp execOp
  simp only [ho, resolve, invoke, builtin, Sem.run_bind, Sem.run_pure, Result.andThen_ok, List.map_toArray, List.map_cons, List.map_nil, hs, hx, hr]
  exact h v' w' h1 h2 h4
/-- Such a row written out. -/
theorem own_slcV {w : World} {B e n : Nat} {v : Value} {xs : List Value} (h : w.ownsRow B e 1 v n xs) : ∃ a c, v = .slice a n c := by
  rcases h.2 with ⟨h1, h0⟩ | ⟨g, c, cur, hv, _⟩
  · exact ⟨none, 0, by rw [h1, h0]⟩
  · exact ⟨_, c, hv⟩
end Go.Proofs.YthoinjddamlapaaGreatDoor
