/-
  The walk of spec.DrawPackHops.
-/
import Derived.Test.YtonhehndoifipaaJFHopsDR0
import Derived.Test.YtonhehndoifipaaJFHopsAI
namespace Go.Proofs.Ytonhehndoifipaa
open Go.RowKit

/-- The first m hops that are drawn. -/
def dh1 (cs : ByteArray) (n : Nat) : Nat → List Int
  | 0 => []
  | m + 1 => dh1 cs n m ++ [((nx cs n (2 + m) % 5 : Nat) : Int) - 1]
theorem dh1_len (cs : ByteArray) (n : Nat) : ∀ m, (dh1 cs n m).length = m
  | 0 => rfl
  | m + 1 => by show (dh1 cs n m ++ _).length = _; rw [List.length_append, dh1_len]; rfl
/-- The hops that are drawn. -/
def dhN (cs : ByteArray) (n : Nat) : List Int := (dh1 cs n (nx cs n 1 % 40) ++ (if nx cs n 0 % 16 = 0 then [4] else [])) ++ (if nx cs n 0 % 16 = 1 then [-2] else [])
def dh (cs : ByteArray) : List Int := dhN cs (min cs.size 600)
theorem dhN_len (cs : ByteArray) (n : Nat) : (dhN cs n).length ≤ 41 := by
  unfold dhN
  rw [List.length_append, List.length_append, dh1_len]
  split <;> split <;> simp only [List.length_cons, List.length_nil] <;> omega
theorem own_ne_i {w : World} {B R n : Nat} {v : Value} {xs : List Value} (h : w.ownsRow B 3 1 v n xs) (hR : R < B) : v.ownBlock = none ∨ v.ownBlock ≠ some R := by
  cases e : v.ownBlock with
  | none => exact .inl rfl
  | some k => exact .inr (fun g => by cases g; have := (h.lt R e).1; omega)

set_option maxHeartbeats 2000000 in
set_option maxRecDepth 1000000 in
theorem drawPack_any (w : World) (a0 : Option Addr) (b off cap : Nat) (cs : ByteArray) (hs : cs.size ≤ 1048576) (hcap : cs.size ≤ cap) (ha : 0 < cs.size → a0 = some ⟨b, off, none⟩) (hc : ∀ j, j < cs.size → w.cell? ⟨b, off + j, none⟩ = some (bts cs j)) :
    Calls Try.prog 25 #[.slice a0 cs.size cap] w fun e w' => ∃ v, e = .returned v ∧ w'.ownsRow (w.heap.size + 1) 3 1 v (dh cs).length (ci (dh cs)) ∧ Below w.heap.size w w' := by
  have HOP := hide (open_any w a0 b off cap cs hs hcap ha hc)
  have HBC : Hid (0 < cs.size → b < w.heap.size) := fun h => World.block_lt_of_cell? _ _ (hc 0 h)
  clear ha hc
  go_enter Try.func25, Try.ntmps25
  go_wp2_with fail
  refine HOP.out.mono ?_
  rintro e w1 ⟨n, hn, rfl, hr1, hb1⟩
  have HDH : Hid (dh cs = dhN cs n) := by show _ = _; unfold dh; rw [hn]
  have hn6 : n ≤ 600 := by omega
  have HN1 := hide (next_any w1 w.heap.size a0 b off n cap cs 0 hn6 hr1)
  have HB1 := hide hb1
  have HBW : Hid (0 < n → b < w.heap.size) := fun h => HBC.out (by have := hr1.le; omega)
  obtain ⟨R, hR⟩ : ∃ R, w.heap.size = R := ⟨_, rfl⟩
  have hRw : w.heap.size ≤ R := by omega
  rw [hR] at HN1 ⊢
  have HRR := hide hR
  clear hn hr1 hb1 hR HOP
  go_wp2_with fail
  refine HN1.out.mono ?_
  rintro e w2 ⟨rfl, hg2, hr2⟩
  have HB2 : Hid (Below w.heap.size w w2) := HB1.out.grown hg2 HB1.out.size (fun k hk => by cases hk; exact hRw)
  have HN2 := hide (next_any w2 R a0 b off n cap cs (0 + 1) hn6 hr2)
  have hk := nx_lt cs n 0
  have hm := nx_lt cs n 1
  have HDN : Hid (dhN cs n = (dh1 cs n (nx cs n 1 % 40) ++ (if nx cs n 0 % 16 = 0 then [4] else [])) ++ (if nx cs n 0 % 16 = 1 then [-2] else [])) := rfl
  obtain ⟨k, hk'⟩ : ∃ k, nx cs n 0 = k := ⟨_, rfl⟩
  obtain ⟨m, hm'⟩ : ∃ m, nx cs n 1 = m := ⟨_, rfl⟩
  rw [hk'] at hk HDN ⊢
  rw [hm'] at hm HDN
  simp only [Nat.zero_add, hm'] at HN2
  clear hg2 hr2 hk' hm' HN1 HB1
  go_wp2_with fail
  refine HN2.out.mono ?_
  rintro e w3 ⟨rfl, hg3, hr3⟩
  have HB3 : Hid (Below w.heap.size w w3) := HB2.out.grown hg3 HB2.out.size (fun k hk => by cases hk; exact hRw)
  have HR3 := hide hr3
  obtain ⟨N, hN⟩ : ∃ N, m % 40 = N := ⟨_, rfl⟩
  have hN4 : N < 40 := by omega
  have hmod : (m : Int).tmod 40 = (N : Nat) := by rw [← hN]; exact Int.ofNat_tmod m 40 |>.symm
  obtain ⟨K, hK⟩ : ∃ K, k % 16 = K := ⟨_, rfl⟩
  have hK16 : K < 16 := by omega
  have hmodk : (k : Int).tmod 16 = (K : Nat) := by rw [← hK]; exact Int.ofNat_tmod k 16 |>.symm
  rw [hN, hK] at HDN
  clear hg3 hr3 hN hK hm HN2 HB2
  go_wp2
  go_loopw [6, 7] (fun ox ix wr => ∃ i : Nat, i ≤ N ∧ ix = .int .i64 i ∧ wr.ownsRow (R + 1) 3 1 ox (dh1 cs n i).length (ci (dh1 cs n i)) ∧ RdAt wr R a0 b off n cap cs (2 + i) ∧ Below w.heap.size w wr) (fun _ ix _ => N - (intOf ix).toNat)
  case atStart => exact ⟨0, Nat.zero_le _, rfl, World.ownsRow_nil _ _ _ _, HR3.out, HB3.out⟩
  case round =>
    clear HR3 HB3
    obtain ⟨i, hi, rfl, hown, hrd, hbl⟩ := hrel
    rename World => w4
    have HO4 := hide hown
    have HR4 := hide hrd
    have HB4 := hide hbl
    have hR4 := hrd.lt
    have HLX : Hid ((dh1 cs n i).length = i) := dh1_len cs n i
    have HDS : Hid (dh1 cs n (i + 1) = dh1 cs n i ++ [((nx cs n (2 + i) % 5 : Nat) : Int) - 1]) := rfl
    obtain ⟨X, hX⟩ : ∃ X, dh1 cs n i = X := ⟨_, rfl⟩
    rw [hX] at HO4 HLX HDS
    have HXX := hide hX
    clear hown hbl hX
    by_cases hlt : i < N
    · have hlti : (i : Int) < (N : Int) := by omega
      have HN4 := hide (next_any w4 R a0 b off n cap cs (2 + i) hn6 hrd)
      have hv := nx_lt cs n (2 + i)
      obtain ⟨v, hv'⟩ : ∃ v, nx cs n (2 + i) = v := ⟨_, rfl⟩
      rw [hv'] at HN4 hv HDS
      obtain ⟨z, hz⟩ : ∃ z, v % 5 = z := ⟨_, rfl⟩
      have hz5 : z < 5 := by omega
      have hmd : (v : Int).tmod 5 = (z : Nat) := by rw [← hz]; exact Int.ofNat_tmod v 5 |>.symm
      rw [hz] at HDS
      clear hv' hz hrd
      go_wp2_with fail
      refine HN4.out.mono ?_
      rintro e w5 ⟨rfl, hg5, hr5⟩
      have HB5 : Hid (Below w.heap.size w w5) := HB4.out.grown hg5 HB4.out.size (fun k hk => by cases hk; exact hRw)
      have HO5 := hide (HO4.out.kept hg5 (own_ne_i HO4.out (Nat.lt_succ_self R)))
      have HR5 := hide hr5
      have hR5 : R < w5.heap.size := hr5.lt
      have hw5 : w.heap.size ≤ w5.heap.size := HB5.out.size
      clear hg5 hr5 HN4
      go_wp2_with (at_builtin; refine wp_app_i rfl _ _ rfl (R + 1) _ X rfl (HO5.out.alloc _) w5.heap.size 1 [(z : Int) - 1] rfl (fun j hj => by match j, hj with | 0, _ => exact (Blk.new _ _ _).cell 0) (by simp only [List.length_cons, List.length_nil]; have := HLX.out; omega) (by rw [World.size_alloc]; omega) ?_)
      intro v6 w6 l6 hl ho hg
      have hrow : ∀ r, Value.ownBlock _ = some r → R + 1 ≤ r := fun r e => (HO5.out.lt r e).1
      have HB6 : Hid (Below w.heap.size w w6) := (HB5.out.alloc hw5 _).grown hg (by rw [World.size_alloc]; omega) (fun k hk => by have := hrow k hk; omega)
      have HR6 : Hid (RdAt w6 R a0 b off n cap cs (2 + (i + 1))) := (HR5.out.kept (World.grownBy_alloc w5 _ none) (by simp) (fun _ => by simp)).kept hg (fun e => by have := hrow R e.symm; omega) (fun hp e => by have h1 := hrow b e.symm; have h2 := HBW.out hp; omega)
      have HO6 := hide ho
      have HZ6 : Hid (l6 = dh1 cs n (i + 1)) := by show _ = _; rw [hl.out, HDS.out]
      rw [HZ6.out] at HO6
      clear hl ho hg hrow
      go_wp2
      go_roundw
      case rel => exact ⟨i + 1, by omega, by go_num, HO6.out, HR6.out, HB6.out⟩
      case measure => simp [intOf]; omega
    · have hge : ¬ (i : Int) < (N : Int) := by omega
      obtain rfl : i = N := by omega
      have hw4 : w.heap.size ≤ w4.heap.size := HB4.out.size
      clear hrd HR4
      by_cases q0 : K = 0
      · have s0 : ((K : Int) == 0) = true := by rw [beq_iff_eq]; omega
        have s1 : ((K : Int) == 1) = false := by rw [beq_eq_false_iff_ne]; omega
        have HE : Hid (dh cs = X ++ [4]) := by
          show _ = _
          rw [HDH.out, HDN.out, HXX.out, if_pos q0, if_neg (by omega), List.append_nil]
        clear q0
        go_wp2_with (at_builtin; refine wp_app_i rfl _ _ rfl (R + 1) _ X rfl (HO4.out.alloc _) w4.heap.size 1 [4] rfl (fun j hj => by match j, hj with | 0, _ => exact (Blk.new _ _ _).cell 0) (by simp only [List.length_cons, List.length_nil]; have := HLX.out; omega) (by rw [World.size_alloc]; omega) ?_)
        intro v6 w6 l6 hl ho hg
        have HB6 : Hid (Below w.heap.size w w6) := (HB4.out.alloc hw4 _).grown hg (by rw [World.size_alloc]; omega) (fun k hk => by have := (HO4.out.lt k hk).1; omega)
        have HZ6 : Hid (l6 = dh cs) := by show _ = _; rw [hl.out, HE.out]
        rw [HZ6.out] at ho
        have HO6 := hide ho
        clear hl ho hg
        go_wp2
        go_ret
        exact ⟨_, rfl, by rw [HRR.out]; exact HO6.out, HB6.out⟩
      · have s0 : ((K : Int) == 0) = false := by rw [beq_eq_false_iff_ne]; omega
        by_cases q1 : K = 1
        · have s1 : ((K : Int) == 1) = true := by rw [beq_iff_eq]; omega
          have HE : Hid (dh cs = X ++ [-2]) := by
            show _ = _
            rw [HDH.out, HDN.out, HXX.out, if_neg q0, if_pos q1, List.append_nil]
          clear q0 q1
          go_wp2_with (at_builtin; refine wp_app_i rfl _ _ rfl (R + 1) _ X rfl (HO4.out.alloc _) w4.heap.size 1 [-2] rfl (fun j hj => by match j, hj with | 0, _ => exact (Blk.new _ _ _).cell 0) (by simp only [List.length_cons, List.length_nil]; have := HLX.out; omega) (by rw [World.size_alloc]; omega) ?_)
          intro v6 w6 l6 hl ho hg
          have HB6 : Hid (Below w.heap.size w w6) := (HB4.out.alloc hw4 _).grown hg (by rw [World.size_alloc]; omega) (fun k hk => by have := (HO4.out.lt k hk).1; omega)
          have HZ6 : Hid (l6 = dh cs) := by show _ = _; rw [hl.out, HE.out]
          rw [HZ6.out] at ho
          have HO6 := hide ho
          clear hl ho hg
          go_wp2
          go_ret
          exact ⟨_, rfl, by rw [HRR.out]; exact HO6.out, HB6.out⟩
        · have s1 : ((K : Int) == 1) = false := by rw [beq_eq_false_iff_ne]; omega
          have HE : Hid (dh cs = X) := by
            show _ = _
            rw [HDH.out, HDN.out, HXX.out, if_neg q0, if_neg q1, List.append_nil, List.append_nil]
          clear q0 q1
          go_wp2
          go_ret
          exact ⟨_, rfl, by rw [HE.out, HRR.out]; exact HO4.out, HB4.out⟩
end Go.Proofs.Ytonhehndoifipaa
