/-
  The walk of eqIntSS, where both read as the same.
  The walk of szIntSS.
  Lists of lists: what is walked of them.
  The walks of toByteS and eqByteS.
-/
import Derived.Test.YteicpjbeihabnaaDoorJRunFleetIIS0
import Derived.Test.YteicpjbeihabnaaDoorJRunFleetIN2
import Derived.BigQuiet
import Derived.Deep.QuietTactic
import Derived.Deep.RegionWith
import Derived.Test.YteicpjbeihabnaaDoorJRunFleetB0
namespace Go.Proofs.YteicpjbeihabnaaDoor
open Go.RowKit

set_option maxHeartbeats 2000000 in
set_option maxRecDepth 1000000 in
theorem eqIIS_same {w : World} {v1 v2 : Value} {L : List (List Int)} (hs : IISB L) (h1 : IIS w v1 L) (h2 : IIS w v2 L) :
    Calls Tryd.prog 48 #[v1, v2] w fun e w' => e = .returned (.bool true) ∧ Below w.heap.size w w' := by
  obtain ⟨a1, b1, o1, c1, rfl, ha1, hc1⟩ := h1
  obtain ⟨a2, b2, o2, c2, rfl, ha2, hc2⟩ := h2
  obtain ⟨hs, hz⟩ := hs
  have HC1 := hide hc1
  have HC2 := hide hc2
  have HZ := hide hz
  clear hc1 hc2 hz
  have hne : ((L.length : Int) != (L.length : Int)) = false := by simp
  have hmx : Tryd.prog.follows .mixedOrders = true := by kernel_rfl
  go_enter Tryd.func48, Tryd.ntmps48
  go_wp2
  go_loopw [5] (fun i wr => ∃ k : Nat, k ≤ L.length ∧ i = .int .i64 k ∧ Below w.heap.size w wr) (fun i _ => L.length - (intOf i).toNat)
  case atStart => exact ⟨0, Nat.zero_le _, rfl, Below.refl _ _⟩
  case round =>
    obtain ⟨k, hk, rfl, hb⟩ := hrel
    have HB := hide hb
    by_cases hlt : k < L.length
    · obtain rfl := ha1 (by omega)
      obtain rfl := ha2 (by omega)
      obtain ⟨x1, q1, p1⟩ := HC1.out k hlt
      obtain ⟨x2, q2, p2⟩ := HC2.out k hlt
      have g1 := cell_kept q1 hb
      have g2 := cell_kept q2 hb
      have hzk := HZ.out k hlt
      obtain ⟨s, hs'⟩ : ∃ s, L.getD k [] = s := ⟨_, rfl⟩
      rw [hs'] at p1 p2 hzk
      have b1' : IS wr.drew x1 s := p1.below hb.drew
      have b2' : IS wr.drew x2 s := p2.below hb.drew
      have HE := hide (eqI_same (w := wr.drew) hzk b1' b2')
      have hbs := hb.size
      have hlti : (k : Int) < (L.length : Int) := by omega
      clear hb q1 q2 p1 p2 hs' b1' b2'
      go_wp2_with fail
      go_region_with (go_at_call 20; refine HE.out.mono ?_; rintro e w1 ⟨rfl, hb1⟩)
      all_goals have HB1 : Hid (Below w.heap.size w w1) := HB.out.drew.trans (hb1.mono hbs)
      all_goals clear hb1
      all_goals go_wp2
      all_goals
        go_roundw
        case rel => exact ⟨k + 1, by omega, by go_num, HB1.out⟩
        case measure => simp [intOf]; omega
    · have hge : ¬ (k : Int) < (L.length : Int) := by omega
      clear hb
      go_wp2
      go_ret
      exact ⟨rfl, HB.out⟩
end Go.Proofs.YteicpjbeihabnaaDoor

namespace Go.Proofs.YteicpjbeihabnaaDoor
open Go.RowKit

set_option maxHeartbeats 2000000 in
set_option maxRecDepth 1000000 in
theorem szIIS_r {w : World} {v : Value} {L : List (List Int)} {left : Int} (h0 : 0 ≤ left) (hl : left ≤ 1048576) (hn : IISL L) (h : IIS w v L) :
    Calls Tryd.prog 39 #[v, .int .i64 left] w fun e w' => ∃ r, e = .returned (.int .i64 r) ∧ -1 ≤ r ∧ r ≤ left ∧ (0 ≤ r → IISB L) ∧ Below w.heap.size w w' := by
  obtain ⟨a, b, o, c, rfl, ha, hc⟩ := h
  obtain ⟨hn, hz⟩ := hn
  have e1 : IntKind.i64.wrap (left - (L.length : Int)) = left - L.length := by rw [IntKind.wrap_i64]; omega
  have HC := hide hc
  have HZ := hide hz
  clear hc hz
  by_cases c1 : left - (L.length : Int) < 0
  · have d1 : decide (left - (L.length : Int) < 0) = true := decide_eq_true c1
    go_enter Tryd.func39, Tryd.ntmps39
    go_wp2
    go_ret
    exact ⟨-1, rfl, by omega, by omega, fun h => by omega, Below.refl _ _⟩
  · have d1 : decide (left - (L.length : Int) < 0) = false := decide_eq_false c1
    go_enter Tryd.func39, Tryd.ntmps39
    go_wp2
    go_loopw [1, 5] (fun lf ix wr => ∃ (k : Nat) (l : Int), k ≤ L.length ∧ lf = .int .i64 l ∧ ix = .int .i64 k ∧ 0 ≤ l ∧ l ≤ left ∧ (∀ j, j < k → (L.getD j []).length ≤ 1048576) ∧ Below w.heap.size w wr) (fun _ ix _ => L.length - (intOf ix).toNat)
    case atStart => exact ⟨0, left - L.length, Nat.zero_le _, rfl, rfl, by omega, by omega, fun j hj => absurd hj (Nat.not_lt_zero _), Below.refl _ _⟩
    case round =>
      obtain ⟨k, l, hk, rfl, rfl, hl0, hl1, hsz, hbl⟩ := hrel
      have HBL := hide hbl
      have HSZ := hide hsz
      by_cases hlt : k < L.length
      · obtain rfl := ha (by omega)
        obtain ⟨x, hx, hxs⟩ := HC.out k hlt
        have hzk := HZ.out k hlt
        have g0 := cell_kept hx hbl
        obtain ⟨s, hs'⟩ : ∃ s, L.getD k [] = s := ⟨_, rfl⟩
        rw [hs'] at hxs hzk
        have HD := hide hs'
        have HT := hide (szI_l (w := wr) hl0 (by omega) hzk (hxs.below hbl))
        have hlti : (k : Int) < (L.length : Int) := by omega
        clear hsz hbl hs' hx hxs hzk
        go_wp2_with fail
        refine HT.out.mono ?_
        rintro e w2 ⟨r, rfl, hm, hr, ho, hb2⟩
        have HB2 : Hid (Below w.heap.size w w2) := HBL.out.trans (hb2.mono HBL.out.size)
        have HO := hide ho
        clear hb2 ho
        by_cases c2 : r < 0
        · have d2 : decide (r < 0) = true := decide_eq_true c2
          go_wp2
          go_ret
          exact ⟨-1, rfl, by omega, by omega, fun h => by omega, HB2.out⟩
        · have d2 : decide (r < 0) = false := decide_eq_false c2
          go_wp2
          go_roundw
          case rel => exact ⟨k + 1, r, by omega, rfl, by go_num, by omega, by omega, fun j hj => by
            by_cases e : j = k
            · rw [e, HD.out]; exact HO.out (by omega)
            · exact HSZ.out j (by omega), HB2.out⟩
          case measure => simp [intOf]; omega
      · have hge : ¬ (k : Int) < (L.length : Int) := by omega
        clear hsz hbl
        go_wp2
        go_ret
        exact ⟨l, rfl, by omega, by omega, fun _ => ⟨by omega, fun j hj => HSZ.out j (by omega)⟩, HBL.out⟩
end Go.Proofs.YteicpjbeihabnaaDoor



namespace Go.Proofs.YteicpjbeihabnaaDoor
open Go.RowKit

set_option maxHeartbeats 400000 in
theorem toB_any (a0 : Option Addr) (b off cap : Nat) (s : ByteArray) (w : World) (hs : s.size ≤ 1048576) (ha : 0 < s.size → a0 = some ⟨b, off, none⟩)
    (hc : ∀ j, j < s.size → w.cell? ⟨b, off + j, none⟩ = some (bts s j)) :
    Calls Tryd.prog 12 #[.slice a0 s.size cap] w fun e w' => e = .returned (.slice (some ⟨w.heap.size, 0, none⟩) s.size s.size) ∧ w'.rowIs w.heap.size 5 s.size (bts s) ∧ Below w.heap.size w w' ∧ w'.heap.size = w.heap.size + 1 := by
  have hmk := run_make_row' (P := Tryd.prog) 26 5 (.int .u8 0) 1 Tryd.underlying26 Tryd.info5 rfl .i64 .i64 s.size (by omega) (by omega)
  go_enter Tryd.func12, Tryd.ntmps12
  go_wp2
  clear hmk
  go_loopw [4] (fun i wr => ∃ k : Nat, k ≤ s.size ∧ i = .int .i64 k ∧ wr.rowIs w.heap.size 5 s.size (fun j => if j < k then bts s j else .int .u8 0) ∧ Below w.heap.size w wr ∧ wr.heap.size = w.heap.size + 1) (fun i _ => s.size - (intOf i).toNat)
  case atStart => exact ⟨0, Nat.zero_le _, rfl, (World.rowIs_made w _ s.size 5).congr (fun j _ => by simp), (Below.refl _ _).alloc (Nat.le_refl _) _, by simp⟩
  case round =>
    obtain ⟨k, hk, rfl, hrow, hbl, hsz⟩ := hrel
    by_cases hlt : k < s.size
    · obtain rfl := ha (by omega)
      have hb : b < w.heap.size := World.block_lt_of_cell? _ _ (hc k hlt)
      have hcb : bts s k = .int .u8 ((s.get! k).toNat : Int) := rfl
      have hbd : ((s.get! k).toNat : Int) < 256 := by have := (s.get! k).toNat_lt; omega
      have g0 : wr.cell? ⟨b, off + k, none⟩ = some (.int .u8 ((s.get! k).toNat : Int)) := by rw [hbl.cell (p := ⟨b, off + k, none⟩) hb]; exact hc k hlt
      have g1 : wr.cell? ⟨w.heap.size, k, none⟩ = some (.int .u8 0) := by rw [hrow.cell hlt]; simp
      have g2 : wr.frozen? ⟨w.heap.size, k, none⟩ = false := hrow.frozen k
      clear hcb
      go_wp2
      go_roundw
      case rel => exact ⟨k + 1, by omega, by go_num, (hrow.set k _).congr (fun j _ => by
          by_cases e : j = k
          · subst e; simp [bts]
          · rw [if_neg e]; by_cases hj : j < k
            · rw [if_pos hj, if_pos (by omega)]
            · rw [if_neg hj, if_neg (by omega)]), hbl.setCell (Nat.le_refl _) _, by simp [hsz]⟩
      case measure => simp [intOf]; omega
    · go_wp2
      go_ret
      exact ⟨rfl, hrow.congr (fun j hj => by rw [if_pos (by omega)]), hbl, hsz⟩

set_option maxHeartbeats 400000 in
theorem eqB_any (a1 a2 : Option Addr) (b1 o1 c1 b2 o2 c2 : Nat) (s t : ByteArray) (w : World) (hs : s.size ≤ 1048576) (_ht : t.size ≤ 1048576) (h1 : 0 < s.size → a1 = some ⟨b1, o1, none⟩) (h2 : 0 < t.size → a2 = some ⟨b2, o2, none⟩)
    (hc1 : ∀ j, j < s.size → w.cell? ⟨b1, o1 + j, none⟩ = some (bts s j)) (hc2 : ∀ j, j < t.size → w.cell? ⟨b2, o2 + j, none⟩ = some (bts t j)) :
    Calls Tryd.prog 15 #[.slice a1 s.size c1, .slice a2 t.size c2] w fun e w' => e = .returned (.bool (decide (s = t))) ∧ ∃ n, w' = w.drewN n := by
  by_cases hst : s.size = t.size
  · have hne : ((s.size : Int) != (t.size : Int)) = false := by rw [bne_eq_false_iff_eq]; omega
    have HST : Hid (s.size = t.size) := hst
    have hle : s.size ≤ t.size := by omega
    have hge : t.size ≤ s.size := by omega
    clear hst
    go_enter Tryd.func15, Tryd.ntmps15
    go_wp2
    go_loopw [5] (fun i wr => ∃ k n : Nat, k ≤ s.size ∧ i = .int .i64 k ∧ wr = w.drewN n ∧ ∀ j, j < k → s.get! j = t.get! j) (fun i _ => s.size - (intOf i).toNat)
    case atStart => exact ⟨0, 0, Nat.zero_le _, rfl, rfl, fun j hj => absurd hj (Nat.not_lt_zero _)⟩
    case round =>
      obtain ⟨k, n, hk, rfl, rfl, heq⟩ := hrel
      by_cases hlt : k < s.size
      · obtain rfl := h1 (by omega)
        obtain rfl := h2 (by omega)
        have HEQ : Hid (∀ j, j < k → s.get! j = t.get! j) := heq
        have g1 : w.cell? ⟨b1, o1 + k, none⟩ = some (.int .u8 ((s.get! k).toNat : Int)) := hc1 k hlt
        have g2 : w.cell? ⟨b2, o2 + k, none⟩ = some (.int .u8 ((t.get! k).toNat : Int)) := hc2 k (by omega)
        have hlt2 : k < t.size := by omega
        clear hc1 hc2 heq h1 h2
        by_cases hkk : s.get! k = t.get! k
        · have hbb : (((s.get! k).toNat : Int) != ((t.get! k).toNat : Int)) = false := by rw [hkk]; simp
          have HKK : Hid (s.get! k = t.get! k) := hkk
          clear hkk
          go_wp2
          go_region
          all_goals go_wp2
          all_goals
            go_roundw
            case rel => exact ⟨k + 1, _, by omega, by go_num, rfl, fun j hj => by
              by_cases e : j = k
              · rw [e]; exact HKK.out
              · exact HEQ.out j (by omega)⟩
            case measure => simp [intOf]; omega
        · have hbb : (((s.get! k).toNat : Int) != ((t.get! k).toNat : Int)) = true := by
            rw [bne_iff_ne]; intro e; exact hkk (UInt8.toNat_inj.1 (by omega))
          have HKK : Hid (¬ s.get! k = t.get! k) := hkk
          clear hkk
          go_wp2
          go_region
          all_goals go_wp2
          all_goals go_ret
          all_goals exact ⟨ret_bool (by symm; rw [decide_eq_false_iff_not]; intro e; exact HKK.out (by rw [e])), _, rfl⟩
      · go_wp2
        go_ret
        exact ⟨ret_bool (by symm; rw [decide_eq_true_iff]; exact ext_bytes HST.out (fun j hj => heq j (by omega))), n, rfl⟩
  · have hne : ((s.size : Int) != (t.size : Int)) = true := by rw [bne_iff_ne]; omega
    have HST : Hid (¬ s.size = t.size) := hst
    clear hst
    go_enter Tryd.func15, Tryd.ntmps15
    go_wp2
    go_ret
    exact ⟨ret_bool (by symm; rw [decide_eq_false_iff_not]; intro e; exact HST.out (by rw [e])), 0, rfl⟩

end Go.Proofs.YteicpjbeihabnaaDoor
