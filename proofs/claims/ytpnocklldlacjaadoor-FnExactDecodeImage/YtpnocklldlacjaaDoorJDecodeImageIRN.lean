/-
  The walk of impl's reader: number.
  The walk of bytes.Clone, at any slice.
-/
import Derived.Test.YtpnocklldlacjaaDoorJDecodeImageSDJ
import Derived.Test.YtpnocklldlacjaaDoorJDecodeImageTK
import Derived.Test.YtpnocklldlacjaaDoorJDecodeImageIMD
import Derived.Laws.AppendOwn
namespace Go.Proofs.YtpnocklldlacjaaDoor
open Go.RowKit

/-- The number that k bytes make, the lowest first. -/
def nw (f : Nat → Nat) : Nat → Nat
  | 0 => 0
  | k + 1 => nw f k + f k * 256 ^ k
theorem nw_shift (f : Nat → Nat) : ∀ k, nw f (k + 1) = f 0 + 256 * nw (fun j => f (j + 1)) k
  | 0 => by show 0 + f 0 * 256 ^ 0 = f 0 + 256 * 0; simp
  | k + 1 => by
    show nw f (k + 1) + f (k + 1) * 256 ^ (k + 1) = f 0 + 256 * (nw (fun j => f (j + 1)) k + f (k + 1) * 256 ^ k)
    rw [nw_shift f k, Nat.pow_succ, Nat.mul_add, ← Nat.mul_assoc (f (k + 1)) (256 ^ k) 256, Nat.mul_comm (f (k + 1) * 256 ^ k) 256]
    omega
theorem nw_lt {f : Nat → Nat} (hf : ∀ j, f j < 256) : ∀ k, nw f k < 256 ^ k
  | 0 => by unfold nw; decide
  | k + 1 => by
    have h1 := nw_lt hf k
    have h2 : f k * 256 ^ k ≤ 255 * 256 ^ k := Nat.mul_le_mul_right _ (by have := hf k; omega)
    unfold nw
    rw [Nat.pow_succ]
    omega
theorem nw_congr {f g : Nat → Nat} : ∀ k, (∀ j, j < k → f j = g j) → nw f k = nw g k
  | 0, _ => rfl
  | k + 1, h => by
    unfold nw
    rw [nw_congr k (fun j hj => h j (by omega)), h k (by omega)]
theorem nw_nv (f : Nat → Nat) : ∀ n p, nw (fun j => f (p + j)) n = nv f p n
  | 0, _ => rfl
  | n + 1, p => by
    rw [nw_shift, show (fun j => f (p + (j + 1))) = fun j => f (p + 1 + j) from funext fun j => by congr 1; omega, nw_nv f n (p + 1)]
    rfl
theorem rb_st (f : Nat → Nat) (N : Nat) (st : Nat × Bool) (n : Nat) : (rb f N st n).2 = (rn f N st n).2 := by
  unfold rb rn
  split <;> rfl
theorem rb_nw {s : ByteArray} {st : Nat × Bool} {n : Nat} : nw (fb (rb (fb s) s.size st n).1) (rb (fb s) s.size st n).1.size = (rn (fb s) s.size st n).1 := by
  unfold rb rn
  split
  · rfl
  · have hlo : Lo ((List.range n).map fun j => fb s (st.1 + j)) := fun x hx => by
      obtain ⟨j, _, rfl⟩ := List.mem_map.1 hx
      exact fb_lt s _
    have hlen : ((List.range n).map fun j => fb s (st.1 + j)).length = n := by simp
    show nw (fb (byt _)) (byt _).size = nv (fb s) st.1 n
    rw [byt_size, hlen, ← nw_nv]
    refine nw_congr n fun j hj => ?_
    have h := lies_byt hlo j (by rw [hlen]; exact hj)
    rw [Nat.zero_add] at h
    show ((byt _).get! j).toNat = _
    refine h.trans ?_
    rw [List.getD_eq_getElem?_getD, List.getElem?_map, List.getElem?_range hj]
    rfl
theorem or_shl {k v y : Nat} (hk : k < 4) (hv : v < 256 ^ k) (hy : y < 256) : bits .or .i64 (v : Int) (wrap64 ((y : Int) * 2 ^ (8 * k))) = ((v + y * 256 ^ k : Nat) : Int) := by
  have e : (256 : Nat) ^ k = 2 ^ (8 * k) := by rw [show (256 : Nat) = 2 ^ 8 by decide, ← Nat.pow_mul]
  have h3 : ((2 ^ (8 * k) : Nat) : Int) = 2 ^ (8 * k) := by push_cast; rfl
  have hp : 2 ^ (8 * k) ≤ 2 ^ 24 := Nat.pow_le_pow_right (by decide) (by omega)
  have hm : y * 2 ^ (8 * k) ≤ 255 * 2 ^ (8 * k) := Nat.mul_le_mul_right _ (by omega)
  rw [e] at hv ⊢
  have ho := or_above (8 * k) v y hv
  rw [← h3, ← Int.natCast_mul]
  obtain ⟨q, hq⟩ : ∃ q, 2 ^ (8 * k) = q := ⟨_, rfl⟩
  obtain ⟨p, hp2⟩ : ∃ p, y * q = p := ⟨_, rfl⟩
  rw [hq] at hp hm hv ho ⊢
  rw [hp2] at hm ho ⊢
  rw [show wrap64 (p : Int) = (p : Int) by unfold wrap64; omega, i64_or_nat _ _ (by omega) (by omega), ho]

set_option maxHeartbeats 4000000 in
set_option maxRecDepth 1000000 in
theorem number_any {w : World} {g b o c : Nat} {a : Addr} {s : ByteArray} {st : Nat × Bool} {n : Nat} (hn : n ≤ 4) (hgb : 0 < s.size → g ≠ b) (hge : g ≠ 0) (ht : Ty w b o c s) (hE : ErC w a) (h : RiS w g b o c a s st) :
    Calls Tryd.prog 69 #[.pointer (some ⟨g, 0, none⟩), .int .i64 n] w fun e w' => e = .returned (.int .i64 ((rn (fb s) s.size st n).1 : Nat)) ∧ RiS w' g b o c a s (rn (fb s) s.size st n).2 ∧ Wrs [g] w w' := by
  have HTK := hide (take_any (n := n) (by omega) hgb hge ht hE h)
  have hrl := rb_len (s := s) (st := st) (n := n)
  have HNW := hide (rb_nw (s := s) (st := st) (n := n))
  rw [rb_st] at HTK
  obtain ⟨t, ht'⟩ : ∃ t, (rb (fb s) s.size st n).1 = t := ⟨_, rfl⟩
  rw [ht'] at HTK hrl HNW
  clear ht' ht hE h
  go_enter Tryd.func69, Tryd.ntmps69
  go_wp2_with fail
  refine HTK.out.mono ?_
  rintro e w1 ⟨v, rfl, hbs, hcp, hri, hwr⟩
  have HRI := hide hri
  have HWR := hide hwr
  obtain ⟨a', b', o', c', rfl, ha, hc⟩ := hbs
  have HC := hide hc
  clear hc hri hwr hcp
  go_wp2
  go_loop [5, 12] (fun x ix => ∃ k : Nat, k ≤ t.size ∧ ix = .int .i64 k ∧ x = .int .i64 (nw (fb t) k : Nat)) (fun _ ix => t.size - (intOf ix).toNat)
  case atStart => exact ⟨0, Nat.zero_le _, rfl, rfl⟩
  case round =>
    obtain ⟨k, hk, rfl, rfl⟩ := hrel
    have hub := nw_lt (fb_lt t) k
    obtain ⟨v, hv⟩ : ∃ v, nw (fb t) k = v := ⟨_, rfl⟩
    rw [hv] at hub
    have HV := hide hv
    rw [hv]
    clear hv
    by_cases hlt : k < t.size
    · have hlti : (k : Int) < (t.size : Int) := by omega
      obtain rfl := ha (by omega)
      have f := HC.out k hlt
      unfold bts at f
      obtain ⟨y, hy⟩ : ∃ y, (t.get! k).toNat = y := ⟨_, rfl⟩
      have hy8 : y < 256 := by rw [← hy]; exact (t.get! k).toNat_lt
      rw [hy] at f
      have HNX : Hid (nw (fb t) (k + 1) = v + y * 256 ^ k) := by
        show nw (fb t) k + fb t k * 256 ^ k = _
        rw [HV.out]
        unfold fb
        rw [hy]
      have hk4 : k < 4 := by omega
      have HOR := hide (or_shl hk4 hub hy8)
      clear hy
      obtain ⟨m, hm⟩ : ∃ m, 8 * k = m := ⟨_, rfl⟩
      have hwm : IntKind.i64.wrap (8 * (k : Int)) = (m : Int) := by rw [IntKind.wrap_i64]; omega
      have hm24 : m ≤ 24 := by omega
      rw [hm] at HOR
      clear hm
      go_wp2
      rw [HOR.out]
      go_round
      case rel => exact ⟨k + 1, by omega, by go_num, by rw [HNX.out]⟩
      case measure => simp [intOf]; omega
    · have hge : ¬ (k : Int) < (t.size : Int) := by omega
      obtain rfl : k = t.size := by omega
      go_wp2
      go_ret
      exact ⟨by rw [← HNW.out, HV.out]; rfl, HRI.out, HWR.out⟩
end Go.Proofs.YtpnocklldlacjaaDoor

namespace Go.Proofs.YtpnocklldlacjaaDoor
open Go.RowKit

set_option maxHeartbeats 1000000 in
set_option maxRecDepth 1000000 in
theorem cloneAll_any (v : Value) (s : ByteArray) (w : World) (hs : s.size ≤ 1048576) (h : BS w v s) :
    Calls Tryd.prog 83 #[v] w fun e w' => ∃ u, e = .returned u ∧ w'.ownsRow w.heap.size 5 1 u (nb s).length (cv (nb s)) ∧ Below w.heap.size w w' := by
  obtain ⟨a, b, o, c, rfl, ha, hc⟩ := h
  have hnl := nb_len s
  cases a with
  | none =>
    have h0 : ¬ 0 < s.size := fun q => by cases ha q
    have HN : Hid (nb s = []) := List.eq_nil_of_length_eq_zero (by omega)
    obtain ⟨n, hn⟩ : ∃ n, s.size = n := ⟨_, rfl⟩
    rw [hn]
    clear hc ha hnl
    have hnil : (binOp BinOp.eql 37 (.slice none n c) (.slice none 0 0)).run Tryd.prog w = .ok (.bool true) w := by
      first | rfl | simp [binOp, go_sem]
    go_enter Tryd.func83, Tryd.ntmps83
    go_wp2
    go_ret
    rw [HN.out]
    exact ⟨_, rfl, World.ownsRow_nil _ _ _ _, Below.refl _ _⟩
  | some ad =>
    obtain ⟨i5, hi5, hz5, hs5, hy5⟩ := info_parts Tryd.info5
    have hnil : (binOp BinOp.eql 37 (.slice (some ad) s.size c) (.slice none 0 0)).run Tryd.prog w = .ok (.bool false) w := by
      first | rfl | simp [binOp, go_sem]
    have HOW : Hid ((w.alloc (.cells #[] 5)).ownsRow w.heap.size 5 1 (.slice (some ⟨w.heap.size, 0, none⟩) 0 0) 0 []) := ⟨rfl, .inr ⟨w.heap.size, 0, #[], rfl, Nat.le_refl _, Blk.new w _ _, Nat.le_refl _, by unfold maxLen; omega, rfl, rfl⟩⟩
    have HNM : Hid (∀ j u, (cv (nb s))[j]? = some u → (w.alloc (.cells #[] 5)).cell? (ad.add j) = some u) := fun j u hj => by
      have hjl : j < s.size := by
        rcases Nat.lt_or_ge j s.size with h | h
        · exact h
        · rw [List.getElem?_eq_none (by rw [cv_length, nb_len]; exact h)] at hj; cases hj
      have e0 := ha (by omega)
      injection e0 with e0
      subst e0
      have e : (⟨b, o, none⟩ : Addr).add j = ⟨b, o + j, none⟩ := by unfold Addr.add; split <;> simp_all
      rw [e, cell_kept (hc j hjl) ((Below.refl _ _).alloc (Nat.le_refl _) _), ← hj]
      have h1 := nb_at s hjl
      have h2 : j < (nb s).length := by rw [nb_len]; exact hjl
      unfold bts
      rw [← h1]
      simp [cv, List.getD, h2]
    have HLN : Hid ((cv (nb s)).length = s.size * 1) := by show _ = _; rw [cv_length, nb_len, Nat.mul_one]
    have HNL : Hid ((nb s).length = s.size) := hnl
    clear hc ha hnl
    go_enter Tryd.func83, Tryd.ntmps83
    go_wp2_with (at_builtin; refine wpList_append_own (w := w.alloc (.cells #[] 5)) rfl (.tmp 5) (.tmp 6) 37 rfl w.heap.size 5 i5 (.int .u8 0) 1 1 Tryd.underlying37 hi5 hz5 hs5 hy5 rfl (by decide) (.slice (some ⟨w.heap.size, 0, none⟩) 0 0) 0 [] rfl HOW.out ad s.size c (cv (nb s)) rfl HLN.out HNM.out (cv_one _) (by unfold maxLen; omega) (by omega) (by rw [World.size_alloc]; omega) ?_)
    intro v' w4 hown hg _
    have HO4 := hide hown
    have HB4 : Hid (Below w.heap.size w w4) := ((Below.refl _ w).alloc (Nat.le_refl _) _).grown hg (by rw [World.size_alloc]; omega) (fun k hk => (HOW.out.lt k hk).1)
    clear hown hg
    go_wp2
    go_ret
    refine ⟨_, rfl, ?_, HB4.out⟩
    rw [HNL.out]
    exact HO4.out
end Go.Proofs.YtpnocklldlacjaaDoor
