/-
  The walk of laws.FnHops, out of what impl.PackHops and impl.UnpackHops answer.
-/
import Derived.Test.YtonhehndoifipaaJFHopsDU
import Derived.Test.YtonhehndoifipaaJFHopsRTP
import Derived.Test.YtonhehndoifipaaJFHopsSPU
import Derived.Test.YtonhehndoifipaaJFHopsSN
namespace Go.Proofs.Ytonhehndoifipaa
open Go.RowKit

theorem duN_64 (cs : ByteArray) (n : Nat) : W64 (duN cs n) := by
  have h1 : (dh (duC cs n)).length ≤ 41 := dhN_len _ _
  have h2 : nx cs n 1 % 5 < 5 := Nat.mod_lt _ (by decide)
  have key : ∀ z : Int, -9223372036854775808 ≤ z → z ≤ 9223372036854775807 → W64 z := fun z a b => by
    unfold W64
    simp [Lit.wf, IntKind.min, IntKind.max, IntKind.signed, IntKind.bits]
    omega
  unfold duN
  split
  · exact key _ (by decide) (by decide)
  · split
    · exact key _ (by decide) (by decide)
    · split
      · exact key _ (by omega) (by omega)
      · exact key _ (by omega) (by omega)
theorem duB_size (cs : ByteArray) (n : Nat) : (duB cs n).size ≤ 20 := by
  have h1 : (dh (duC cs n)).length ≤ 41 := dhN_len _ _
  have h2 : (pkF (dh (duC cs n))).size ≤ 20 := by
    by_cases h : hGood (dh (duC cs n)) = true
    · rw [pkF_yes h, byt_size, pkL_len]; unfold pkN; omega
    · rw [pkF_no h]; exact Nat.zero_le _
  unfold duB duX
  split
  · rw [set_size]; exact h2
  · exact h2

set_option maxHeartbeats 4000000 in
set_option maxRecDepth 1000000 in
theorem lawHops (Q : World → Prop) (hQ : ∀ w w', Q w → Below w.heap.size w w' → Q w')
    (HP0 : ∀ s u w, s.length ≤ 1048576 → Q w → IS w u s → Calls Try.prog 17 #[u] w fun e w' => ∃ v bl, e = .returned (.tuple #[v, .int .i64 (pkC s)]) ∧ BF w' v (pkF s) bl ∧ Fr w w' bl ∧ Below w.heap.size w w')
    (HU0 : ∀ s n u w, s.size ≤ 1048576 → W64 n → Q w → BS w u s → Calls Try.prog 23 #[u, .int .i64 n] w fun e w' => ∃ v bl, e = .returned (.tuple #[v, .int .i64 (upC s n)]) ∧ IF w' v (upF s n) bl ∧ Fr w w' bl ∧ Below w.heap.size w w')
    (w : World) (a0 : Option Addr) (b off cap : Nat) (cs : ByteArray) (hcap : cs.size ≤ cap) (hq : Q w) (ha : 0 < cs.size → a0 = some ⟨b, off, none⟩) (hc : ∀ j, j < cs.size → w.cell? ⟨b, off + j, none⟩ = some (bts cs j)) :
    Calls Try.prog 7 #[.slice a0 cs.size cap] w fun e w' => e = .returned (.bool true) ∧ Below w.heap.size w w' := by
  have HQ := hide (fun w2 (hb2 : Below w.heap.size w w2) => hQ w w2 hq hb2)
  have HD := hide (fun V (hV : Below w.heap.size w V) (hs : cs.size ≤ 1048576) => drawPack_any V a0 b off cap cs hs hcap ha (fun j hj => cell_kept (hc j hj) hV))
  have HU := hide (fun V (hV : Below w.heap.size w V) (hs : cs.size ≤ 1048576) => drawUnpack_any V a0 b off cap cs hs hcap ha (fun j hj => cell_kept (hc j hj) hV))
  obtain ⟨H, hH⟩ : ∃ H, dh cs = H := ⟨_, rfl⟩
  have hHl : H.length ≤ 41 := by rw [← hH]; exact dhN_len _ _
  simp only [hH] at HD
  have hrs := duB_size cs (min cs.size 600)
  have HN64 := hide (duN_64 cs (min cs.size 600))
  obtain ⟨rw_, hrw⟩ : ∃ r, duB cs (min cs.size 600) = r := ⟨_, rfl⟩
  obtain ⟨nn, hnn⟩ : ∃ n, duN cs (min cs.size 600) = n := ⟨_, rfl⟩
  simp only [hrw, hnn] at HU
  rw [hrw] at hrs
  rw [hnn] at HN64
  have HIP := hide (fun s u V (hs : s.length ≤ 1048576) (hV : Below w.heap.size w V) (h : IS V u s) => HP0 s u V hs (HQ.out V hV) h)
  have HIU := hide (fun s n u V (hs : s.size ≤ 1048576) (hn : W64 n) (hV : Below w.heap.size w V) (h : BS V u s) => HU0 s n u V hs hn (HQ.out V hV) h)
  clear hQ hq HP0 HU0 ha hc hH hrw hnn
  by_cases hL : 1048576 < (cs.size : Int)
  · have tL : decide (1048576 < (cs.size : Int)) = true := decide_eq_true hL
    go_enter Try.func7, Try.ntmps7
    go_wp2
    go_ret
    exact ⟨rfl, Below.refl _ _⟩
  have tL : decide (1048576 < (cs.size : Int)) = false := decide_eq_false hL
  have hs20 : cs.size ≤ 1048576 := by omega
  clear hL
  go_enter Try.func7, Try.ntmps7
  go_wp2_with fail
  refine (HD.out w (Below.refl _ _) hs20).mono ?_
  rintro e w1 ⟨u1, rfl, ho1, hb1⟩
  have hi1 := own_is ho1
  obtain ⟨a1, c1, rfl⟩ := hi1.slice
  have HI1 := hide hi1
  have HB1 := hide hb1
  clear ho1 hb1 hi1
  go_wp2_with fail
  refine (specPack_any H _ w1 (by omega) HI1.out).mono ?_
  rintro e w2 ⟨v2, rfl, _, hb2⟩
  have HB2 : Hid (Below w.heap.size w w2) := HB1.out.trans (hb2.mono HB1.out.size)
  have HI2 := hide (HI1.out.below hb2)
  clear hb2 HI1 HB1
  go_wp2_with fail
  refine (HD.out w2 HB2.out hs20).mono ?_
  rintro e w3 ⟨u3, rfl, ho3, hb3⟩
  have HI3 := hide (own_is ho3)
  have HJ3 := hide (HI2.out.below hb3)
  have HB3 : Hid (Below w.heap.size w w3) := HB2.out.trans (hb3.mono HB2.out.size)
  clear ho3 hb3 HI2 HB2
  go_wp2_with fail
  refine (HIP.out H _ w3 (by omega) HB3.out HI3.out).mono ?_
  rintro e w4 ⟨v4, bl4, rfl, hbf4, _, hb4⟩
  obtain ⟨a4, c4, rfl⟩ := hbf4.slice
  have HF4 := hide hbf4.rd
  have HJ4 := hide (HJ3.out.below hb4)
  have HB4 : Hid (Below w.heap.size w w4) := HB3.out.trans (hb4.mono HB3.out.size)
  clear hbf4 hb4 HI3 HJ3 HB3
  by_cases hg : hGood H = true
  case' pos =>
    have hc0 := pkC_yes hg
    rw [hc0]
    have HUP := hide (up_pk hg)
    obtain ⟨m, hm⟩ : ∃ m, (pkF H).size = m := ⟨_, rfl⟩
    have hmm : (3 * (H.length : Int) + 7).tdiv 8 = (m : Nat) := by
      rw [Int.tdiv_eq_ediv_of_nonneg (by omega), ← hm, pkF_yes hg, byt_size, pkL_len]
      unfold pkN
      omega
    have hmle : m ≤ 1048576 := by rw [← hm]; exact pkF_size H (by omega)
    have HC5 := hide (HIU.out (pkF H) (H.length : Nat) _ w4 (pkF_size H (by omega)) (by unfold W64; simp [Lit.wf, IntKind.min, IntKind.max, IntKind.signed, IntKind.bits]; omega) HB4.out HF4.out)
    rw [HUP.out.1, HUP.out.2, hm] at HC5
    rw [hm]
    clear hm hc0 hg
    go_wp2_with fail
    refine HC5.out.mono ?_
    rintro e w5 ⟨v5, bl5, rfl, hif5, _, hb5⟩
    obtain ⟨a5, c5, rfl⟩ := hif5.slice
    have HI5 := hide hif5.rd
    have HJ5 := hide (HJ4.out.below hb5)
    have HB5 : Hid (Below w.heap.size w w5) := HB4.out.trans (hb5.mono HB4.out.size)
    clear hif5 hb5 HJ4 HB4 HC5 HF4
    go_wp2_with fail
    refine (sameN_is (w := w5) (by omega) HI5.out HJ5.out).mono ?_
    rintro e w6 ⟨rfl, hb6⟩
    have HB6 : Hid (Below w.heap.size w w6) := HB5.out.trans (hb6.mono HB5.out.size)
    clear hb6 HI5 HJ5 HB5
  case' neg =>
    have hc0 := pkC_no hg
    rw [hc0]
    have hz : (pkF H).size = 0 := by rw [pkF_no hg]; rfl
    rw [hz]
    clear hc0 hz hg HF4 HJ4
    rename World => w6
    have HB6 := HB4
    clear HB4
  all_goals
    go_wp2_with fail
    refine (HU.out w6 HB6.out hs20).mono ?_
    rintro e w7 ⟨v7, rfl, hbn7, hb7⟩
    obtain ⟨bl7, hbf7, _⟩ := hbn7
    obtain ⟨a7, c7, rfl⟩ := hbf7.slice
    have HF7 := hide hbf7.rd
    have HB7 : Hid (Below w.heap.size w w7) := HB6.out.trans (hb7.mono HB6.out.size)
    clear hbf7 hb7 HB6
    go_wp2_with fail
    refine (specUnpack_any rw_ nn _ w7 (by omega) HN64.out HF7.out).mono ?_
    rintro e w8 ⟨v8, rfl, _, hb8⟩
    have HF8 := hide (HF7.out.below hb8)
    have HB8 : Hid (Below w.heap.size w w8) := HB7.out.trans (hb8.mono HB7.out.size)
    clear hb8 HF7 HB7
    go_wp2_with fail
    refine (HU.out w8 HB8.out hs20).mono ?_
    rintro e w9 ⟨v9, rfl, hbn9, hb9⟩
    obtain ⟨bl9, hbf9, _⟩ := hbn9
    obtain ⟨a9, c9, rfl⟩ := hbf9.slice
    have HG9 := hide hbf9.rd
    have HF9 := hide (HF8.out.below hb9)
    have HB9 : Hid (Below w.heap.size w w9) := HB8.out.trans (hb9.mono HB8.out.size)
    clear hbf9 hb9 HF8 HB8
    go_wp2_with fail
    refine (HIU.out rw_ nn _ w9 (by omega) HN64.out HB9.out HG9.out).mono ?_
    rintro e w10 ⟨v10, bl10, rfl, hif10, _, hb10⟩
    obtain ⟨a10, c10, rfl⟩ := hif10.slice
    have HI10 := hide hif10.rd
    have HF10 := hide (HF9.out.below hb10)
    have HB10 : Hid (Below w.heap.size w w10) := HB9.out.trans (hb10.mono HB9.out.size)
    clear hif10 hb10 HF9 HB9 HG9
    by_cases hok : 0 ≤ nn ∧ upOk rw_ nn.toNat = true
    · have hcd := upC_yes hok.1 hok.2
      have hfd := upF_yes hok.1 hok.2
      rw [hcd]
      rw [hfd] at HI10 ⊢
      obtain ⟨i, rfl⟩ : ∃ i : Nat, nn = i := ⟨nn.toNat, by omega⟩
      rw [Int.toNat_natCast] at HI10 ⊢
      have hk := hok.2
      rw [Int.toNat_natCast] at hk
      have hsz := upOk_size hk
      unfold upOk at hk
      rw [Bool.and_eq_true, Bool.and_eq_true, decide_eq_true_iff, decide_eq_true_iff] at hk
      obtain ⟨_, hgd, hpf⟩ := hk
      have hi60 : i ≤ 60 := by omega
      obtain ⟨X, hX⟩ : ∃ X, upL rw_ i = X := ⟨_, rfl⟩
      have hXl : X.length = i := by rw [← hX, upL_len]
      rw [hX] at HI10 hgd hpf ⊢
      subst hXl
      have tn : ((X.length : Int) == (X.length : Int)) = true := by rw [beq_iff_eq]
      have HP11 := hide (HIP.out X _ w10 (by omega) HB10.out HI10.out)
      rw [pkC_yes hgd, hpf] at HP11
      clear hok hcd hfd hsz hX hgd hpf HI10
      go_wp2_with fail
      refine HP11.out.mono ?_
      rintro e w11 ⟨v11, bl11, rfl, hbf11, _, hb11⟩
      obtain ⟨a11, c11, rfl⟩ := hbf11.slice
      have HG11 := hide hbf11.rd
      have HF11 := hide (HF10.out.below hb11)
      have HB11 : Hid (Below w.heap.size w w11) := HB10.out.trans (hb11.mono HB10.out.size)
      clear hbf11 hb11 HF10 HB10 HP11
      go_wp2_with fail
      refine (sameB_bs (w := w11) (by omega) HG11.out HF11.out).mono ?_
      rintro e w12 ⟨rfl, hb12⟩
      have HB12 : Hid (Below w.heap.size w w12) := HB11.out.trans (hb12.mono HB11.out.size)
      clear hb12
      go_wp2
      go_ret
      exact ⟨rfl, HB12.out⟩
    · have hfd : upF rw_ nn = [] := if_neg hok
      have hcn : upC rw_ nn ≠ 0 := by
        unfold upC
        split
        · decide
        · split
          · exact absurd ⟨by omega, by assumption⟩ hok
          · decide
      obtain ⟨cd, hcd⟩ : ∃ c, upC rw_ nn = c := ⟨_, rfl⟩
      rw [hcd] at hcn ⊢
      rw [hfd]
      have t1 : (cd != cd) = false := by simp
      have t2 : (cd != 0) = true := by rw [bne_iff_ne]; exact hcn
      have t3 : (cd == cd) = true := by rw [beq_iff_eq]
      clear hok hfd hcd hcn
      go_wp2
      go_ret
      exact ⟨rfl, HB10.out⟩
theorem hops_row
    (HP0 : ∀ s u w, s.length ≤ 1048576 → True → IS w u s → Calls Try.prog 17 #[u] w fun e w' => ∃ v bl, e = .returned (.tuple #[v, .int .i64 (pkC s)]) ∧ BF w' v (pkF s) bl ∧ Fr w w' bl ∧ Below w.heap.size w w')
    (HU0 : ∀ s n u w, s.size ≤ 1048576 → W64 n → True → BS w u s → Calls Try.prog 23 #[u, .int .i64 n] w fun e w' => ∃ v bl, e = .returned (.tuple #[v, .int .i64 (upC s n)]) ∧ IF w' v (upF s n) bl ∧ Fr w w' bl ∧ Below w.heap.size w w')
    {a0 : Option Addr} {l0 cap : Nat} {cs : ByteArray} (w : World) (hcap : l0 ≤ cap) (h : BS w (.slice a0 l0 cap) cs) :
    Calls Try.prog 7 #[.slice a0 l0 cap] w fun e w' => e = .returned (.bool true) ∧ Below w.heap.size w w' := by
  obtain ⟨a, b, o, c, h1, h2, h3⟩ := h
  injection h1 with e1 e2 e3
  subst e1 e2 e3
  exact lawHops (fun _ => True) (fun _ _ _ _ => trivial) HP0 HU0 w _ b o _ cs hcap trivial h2 h3
end Go.Proofs.Ytonhehndoifipaa
