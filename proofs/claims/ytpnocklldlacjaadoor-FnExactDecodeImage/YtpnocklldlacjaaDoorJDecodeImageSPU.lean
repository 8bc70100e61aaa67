/-
  The walk of spec.UnpackHops.
-/
import Derived.Test.YtpnocklldlacjaaDoorJDecodeImageSPH
import Derived.Test.YtpnocklldlacjaaDoorJDecodeImageRDM
import Derived.Test.YtpnocklldlacjaaDoorJDecodeImageIIOW
import Derived.BigQuiet
import Derived.Deep.QuietTactic
namespace Go.Proofs.YtpnocklldlacjaaDoor
open Go.RowKit

theorem w64_in (n : Int) (h : -9223372036854775808 ≤ n ∧ n ≤ 9223372036854775807) : wrap64 n = n := by unfold wrap64; omega
set_option maxHeartbeats 4000000 in
set_option maxRecDepth 1000000 in
theorem specUnpack_own (s : ByteArray) (n : Int) (u : Value) (w : World) (hs : s.size ≤ 1048576) (wn : W64 n) (h : BS w u s) :
    Calls Tryd.prog 44 #[u, .int .i64 n] w fun e w' => ∃ v, e = .returned (.tuple #[v, .int .i64 (upC s n)]) ∧ w'.ownsRow w.heap.size 3 1 v (upF s n).length (ci (upF s n)) ∧ Below w.heap.size w w' := by
  have HST := hide h
  obtain ⟨a, b, o, c, rfl, ha, hc⟩ := h
  have HC : Hid (∀ V, Below w.heap.size w V → ∀ j, j < s.size → V.cell? ⟨b, o + j, none⟩ = some (.int .u8 ((s.get! j).toNat : Int))) := fun V hV j hj => cell_kept (hc j hj) hV
  clear hc
  by_cases q0 : n < 0
  · have t0 : decide (n < 0) = true := decide_eq_true q0
    have HQ := hide q0
    clear q0
    go_enter Tryd.func44, Tryd.ntmps44
    go_wp2
    go_ret2
    rw [upF_neg HQ.out, upC_neg HQ.out]
    exact ⟨_, rfl, World.ownsRow_nil _ _ _ _, Below.refl _ _⟩
  have t0 : decide (n < 0) = false := decide_eq_false q0
  have HN0 : Hid (0 ≤ n) := by show _ ≤ _; omega
  by_cases q1 : 8 * (s.size : Int) < n
  · have t1 : decide (8 * (s.size : Int) < n) = true := decide_eq_true q1
    have HR : Hid (¬ upOk s n.toNat = true) := fun h => by have := upOk_size h; omega
    clear q0 q1
    go_enter Tryd.func44, Tryd.ntmps44
    go_wp2
    go_ret2
    rw [upF_no HR.out, upC_no HN0.out HR.out]
    exact ⟨_, rfl, World.ownsRow_nil _ _ _ _, Below.refl _ _⟩
  have t1 : decide (8 * (s.size : Int) < n) = false := decide_eq_false q1
  obtain ⟨m, rfl⟩ : ∃ m : Nat, n = m := ⟨n.toNat, by omega⟩
  have hm : m ≤ 8388608 := by omega
  obtain ⟨z, hz⟩ : ∃ z, (3 * m + 7) / 8 = z := ⟨_, rfl⟩
  have hdv : (3 * (m : Int) + 7).tdiv 8 = (z : Nat) := by
    rw [Int.tdiv_eq_ediv_of_nonneg (by omega), ← hz]
    omega
  have HZ := hide hz
  have hzl : z ≤ 3145729 := by omega
  clear hz q0 q1
  by_cases q2 : ¬ z = s.size
  · have t2 : ((z : Int) != (s.size : Int)) = true := by rw [bne_iff_ne]; omega
    have HR : Hid (¬ upOk s ((m : Nat) : Int).toNat = true) := fun h => by have h1 := upOk_size h; rw [Int.toNat_natCast, HZ.out] at h1; exact q2 h1
    clear q2
    go_enter Tryd.func44, Tryd.ntmps44
    go_wp2
    go_ret2
    rw [upF_no HR.out, upC_no HN0.out HR.out]
    exact ⟨_, rfl, World.ownsRow_nil _ _ _ _, Below.refl _ _⟩
  have q2' : z = s.size := by omega
  subst q2'
  have t2 : ((s.size : Int) != (s.size : Int)) = false := by simp
  clear q2
  go_enter Tryd.func44, Tryd.ntmps44
  go_wp2
  clear t0 t1 t2 hdv
  go_loopw [6, 7] (fun ox ix wr => ∃ i : Nat, i ≤ m ∧ ix = .int .i64 i ∧ wr.ownsRow w.heap.size 3 1 ox (upL s i).length (ci (upL s i)) ∧ Below w.heap.size w wr) (fun _ ix _ => m - (intOf ix).toNat)
  case atStart => exact ⟨0, Nat.zero_le _, rfl, World.ownsRow_nil _ _ _ _, Below.refl _ _⟩
  case round =>
    obtain ⟨i, hi, rfl, hown, hbl⟩ := hrel
    have HO := hide hown
    have HB := hide hbl
    have hwr := hbl.size
    obtain ⟨X, hX⟩ : ∃ X, upL s i = X := ⟨_, rfl⟩
    have HXL : Hid (X.length = i) := by show _ = _; rw [← hX, upL_len]
    rw [hX] at HO
    have HX := hide hX
    clear hown hX
    by_cases hlt : i < m
    · have hlti : (i : Int) < (m : Int) := by omega
      obtain rfl := ha (by have := HZ.out; omega)
      have HCW := hide (HC.out _ hbl)
      rename World => wo
      clear hbl
      go_wp2
      go_loopw [8, 9] (fun vx kx wr => ∃ j : Nat, j ≤ 3 ∧ kx = .int .i64 (2 - (j : Int)) ∧ vx = .int .i64 (uvp s i j : Nat) ∧ wr = wo) (fun _ kx _ => (intOf kx + 1).toNat)
      case atStart => exact ⟨0, by omega, rfl, rfl, rfl⟩
      case round =>
        obtain ⟨j, hj, rfl, rfl, hwq⟩ := hrel
        subst hwq
        rename World => wo
        have hub := uvp_le s i j
        obtain ⟨v, hv⟩ : ∃ v, uvp s i j = v := ⟨_, rfl⟩
        rw [hv] at hub ⊢
        have HV := hide hv
        clear hv
        have hub8 : v ≤ 8 := by
          have : 2 ^ j ≤ 2 ^ 3 := Nat.pow_le_pow_right (by decide) hj
          omega
        clear hub
        by_cases hj3 : j < 3
        · have tj : decide (0 ≤ 2 - (j : Int)) = true := decide_eq_true (by omega)
          obtain ⟨t, ht⟩ : ∃ t, 3 * i + (2 - j) = t := ⟨_, rfl⟩
          obtain ⟨p, hp⟩ : ∃ p, t / 8 = p := ⟨_, rfl⟩
          obtain ⟨r, hr⟩ : ∃ r, t % 8 = r := ⟨_, rfl⟩
          have hti : 3 * (i : Int) + (2 - (j : Int)) = (t : Nat) := by omega
          have hdm : (3 * (i : Int) + (2 - (j : Int))).tdiv 8 = (p : Nat) := by rw [hti, Int.tdiv_eq_ediv_of_nonneg (by omega), ← hp]; omega
          have hmm : (3 * (i : Int) + (2 - (j : Int))).tmod 8 = (r : Nat) := by rw [hti, Int.tmod_eq_emod_of_nonneg (by omega), ← hr]; omega
          have hps : p < s.size := by have := HZ.out; omega
          have hpi : (p : Int) < (s.size : Int) := by omega
          have f := HCW.out p hps
          obtain ⟨x, hx⟩ : ∃ x, (s.get! p).toNat = x := ⟨_, rfl⟩
          rw [hx] at f
          have hx8 : x < 256 := by rw [← hx]; exact (s.get! p).toNat_lt
          have hr8 : r < 8 := by omega
          have HBI : Hid (uvp s i (j + 1) = v * 2 + x / 2 ^ r % 2) := by
            show uvp s i j * 2 + bbit s (3 * i + (2 - j)) = _
            unfold bbit
            rw [HV.out, ht, hp, hr, hx]
          clear ht hp hr hti hx
          have HVX : Hid (wrap64 ((v : Int) * 2 + wrap64 (((x : Int) / 2 ^ r).tmod 2)) = ((v * 2 + x / 2 ^ r % 2 : Nat) : Int)) := by
            have h1 : ((x : Int) / 2 ^ r).tmod 2 = ((x / 2 ^ r % 2 : Nat) : Int) := by
              rw [Int.tmod_eq_emod_of_nonneg (Int.ediv_nonneg (by omega) (by exact_mod_cast Nat.zero_le _))]
              push_cast
              rfl
            show _ = _
            rw [h1, w64_in ((x / 2 ^ r % 2 : Nat) : Int) (by omega), w64_in _ (by omega)]
            push_cast
            rfl
          go_wp2
          go_roundw
          case rel => exact ⟨j + 1, by omega, by congr 1; omega, by rw [HVX.out, HBI.out], trivial⟩
          case measure => simp [intOf]; omega
        · have tj : decide (0 ≤ 2 - (j : Int)) = false := decide_eq_false (by omega)
          obtain rfl : j = 3 := by omega
          obtain ⟨h, hh⟩ : ∃ h, uph s i = h := ⟨_, rfl⟩
          have HH := hide hh
          have HH2 : Hid (h = if v = 4 then -1 else (v : Int)) := by
            show _ = _
            rw [← hh, ← HV.out, uvp_three]
            rfl
          clear hh
          by_cases q4 : v = 4
          case' pos =>
            have s4 : ((v : Int) == 4) = true := by rw [beq_iff_eq]; omega
            have HVH : Hid ((-1 : Int) = h) := by show _ = _; rw [HH2.out, if_pos q4]
          case' neg =>
            have s4 : ((v : Int) == 4) = false := by rw [beq_eq_false_iff_ne]; omega
            have HVH : Hid ((v : Int) = h) := by show _ = _; rw [HH2.out, if_neg q4]
          all_goals
            clear q4 hub8
            go_wp2_with (at_builtin; rw [HVH.out]; refine wp_app_i rfl _ _ rfl w.heap.size _ X rfl (HO.out.alloc _) wo.heap.size 1 [h] rfl ?n1 ?l1 ?b1 ?_)
            case n1 =>
              intro j hj
              obtain rfl : j = 0 := by simp at hj; omega
              exact (Blk.new _ _ _).cell 0
            case l1 => have := HXL.out; first | omega | (simp; omega)
            case b1 => first | omega | (simp; omega)
            intro v' w3 l hl3 ho hg
            have HO3 := hide ho
            have HB3 : Hid (Below w.heap.size w w3) := app_below_i (HB.out.alloc hwr _) (HO.out.alloc _) (by simp; omega) hg
            have HLX : Hid (l = upL s (i + 1)) := by
              show _ = _
              rw [hl3.out, upL_succ, HX.out, HH.out]
            clear ho hg hl3
            go_wp2
            go_roundw
            case rel => exact ⟨i + 1, by omega, by go_num, by rw [← HLX.out]; exact HO3.out, HB3.out⟩
            case measure => simp [intOf]; omega
    · have hge : ¬ (i : Int) < (m : Int) := by omega
      obtain rfl : i = m := by omega
      have HIS : Hid (IS _ _ X) := own_is HO.out
      have HPK := hide (specPack_any X _ _ (by have := HXL.out; omega) HIS.out)
      have HCW := hide (HST.out.below hbl)
      rename World => wo
      clear hbl
      go_wp2_with fail
      refine HPK.out.mono ?_
      rintro e w5 ⟨vp, rfl, hbs, hb5⟩
      have HBS := hide hbs
      have HB5 : Hid (Below w.heap.size w w5) := HB.out.trans (hb5.mono HB.out.size)
      have HI5 := hide (kept_i HO.out hb5)
      have HCW5 := hide (HCW.out.below hb5)
      obtain ⟨ap, cp, rfl⟩ := hbs.slice
      clear hbs hb5 HPK
      by_cases q5 : hGood X = true
      · have HC0 := hide (pkC_yes q5)
        have hc0 := HC0.out
        rw [hc0]
        clear hc0
        have c5 : (convert 37 9 (.slice ap (pkF X).size cp)).run Tryd.prog w5 = .ok (.string (pkF X)) w5 := toStr_bs (w := w5) HBS.out
        have c6 : (convert 37 9 (.slice a s.size c)).run Tryd.prog w5 = .ok (.string s) w5 := toStr_bs (w := w5) HCW5.out
        obtain ⟨P, hP⟩ : ∃ P, pkF X = P := ⟨_, rfl⟩
        rw [hP] at c5 ⊢
        by_cases q6 : P = s
        · subst q6
          have HOK : Hid (upOk P ((i : Nat) : Int).toNat = true) := by
            show _ = _
            unfold upOk
            rw [Int.toNat_natCast, HX.out, q5, hP, decide_eq_true HZ.out]
            simp
          have HXX : Hid (upF P ((i : Nat) : Int) = X) := by show _ = _; rw [upF_yes HN0.out HOK.out, Int.toNat_natCast, HX.out]
          have HCC : Hid (upC P ((i : Nat) : Int) = 0) := upC_yes HN0.out HOK.out
          clear hP q5
          go_wp2
          go_ret2
          rw [HXX.out, HCC.out]
          exact ⟨_, rfl, HI5.out, HB5.out⟩
        · have HR : Hid (¬ upOk s ((i : Nat) : Int).toNat = true) := fun h => by
            unfold upOk at h
            rw [Int.toNat_natCast, HX.out, Bool.and_eq_true, Bool.and_eq_true, decide_eq_true_iff, decide_eq_true_iff, hP] at h
            exact q6 h.2.2
          have s6 : (P.toList == s.toList) = false := by
            rw [beq_eq_false_iff_ne]
            intro h
            rw [ByteArray.toList_eq, ByteArray.toList_eq] at h
            exact q6 (ByteArray.ext (Array.toList_inj.1 h))
          clear hP q5 q6
          go_wp2
          go_ret2
          rw [upF_no HR.out, upC_no HN0.out HR.out]
          exact ⟨_, rfl, World.ownsRow_nil _ _ _ _, HB5.out⟩
      · have hc0 := pkC_no q5
        rw [hc0]
        have HR : Hid (¬ upOk s ((i : Nat) : Int).toNat = true) := fun h => by
          unfold upOk at h
          rw [Int.toNat_natCast, HX.out, Bool.and_eq_true, Bool.and_eq_true] at h
          exact q5 h.2.1
        clear hc0 q5
        go_wp2
        go_ret2
        rw [upF_no HR.out, upC_no HN0.out HR.out]
        exact ⟨_, rfl, World.ownsRow_nil _ _ _ _, HB5.out⟩
theorem specUnpack_any (s : ByteArray) (n : Int) (u : Value) (w : World) (hs : s.size ≤ 1048576) (wn : W64 n) (h : BS w u s) :
    Calls Tryd.prog 44 #[u, .int .i64 n] w fun e w' => ∃ v, e = .returned (.tuple #[v, .int .i64 (upC s n)]) ∧ IS w' v (upF s n) ∧ Below w.heap.size w w' :=
  (specUnpack_own s n u w hs wn h).mono fun _ _ ⟨v, h1, h2, h3⟩ => ⟨v, h1, own_is h2, h3⟩
end Go.Proofs.YtpnocklldlacjaaDoor
