/-
  The walk of the image's writer: numbers.
-/
import Derived.Test.YtpnocklldlacjaaDoorJDecodeImageIRB
import Derived.Test.YtpnocklldlacjaaDoorJDecodeImageSDJ
import Derived.BigQuiet
import Derived.BigRegion
import Derived.Deep.QuietTactic
import Derived.Deep.RegionLaw
namespace Go.Proofs.YtpnocklldlacjaaDoor
open Go.RowKit

/-- A number as so many bytes hold it. -/
def md (s : Nat) (x : Int) : Nat := (x % ((256 ^ s : Nat) : Int)).toNat
/-- The bytes of numbers. -/
def nLs (s : Nat) (L : List Int) : Nat → List Nat
  | 0 => []
  | k + 1 => nLs s L k ++ le s (md s (L.getD k 0))
theorem nLs_len (s : Nat) (L : List Int) : ∀ k, (nLs s L k).length = s * k
  | 0 => rfl
  | k + 1 => by show (nLs s L k ++ _).length = _; rw [List.length_append, nLs_len s L k, le_len, Nat.mul_succ]
theorem md_byte {s j : Nat} (x : Int) (hs : s = 1 ∨ s = 2 ∨ s = 4) (hj : j < s) : x / 2 ^ (8 * j) % 256 = ((md s x / 256 ^ j % 256 : Nat) : Int) := by
  unfold md
  rcases hs with rfl | rfl | rfl
  · match j, hj with
    | 0, _ => (simp only [Nat.mul_zero, Int.pow_zero, Nat.pow_zero]; omega)
  · match j, hj with
    | 0, _ => (simp only [Nat.mul_zero, Int.pow_zero, Nat.pow_zero]; omega)
    | 1, _ => (show x / 256 % 256 = _; omega)
  · match j, hj with
    | 0, _ => (simp only [Nat.mul_zero, Int.pow_zero, Nat.pow_zero]; omega)
    | 1, _ => (show x / 256 % 256 = _; omega)
    | 2, _ => (show x / 65536 % 256 = _; omega)
    | 3, _ => (show x / 16777216 % 256 = _; omega)

theorem le_md1 {x : Int} (h0 : 0 ≤ x) (h1 : x < 256) : le 1 (md 1 x) = [x.toNat] := by
  show [md 1 x % 256] = _
  unfold md
  congr 1
  omega
theorem md2_dv {x : Int} (h0 : -1 ≤ x) (h1 : x < 65536) : md 2 x = dv x := by
  unfold md dv
  split <;> omega
theorem md2_nat {n : Nat} (h1 : n < 65536) : md 2 (n : Int) = n := by unfold md; omega
theorem md4_nat {n : Nat} (h1 : n < 4294967296) : md 4 (n : Int) = n := by unfold md; omega
theorem nLs_imD (D : List Int) (h : ∀ i, i < D.length → -1 ≤ D.getD i 0 ∧ D.getD i 0 < 65536) : ∀ k, k ≤ D.length → nLs 2 D k = imD D k
  | 0, _ => rfl
  | k + 1, hk => by
    have h1 := h k (by omega)
    show nLs 2 D k ++ le 2 (md 2 (D.getD k 0)) = imD D k ++ le 2 (dv (D.getD k 0))
    rw [nLs_imD D h k (by omega), md2_dv h1.1 h1.2]

set_option maxHeartbeats 4000000 in
set_option maxRecDepth 1000000 in
theorem numbers_any (P F s : Nat) (u : Value) (L : List Int) (l : List Nat) (w : World) (hs : s = 1 ∨ s = 2 ∨ s = 4) (hl0 : 0 < l.length) (hl : l.length ≤ 1000000) (hL0 : 0 < L.length) (hL : L.length ≤ 2000)
    (hPF : P < F) (hF : F ≤ w.heap.size) (him : Im w P F l) (hR : ∀ V, Kp P w V → IS V u L) :
    Calls Tryd.prog 36 #[.pointer (some ⟨P, 0, none⟩), .int .i64 s, u] w fun e w' => e = .returned (.tuple #[]) ∧ ImO w' P F (l ++ nLs s L L.length) ∧ Kp P w w' := by
  obtain ⟨a, c, rfl⟩ := (hR w (Kp.refl _ _)).slice
  have HR := hide hR
  have HIM := hide him
  have hs1 : 1 ≤ s := by omega
  have hs4 : s ≤ 4 := by omega
  have HS := hide hs
  clear hR him hs
  go_enter Tryd.func36, Tryd.ntmps36
  go_wp2
  go_loopw [11] (fun ix wr => ∃ k : Nat, k ≤ L.length ∧ ix = .int .i64 k ∧ Im wr P F (l ++ nLs s L k) ∧ (0 < k → ImO wr P F (l ++ nLs s L k)) ∧ Kp P w wr) (fun ix _ => L.length - (intOf ix).toNat)
  case atStart => exact ⟨0, Nat.zero_le _, rfl, by show Im _ _ _ (l ++ []); rw [List.append_nil]; exact HIM.out, fun h => absurd h (by decide), Kp.refl _ _⟩
  case round =>
    clear HIM
    obtain ⟨k, hk, rfl, him, himo, hkp⟩ := hrel
    have HIM := hide him
    have HIMO := hide himo
    have HK := hide hkp
    clear him himo
    by_cases hlt : k < L.length
    · have hlti : (k : Int) < (L.length : Int) := by omega
      obtain ⟨a', b, o, c', he, ha, hc⟩ := HR.out _ hkp
      injection he with he1 he2 he3
      obtain rfl := (he1.trans (ha (by omega)))
      have f := hc k hlt
      obtain ⟨x, hx⟩ : ∃ x, L.getD k 0 = x := ⟨_, rfl⟩
      rw [hx] at f
      have HX := hide hx
      have HNL : Hid (nLs s L (k + 1) = nLs s L k ++ le s (md s x)) := by show _ = _; rw [← hx]; rfl
      obtain ⟨X, hX⟩ : ∃ X, l ++ nLs s L k = X := ⟨_, rfl⟩
      have hXl : X.length ≤ 1008000 := by
        have h1 : s * k ≤ 4 * 2000 := Nat.mul_le_mul hs4 (by omega)
        rw [← hX, List.length_append, nLs_len]
        omega
      rw [hX] at HIM
      have HXX := hide hX
      clear hx hc ha he1 he2 he3 hkp hX HIMO
      rename World => wo
      go_wp2
      clear f
      go_loopw [16] (fun ix wr => ∃ j : Nat, j ≤ s ∧ ix = .int .i64 j ∧ Im wr P F (X ++ le j (md s x)) ∧ (0 < j → ImO wr P F (X ++ le j (md s x))) ∧ Kp P w wr) (fun ix _ => s - (intOf ix).toNat)
      case atStart => exact ⟨0, Nat.zero_le _, rfl, by show Im _ _ _ (X ++ []); rw [List.append_nil]; exact HIM.out, fun h => absurd h (by decide), HK.out⟩
      case round =>
        clear HIM HK
        obtain ⟨j, hj, rfl, him, himo, hkp⟩ := hrel
        have HIMO := hide himo
        have HK := hide hkp
        have hFw : F ≤ wr.heap.size := by have := hkp.bel.size; omega
        by_cases hjs : j < s
        · have hjsi : (j : Int) < (s : Int) := by omega
          obtain ⟨v, hbk, hiv⟩ := him
          have HBK := hide hbk
          have HIV := hide hiv
          have y0 := hbk.cell 0
          have y1 := hbk.frozen 0
          simp only [List.getElem?_toArray, List.getElem?_cons_zero] at y0
          have HLE := hide (le_snoc j (md s x))
          have HMB := hide (md_byte x HS.out hjs)
          obtain ⟨y, hy⟩ : ∃ y, md s x / 256 ^ j % 256 = y := ⟨_, rfl⟩
          have hy8 : y < 256 := by rw [← hy]; omega
          rw [hy] at HLE HMB
          obtain ⟨Y, hY⟩ : ∃ Y, X ++ le j (md s x) = Y := ⟨_, rfl⟩
          have hY0 : 0 < Y.length := by rw [← hY, ← HXX.out, List.length_append, List.length_append]; omega
          have hYl : Y.length ≤ 1009000 := by rw [← hY, List.length_append, le_len]; omega
          rw [hY] at HIV HIMO
          have HYY := hide hY
          obtain ⟨g0, c0, rfl⟩ := HIV.out.slice hY0
          obtain ⟨m, hm⟩ : ∃ m, 8 * j = m := ⟨_, rfl⟩
          have hwm : IntKind.i64.wrap (8 * (j : Int)) = (m : Int) := by rw [IntKind.wrap_i64]; omega
          have hm24 : m ≤ 24 := by omega
          rw [hm] at HMB
          clear himo hkp hbk hiv hy hY
          go_wp2
          have him1 : ∀ o, ImV (wr.alloc o).drew F (.slice (some ⟨g0, 0, none⟩) Y.length c0) Y := fun o => HIV.out.below ((Below.refl _ _).alloc (Nat.le_refl _) o).drew
          have HIM1 := hide him1
          clear him1
          have y2 : ∀ o, (wr.alloc o).cell? ⟨P, 0, none⟩ = some (.slice (some ⟨g0, 0, none⟩) Y.length c0) := fun o => ((HBK.out.alloc o).cell 0)
          go_region_law (first
            | (refine step_app_im rfl (.tmp 23) (.tmp 29) rfl F (.slice (some ⟨g0, 0, none⟩) Y.length c0) Y rfl (HIM1.out _) wr.heap.size 0 1 [y] rfl ?news (Nat.zero_lt_one) ?len ?bas ?_
               case news => (intro q hq; obtain rfl : q = 0 := (by simp only [List.length_cons, List.length_nil] at hq; omega); refine (Blk.cell (cs := #[_]) (Blk.new _ _ _) 0).trans ?_; rw [IntKind.wrap_u8', HMB.out]; rfl)
               case len => (simp only [List.length_cons, List.length_nil]; omega)
               case bas => (show F ≤ (wr.alloc _).heap.size; rw [World.size_alloc]; omega)
               intro v' w' l' hl' ho hbs hbl
               have hl1 : 0 < l'.length := (by rw [hl'.out, List.length_append]; omega)
               obtain ⟨g1, c1, rfl, _⟩ := own_slice ho hl1
               have HO := hide ho
               have HBS := hide hbs
               have HBL := hide hbl
               have HP1 := hide (hbs P _ _ (by decide) (HBK.out.alloc _))
               have z0 := HP1.out.cell 0
               have z1 := HP1.out.frozen 0
               simp only [List.getElem?_toArray, List.getElem?_cons_zero] at z0
               clear ho hbs hbl y0 y1))
          all_goals
            have HKS : Hid (Kp P w (w'.setCell ⟨P, 0, none⟩ (.slice (some ⟨g1, 0, none⟩) l'.length c1))) := (Kp.app (Kp.alloc HK.out (by omega) _).drew (by omega) HBS.out HBL.out).set HP1.out (Nat.le_refl _) 0 _
            have HLL : Hid (l' = X ++ le (j + 1) (md s x)) := by
              show _ = _
              rw [hl'.out, HLE.out, ← HYY.out, List.append_assoc]
            have HOS : Hid (ImO (w'.setCell ⟨P, 0, none⟩ (.slice (some ⟨g1, 0, none⟩) l'.length c1)) P F (X ++ le (j + 1) (md s x))) := by
              show ImO _ _ _ _
              have h := im_set HO.out hPF HP1.out
              revert h
              generalize w'.setCell ⟨P, 0, none⟩ (.slice (some ⟨g1, 0, none⟩) l'.length c1) = V
              rw [HLL.out]
              exact fun h => h
            clear z0 z1 y2 hm hwm
            go_wp2
            go_roundw
            case rel => exact ⟨j + 1, by omega, by go_num, HOS.out.im, fun _ => HOS.out, HKS.out⟩
            case measure => simp [intOf]; omega
        · have hjsi : ¬ (j : Int) < (s : Int) := by omega
          obtain rfl : j = s := by omega
          have HOS := hide (himo (by omega))
          have HLL : Hid (X ++ le j (md j x) = l ++ nLs j L (k + 1)) := by
            show _ = _
            rw [HNL.out, ← HXX.out, List.append_assoc]
          rw [HLL.out] at HOS
          clear him himo hkp
          go_wp2
          go_roundw
          case rel => exact ⟨k + 1, by omega, by go_num, HOS.out.im, fun _ => HOS.out, HK.out⟩
          case measure => simp [intOf]; omega
    · have hge : ¬ (k : Int) < (L.length : Int) := by omega
      obtain rfl : k = L.length := by omega
      clear hkp
      go_wp2
      go_end0
      exact ⟨rfl, HIMO.out hL0, HK.out⟩
end Go.Proofs.YtpnocklldlacjaaDoor
