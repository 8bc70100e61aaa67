/-
  Plainly: the image of tables.
  The walk of l7little.
-/
import Derived.Test.YtpnocklldlacjaaDoorJEncodeImageTK
import Derived.Test.YtpnocklldlacjaaDoorJEncodeImagePH
namespace Go.Proofs.YtpnocklldlacjaaDoor
open Go.RowKit

/-- The n lowest bytes of v. -/
def le : Nat → Nat → List Nat
  | 0, _ => []
  | n + 1, v => v % 256 :: le n (v / 256)
theorem le_len : ∀ n v, (le n v).length = n
  | 0, _ => rfl
  | n + 1, v => by show (v % 256 :: le n (v / 256)).length = _; rw [List.length_cons, le_len n]
theorem le_lo : ∀ n v, Lo (le n v)
  | 0, _ => Lo.nil
  | n + 1, v => Lo.cons (by omega) (le_lo n _)
theorem le_snoc : ∀ n v, le (n + 1) v = le n v ++ [v / 256 ^ n % 256]
  | 0, v => by show [v % 256] = [] ++ [v / 256 ^ 0 % 256]; simp
  | n + 1, v => by
    show v % 256 :: le (n + 1) (v / 256) = (v % 256 :: le n (v / 256)) ++ _
    rw [le_snoc n (v / 256), List.cons_append, Nat.div_div_eq_div_mul, ← Nat.pow_succ']
/-- The bytes of a text as numbers. -/
def nb (s : ByteArray) : List Nat := s.data.toList.map fun c => c.toNat
theorem nb_len (s : ByteArray) : (nb s).length = s.size := by unfold nb; rw [List.length_map]; rfl
theorem nb_lo (s : ByteArray) : Lo (nb s) := fun x hx => by
  unfold nb at hx
  obtain ⟨c, _, rfl⟩ := List.mem_map.1 hx
  exact c.toNat_lt
theorem nb_at (s : ByteArray) {j : Nat} (h : j < s.size) : (nb s).getD j 0 = (s.get! j).toNat := by
  unfold nb
  rw [Utf8W.get!_of_lt _ j h, List.getD_eq_getElem?_getD, List.getElem?_map]
  have h' : j < s.data.toList.length := h
  rw [List.getElem?_eq_getElem h']
  rfl
/-- The head. -/
def imH (d : Tb) : List Nat := ((([87, 72, 76, 49] ++ le 2 d.w.toNat) ++ le 2 d.h.toNat) ++ le 2 d.targets.length)
/-- A target. -/
def imT (t : Tg) : List Nat := (([t.kind.toNat] ++ le 2 t.cell.toNat) ++ [t.name.size]) ++ nb t.name
def imTs (L : List Tg) : Nat → List Nat
  | 0 => []
  | k + 1 => imTs L k ++ imT (L.getD k .zero)
/-- A distance. -/
def dv (x : Int) : Nat := if x < 0 then 65535 else x.toNat
def imD (D : List Int) : Nat → List Nat
  | 0 => []
  | c + 1 => imD D c ++ le 2 (dv (D.getD c 0))
theorem imD_len (D : List Int) : ∀ c, (imD D c).length = 2 * c
  | 0 => rfl
  | c + 1 => by show (imD D c ++ _).length = _; rw [List.length_append, imD_len D c, le_len]; omega
theorem imD_lo (D : List Int) : ∀ c, Lo (imD D c)
  | 0 => Lo.nil
  | c + 1 => Lo.app (imD_lo D c) (le_lo _ _)
/-- A target's row. -/
def imR (d : Tb) (i : Nat) : List Nat := pkL (d.hop.getD i []) (3 * (d.hop.getD i []).length) ++ imD (d.dist.getD i []) (d.dist.getD i []).length
def imRs (d : Tb) : Nat → List Nat
  | 0 => []
  | k + 1 => imRs d k ++ imR d k
/-- All but the checksum. -/
def imB (d : Tb) : List Nat := imH d ++ imTs d.targets d.targets.length ++ imRs d d.targets.length
/-- The image. -/
def im (d : Tb) : List Nat := imB d ++ le 4 (crc (byt (imB d)))
open Classical in
/-- What EncodeImage answers. -/
noncomputable def eiF (d : Tb) : ByteArray := if TbOk d then byt (im d) else ByteArray.empty
theorem eiF_no {d : Tb} (h : ¬ TbOk d) : eiF d = ByteArray.empty := if_neg h
theorem eiF_yes {d : Tb} (h : TbOk d) : eiF d = byt (im d) := if_pos h
theorem imT_len (t : Tg) : (imT t).length = 4 + t.name.size := by
  unfold imT
  simp only [List.length_append, le_len, nb_len, List.length_cons, List.length_nil]
theorem imTs_len {c : Int} {L : List Tg} (h : TgsOk c L) : ∀ k, k ≤ L.length → (imTs L k).length ≤ 64 * k
  | 0, _ => Nat.le_refl _
  | k + 1, hk => by
    have h1 := imTs_len h k (by omega)
    have h2 := (h.each k (by omega)).s1
    show (imTs L k ++ _).length ≤ _
    rw [List.length_append, imT_len]
    omega
theorem imR_len {d : Tb} (h : TbOk d) {i : Nat} (hi : i < d.targets.length) : (imR d i).length ≤ 3900 := by
  have h1 := (h.rows i hi).dl
  have h2 := (h.rows i hi).pl
  have h3 : d.w * d.h ≤ 40 * 40 := Int.mul_le_mul h.w1 h.h1 (by have := h.h0; omega) (by omega)
  unfold imR
  rw [List.length_append, pkL_len, imD_len]
  unfold pkN
  omega
theorem imRs_len {d : Tb} (h : TbOk d) : ∀ k, k ≤ d.targets.length → (imRs d k).length ≤ 3900 * k
  | 0, _ => Nat.le_refl _
  | k + 1, hk => by
    have h1 := imRs_len h k (by omega)
    have h2 := imR_len h (i := k) (by omega)
    show (imRs d k ++ _).length ≤ _
    rw [List.length_append]
    omega
theorem imH_len (d : Tb) : (imH d).length = 10 := by
  unfold imH
  simp only [List.length_append, le_len, List.length_cons, List.length_nil]
theorem imB_len {d : Tb} (h : TbOk d) : (imB d).length ≤ 120000 := by
  have h0 := h.tg.len
  have h1 := imTs_len h.tg _ (Nat.le_refl _)
  have h2 := imRs_len h _ (Nat.le_refl _)
  unfold imB
  rw [List.length_append, List.length_append, imH_len]
  omega
theorem eiF_size (d : Tb) : (eiF d).size ≤ 1048576 := by
  by_cases h : TbOk d
  · rw [eiF_yes h, byt_size]
    have := imB_len h
    unfold im
    rw [List.length_append, le_len]
    omega
  · rw [eiF_no h]; exact Nat.zero_le _
theorem imT_lo {c : Int} {t : Tg} (h : TgOk c t) : Lo (imT t) := by
  have h1 := h.k0
  have h2 := h.k1
  have h3 := h.s1
  exact Lo.app (Lo.app (Lo.app (Lo.one (by omega)) (le_lo _ _)) (Lo.one (by omega))) (nb_lo _)
theorem imTs_lo {c : Int} {L : List Tg} (h : TgsOk c L) : ∀ k, k ≤ L.length → Lo (imTs L k)
  | 0, _ => Lo.nil
  | k + 1, hk => Lo.app (imTs_lo h k (by omega)) (imT_lo (h.each k (by omega)))
theorem imRs_lo (d : Tb) : ∀ k, Lo (imRs d k)
  | 0 => Lo.nil
  | k + 1 => Lo.app (imRs_lo d k) (Lo.app (pkL_lo _ _) (imD_lo _ _))
theorem imH_lo (d : Tb) : Lo (imH d) := Lo.app (Lo.app (Lo.app (fun x hx => by
    simp only [List.mem_cons, List.not_mem_nil, or_false] at hx
    omega) (le_lo _ _)) (le_lo _ _)) (le_lo _ _)
theorem imB_lo {d : Tb} (h : TbOk d) : Lo (imB d) := Lo.app (Lo.app (imH_lo d) (imTs_lo h.tg _ (Nat.le_refl _))) (imRs_lo d _)
theorem im_lo {d : Tb} (h : TbOk d) : Lo (im d) := Lo.app (imB_lo h) (le_lo _ _)
end Go.Proofs.YtpnocklldlacjaaDoor

namespace Go.Proofs.YtpnocklldlacjaaDoor
open Go.RowKit

set_option maxHeartbeats 1000000 in
set_option maxRecDepth 1000000 in
theorem l7little_any (v n : Nat) (w : World) (hv : v ≤ 4294967296) (hn : n ≤ 8) :
    Calls Tryd.prog 61 #[.int .i64 v, .int .i64 n] w fun x w' => ∃ u, x = .returned u ∧ w'.ownsRow w.heap.size 5 1 u (le n v).length (cv (le n v)) ∧ Below w.heap.size w w' := by
  go_enter Tryd.func61, Tryd.ntmps61
  go_wp2
  go_loopw [0, 5, 6] (fun x out ix wr => ∃ k : Nat, k ≤ n ∧ ix = .int .i64 k ∧ x = .int .i64 ((v / 256 ^ k : Nat) : Int) ∧ wr.ownsRow w.heap.size 5 1 out (le k v).length (cv (le k v)) ∧ Below w.heap.size w wr) (fun _ _ ix _ => n - (intOf ix).toNat)
  case atStart => exact ⟨0, Nat.zero_le _, rfl, by simp, World.ownsRow_nil _ _ _ _, Below.refl _ _⟩
  case round =>
    obtain ⟨k, hk, rfl, rfl, hown, hb⟩ := hrel
    have HO := hide hown
    have HB := hide hb
    have hwr := hb.size
    have HS := hide (le_snoc k v)
    obtain ⟨z, hz⟩ : ∃ z, v / 256 ^ k = z := ⟨_, rfl⟩
    have hzv : z ≤ 4294967296 := by rw [← hz]; exact Nat.le_trans (Nat.div_le_self _ _) hv
    obtain ⟨y, hy⟩ : ∃ y, v / 256 ^ (k + 1) = y := ⟨_, rfl⟩
    have hyz : y = z / 256 := by rw [← hy, ← hz, Nat.pow_succ, Nat.div_div_eq_div_mul]
    have HY := hide hy
    have hyb : y ≤ 4294967296 := by omega
    have hdv : ((z : Nat) : Int).tdiv 256 = (y : Nat) := by rw [Int.tdiv_eq_ediv_of_nonneg (by omega), hyz]; omega
    obtain ⟨r, hr⟩ : ∃ r, z % 256 = r := ⟨_, rfl⟩
    have hmd : ((z : Nat) : Int).tmod 256 = (r : Nat) := by rw [Int.tmod_eq_emod_of_nonneg (by omega), ← hr]; omega
    have hr8 : r < 256 := by omega
    rw [hz, hr] at HS
    rw [hz]
    obtain ⟨X, hX⟩ : ∃ X, le k v = X := ⟨_, rfl⟩
    rw [hX] at HO HS
    have HE0 := hide hX
    have HXL : Hid (X.length = k) := by show _ = _; rw [← hX, le_len]
    clear hz hy hyz hr hown hb hX
    by_cases hlt : k < n
    · have hlti : (k : Int) < (n : Int) := by omega
      go_wp2_with (at_builtin; refine wp_app rfl _ _ rfl w.heap.size _ X rfl (HO.out.alloc _) wr.heap.size 1 [r] rfl ?n1 ?l1 ?b1 ?_)
      case n1 =>
        intro j hj
        obtain rfl : j = 0 := by simp at hj; omega
        exact (Blk.new _ _ _).cell 0
      case l1 => have := HXL.out; first | omega | (simp; omega)
      case b1 => first | omega | (simp; omega)
      intro v' w3 l hl3 ho hg
      have HO3 := hide ho
      have HB3 : Hid (Below w.heap.size w w3) := app_below (HB.out.alloc hwr _) (HO.out.alloc _) (by simp; omega) hg
      have HL := hl3
      clear ho hg hl3
      go_wp2
      go_roundw
      case rel => exact ⟨k + 1, by omega, by go_num, by rw [HY.out], by rw [HS.out, ← HL.out]; exact HO3.out, HB3.out⟩
      case measure => simp [intOf]; omega
    · have hlti : ¬ (k : Int) < (n : Int) := by omega
      obtain rfl : k = n := by omega
      go_wp2
      go_ret
      exact ⟨_, rfl, by rw [HE0.out]; exact HO.out, HB.out⟩
end Go.Proofs.YtpnocklldlacjaaDoor
