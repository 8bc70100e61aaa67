/-
  Plainly: the image of tables.
  The walks of spec's reader: l7take, l7num.
-/
import Derived.Test.YtpnocklldlacjaaDoorJDecodeImageTK
import Derived.Test.YtpnocklldlacjaaDoorJDecodeImagePH
import Derived.BigQuiet
import Derived.Deep.QuietTactic
namespace Go.Proofs.YtpnocklldlacjaaDoor
open Go.RowKit

/-- The n lowest bytes of v. -/
def le : Nat → Nat → List Nat
  | 0, _ => []
  | n + 1, v => v % 256 :: le n (v / 256)
theorem le_len : ∀ n v, (le n v).length = n
  | 0, _ => rfl
  | n + 1, v => by show (v % 256 :: le n (v / 256)).length = _; rw [List.length_cons, le_len n]
theorem le_lo : ∀ n v, Lo (le n v)
  | 0, _ => Lo.nil
  | n + 1, v => Lo.cons (by omega) (le_lo n _)
theorem le_snoc : ∀ n v, le (n + 1) v = le n v ++ [v / 256 ^ n % 256]
  | 0, v => by show [v % 256] = [] ++ [v / 256 ^ 0 % 256]; simp
  | n + 1, v => by
    show v % 256 :: le (n + 1) (v / 256) = (v % 256 :: le n (v / 256)) ++ _
    rw [le_snoc n (v / 256), List.cons_append, Nat.div_div_eq_div_mul, ← Nat.pow_succ']
/-- The bytes of a text as numbers. -/
def nb (s : ByteArray) : List Nat := s.data.toList.map fun c => c.toNat
theorem nb_len (s : ByteArray) : (nb s).length = s.size := by unfold nb; rw [List.length_map]; rfl
theorem nb_lo (s : ByteArray) : Lo (nb s) := fun x hx => by
  unfold nb at hx
  obtain ⟨c, _, rfl⟩ := List.mem_map.1 hx
  exact c.toNat_lt
theorem nb_at (s : ByteArray) {j : Nat} (h : j < s.size) : (nb s).getD j 0 = (s.get! j).toNat := by
  unfold nb
  rw [Utf8W.get!_of_lt _ j h, List.getD_eq_getElem?_getD, List.getElem?_map]
  have h' : j < s.data.toList.length := h
  rw [List.getElem?_eq_getElem h']
  rfl
/-- The head. -/
def imH (d : Tb) : List Nat := ((([87, 72, 76, 49] ++ le 2 d.w.toNat) ++ le 2 d.h.toNat) ++ le 2 d.targets.length)
/-- A target. -/
def imT (t : Tg) : List Nat := (([t.kind.toNat] ++ le 2 t.cell.toNat) ++ [t.name.size]) ++ nb t.name
def imTs (L : List Tg) : Nat → List Nat
  | 0 => []
  | k + 1 => imTs L k ++ imT (L.getD k .zero)
/-- A distance. -/
def dv (x : Int) : Nat := if x < 0 then 65535 else x.toNat
def imD (D : List Int) : Nat → List Nat
  | 0 => []
  | c + 1 => imD D c ++ le 2 (dv (D.getD c 0))
theorem imD_len (D : List Int) : ∀ c, (imD D c).length = 2 * c
  | 0 => rfl
  | c + 1 => by show (imD D c ++ _).length = _; rw [List.length_append, imD_len D c, le_len]; omega
theorem imD_lo (D : List Int) : ∀ c, Lo (imD D c)
  | 0 => Lo.nil
  | c + 1 => Lo.app (imD_lo D c) (le_lo _ _)
/-- A target's row. -/
def imR (d : Tb) (i : Nat) : List Nat := pkL (d.hop.getD i []) (3 * (d.hop.getD i []).length) ++ imD (d.dist.getD i []) (d.dist.getD i []).length
def imRs (d : Tb) : Nat → List Nat
  | 0 => []
  | k + 1 => imRs d k ++ imR d k
/-- All but the checksum. -/
def imB (d : Tb) : List Nat := imH d ++ imTs d.targets d.targets.length ++ imRs d d.targets.length
/-- The image. -/
def im (d : Tb) : List Nat := imB d ++ le 4 (crc (byt (imB d)))
open Classical in
/-- What EncodeImage answers. -/
noncomputable def eiF (d : Tb) : ByteArray := if TbOk d then byt (im d) else ByteArray.empty
theorem eiF_no {d : Tb} (h : ¬ TbOk d) : eiF d = ByteArray.empty := if_neg h
theorem eiF_yes {d : Tb} (h : TbOk d) : eiF d = byt (im d) := if_pos h
theorem imT_len (t : Tg) : (imT t).length = 4 + t.name.size := by
  unfold imT
  simp only [List.length_append, le_len, nb_len, List.length_cons, List.length_nil]
theorem imTs_len {c : Int} {L : List Tg} (h : TgsOk c L) : ∀ k, k ≤ L.length → (imTs L k).length ≤ 64 * k
  | 0, _ => Nat.le_refl _
  | k + 1, hk => by
    have h1 := imTs_len h k (by omega)
    have h2 := (h.each k (by omega)).s1
    show (imTs L k ++ _).length ≤ _
    rw [List.length_append, imT_len]
    omega
theorem imR_len {d : Tb} (h : TbOk d) {i : Nat} (hi : i < d.targets.length) : (imR d i).length ≤ 3900 := by
  have h1 := (h.rows i hi).dl
  have h2 := (h.rows i hi).pl
  have h3 : d.w * d.h ≤ 40 * 40 := Int.mul_le_mul h.w1 h.h1 (by have := h.h0; omega) (by omega)
  unfold imR
  rw [List.length_append, pkL_len, imD_len]
  unfold pkN
  omega
theorem imRs_len {d : Tb} (h : TbOk d) : ∀ k, k ≤ d.targets.length → (imRs d k).length ≤ 3900 * k
  | 0, _ => Nat.le_refl _
  | k + 1, hk => by
    have h1 := imRs_len h k (by omega)
    have h2 := imR_len h (i := k) (by omega)
    show (imRs d k ++ _).length ≤ _
    rw [List.length_append]
    omega
theorem imH_len (d : Tb) : (imH d).length = 10 := by
  unfold imH
  simp only [List.length_append, le_len, List.length_cons, List.length_nil]
theorem imB_len {d : Tb} (h : TbOk d) : (imB d).length ≤ 120000 := by
  have h0 := h.tg.len
  have h1 := imTs_len h.tg _ (Nat.le_refl _)
  have h2 := imRs_len h _ (Nat.le_refl _)
  unfold imB
  rw [List.length_append, List.length_append, imH_len]
  omega
theorem eiF_size (d : Tb) : (eiF d).size ≤ 1048576 := by
  by_cases h : TbOk d
  · rw [eiF_yes h, byt_size]
    have := imB_len h
    unfold im
    rw [List.length_append, le_len]
    omega
  · rw [eiF_no h]; exact Nat.zero_le _
theorem imT_lo {c : Int} {t : Tg} (h : TgOk c t) : Lo (imT t) := by
  have h1 := h.k0
  have h2 := h.k1
  have h3 := h.s1
  exact Lo.app (Lo.app (Lo.app (Lo.one (by omega)) (le_lo _ _)) (Lo.one (by omega))) (nb_lo _)
theorem imTs_lo {c : Int} {L : List Tg} (h : TgsOk c L) : ∀ k, k ≤ L.length → Lo (imTs L k)
  | 0, _ => Lo.nil
  | k + 1, hk => Lo.app (imTs_lo h k (by omega)) (imT_lo (h.each k (by omega)))
theorem imRs_lo (d : Tb) : ∀ k, Lo (imRs d k)
  | 0 => Lo.nil
  | k + 1 => Lo.app (imRs_lo d k) (Lo.app (pkL_lo _ _) (imD_lo _ _))
theorem imH_lo (d : Tb) : Lo (imH d) := Lo.app (Lo.app (Lo.app (fun x hx => by
    simp only [List.mem_cons, List.not_mem_nil, or_false] at hx
    omega) (le_lo _ _)) (le_lo _ _)) (le_lo _ _)
theorem imB_lo {d : Tb} (h : TbOk d) : Lo (imB d) := Lo.app (Lo.app (imH_lo d) (imTs_lo h.tg _ (Nat.le_refl _))) (imRs_lo d _)
theorem im_lo {d : Tb} (h : TbOk d) : Lo (im d) := Lo.app (imB_lo h) (le_lo _ _)
end Go.Proofs.YtpnocklldlacjaaDoor

namespace Go.Proofs.YtpnocklldlacjaaDoor
open Go.RowKit

/-- The reader's cells. -/
def Rd (w : World) (g : Nat) (v : Value) (p : Nat) (bad : Bool) : Prop := Blk w g 69 #[v, .int .i64 p, .bool bad]
theorem Rd.at {w : World} {g : Nat} {v : Value} {p : Nat} {bad : Bool} (h : Rd w g v p bad) (q : Nat) : Rd (w.setCell ⟨g, 1, none⟩ (.int .i64 q)) g v q bad := by
  have := Blk.set h 1 (.int .i64 q)
  simpa [Rd] using this
theorem Rd.spoil {w : World} {g : Nat} {v : Value} {p : Nat} {bad : Bool} (h : Rd w g v p bad) : Rd (w.setCell ⟨g, 2, none⟩ (.bool true)) g v p true := by
  have := Blk.set h 2 (.bool true)
  simpa [Rd] using this

set_option maxHeartbeats 4000000 in
set_option maxRecDepth 1000000 in
theorem l7take_ok (g b o c N p n : Nat) (w : World) (hN : N ≤ 1048576) (hc : N ≤ c) (hpn : p + n ≤ N) (h : Rd w g (.slice (some ⟨b, o, none⟩) N c) p false) :
    Calls Tryd.prog 43 #[.pointer (some ⟨g, 0, none⟩), .int .i64 n] w fun e w' => ∃ a', e = .returned (.slice a' n (c - p)) ∧ (0 < n → a' = some ⟨b, o + p, none⟩) ∧ Rd w' g (.slice (some ⟨b, o, none⟩) N c) (p + n) false ∧ Wrs [g] w w' := by
  have z0 := Blk.cell h 0
  have z1 := Blk.cell h 1
  have z2 := Blk.cell h 2
  have f1 := Blk.frozen h 1
  simp only [List.getElem?_toArray, List.getElem?_cons_succ, List.getElem?_cons_zero] at z0 z1 z2
  have t1 : decide ((N : Int) - p < n) = false := decide_eq_false (by omega)
  have HH := hide h
  clear h
  go_enter Tryd.func43, Tryd.ntmps43
  go_wp2_with fail
  go_quiet (fail)
  have y0 : (w.drewN nq).cell? ⟨g, 0, none⟩ = some (.slice (some ⟨b, o, none⟩) N c) := z0
  have y1 : (w.drewN nq).cell? ⟨g, 1, none⟩ = some (.int .i64 p) := z1
  have g1 : (w.drewN nq).frozen? ⟨g, 1, none⟩ = false := f1
  have HRD : Hid (Rd (w.drewN nq) g (.slice (some ⟨b, o, none⟩) N c) p false) := HH.out.below (below_drewN (Below.refl _ _) nq)
  have HWR : Hid (Wrs [g] w (w.drewN nq)) := Wrs.of_below (below_drewN (Below.refl _ _) nq)
  obtain ⟨W, hW⟩ : ∃ W, w.drewN nq = W := ⟨_, rfl⟩
  rw [hW] at y0 y1 g1 HRD HWR ⊢
  clear hW z0 z1 z2 f1
  obtain ⟨q, hq⟩ : ∃ q, p + n = q := ⟨_, rfl⟩
  have hwr : IntKind.i64.wrap ((p : Int) + (n : Int)) = (q : Int) := by
    rw [IntKind.wrap_i64]; omega
  have hs0 : (p : Int) ≤ (q : Int) := by omega
  have hs1 : (q : Int) ≤ (c : Int) := by omega
  go_wp2_with fail
  go_quiet (fail)
  have hqp : q - p = n := by omega
  rw [hqp]
  obtain ⟨a', ha'⟩ : ∃ a' : Option Addr, (if c = p then some ⟨b, o, none⟩ else some ⟨b, o + p, none⟩) = a' := ⟨_, rfl⟩
  have HA : Hid (0 < n → a' = some ⟨b, o + p, none⟩) := fun hn => by rw [← ha', if_neg (by omega)]
  rw [ha']
  have x0 : (W.drewN nq).cell? ⟨g, 0, none⟩ = some (.slice (some ⟨b, o, none⟩) N c) := y0
  have x1 : (W.drewN nq).cell? ⟨g, 1, none⟩ = some (.int .i64 p) := y1
  have k1 : (W.drewN nq).frozen? ⟨g, 1, none⟩ = false := g1
  have HRE : Hid (Rd (W.drewN nq) g (.slice (some ⟨b, o, none⟩) N c) p false) := HRD.out.below (below_drewN (Below.refl _ _) nq)
  have HWS : Hid (Wrs [g] w (W.drewN nq)) := HWR.out.trans (Wrs.of_below (below_drewN (Below.refl _ _) nq))
  obtain ⟨V, hV⟩ : ∃ V, W.drewN nq = V := ⟨_, rfl⟩
  rw [hV] at x0 x1 k1 HRE HWS ⊢
  have HQ := hide hq
  clear hV y0 y1 g1 ha' hqp hq
  go_wp2
  go_ret
  refine ⟨_, rfl, HA.out, ?_, ?_⟩
  · rw [HQ.out]; exact HRE.out.at q
  · exact HWS.out.set (List.mem_singleton.2 rfl) _

set_option maxHeartbeats 4000000 in
set_option maxRecDepth 1000000 in
theorem l7take_no (g c N p n : Nat) (a : Option Addr) (bad : Bool) (w : World) (hN : N ≤ 1048576) (hp : p ≤ N) (_ : n ≤ 100000000) (hpn : bad = true ∨ N < p + n) (h : Rd w g (.slice a N c) p bad) :
    Calls Tryd.prog 43 #[.pointer (some ⟨g, 0, none⟩), .int .i64 n] w fun e w' => e = .returned (.slice none 0 0) ∧ Rd w' g (.slice a N c) p true ∧ Wrs [g] w w' := by
  have z0 := Blk.cell h 0
  have z1 := Blk.cell h 1
  have z2 := Blk.cell h 2
  have f2 := Blk.frozen h 2
  simp only [List.getElem?_toArray, List.getElem?_cons_succ, List.getElem?_cons_zero] at z0 z1 z2
  obtain ⟨t, ht⟩ : ∃ t, decide ((N : Int) - p < n) = t := ⟨_, rfl⟩
  have HT : Hid (bad = true ∨ t = true) := hpn.imp id fun h => by rw [← ht]; exact decide_eq_true (by omega)
  have HH := hide h
  clear h hpn
  go_enter Tryd.func43, Tryd.ntmps43
  go_wp2_with fail
  cases bad
  · obtain rfl : t = true := HT.out.elim (fun h => by cases h) id
    go_quiet (fail)
    have x2 : (w.drewN nq).cell? ⟨g, 2, none⟩ = some (.bool false) := z2
    have k2 : (w.drewN nq).frozen? ⟨g, 2, none⟩ = false := f2
    have HRE : Hid (Rd (w.drewN nq) g (.slice a N c) p false) := HH.out.below (below_drewN (Below.refl _ _) nq)
    have HWS : Hid (Wrs [g] w (w.drewN nq)) := Wrs.of_below (below_drewN (Below.refl _ _) nq)
    obtain ⟨V, hV⟩ : ∃ V, w.drewN nq = V := ⟨_, rfl⟩
    rw [hV] at x2 k2 HRE HWS ⊢
    clear hV z0 z1 z2 f2
    go_wp2
    go_ret
    exact ⟨rfl, HRE.out.spoil, HWS.out.set (List.mem_singleton.2 rfl) _⟩
  · go_quiet (fail)
    have x2 : (w.drewN nq).cell? ⟨g, 2, none⟩ = some (.bool true) := z2
    have k2 : (w.drewN nq).frozen? ⟨g, 2, none⟩ = false := f2
    have HRE : Hid (Rd (w.drewN nq) g (.slice a N c) p true) := HH.out.below (below_drewN (Below.refl _ _) nq)
    have HWS : Hid (Wrs [g] w (w.drewN nq)) := Wrs.of_below (below_drewN (Below.refl _ _) nq)
    obtain ⟨V, hV⟩ : ∃ V, w.drewN nq = V := ⟨_, rfl⟩
    rw [hV] at x2 k2 HRE HWS ⊢
    clear hV z0 z1 z2 f2
    go_wp2
    go_ret
    exact ⟨rfl, HRE.out.spoil, HWS.out.set (List.mem_singleton.2 rfl) _⟩
/-- A number of n bytes from p on, the least first. -/
def nv (f : Nat → Nat) : Nat → Nat → Nat
  | _, 0 => 0
  | p, n + 1 => f p + 256 * nv f (p + 1) n
theorem nv_lt {f : Nat → Nat} (hf : ∀ j, f j < 256) : ∀ n p, nv f p n < 256 ^ n
  | 0, _ => by simp [nv]
  | n + 1, p => by
    have h1 := nv_lt hf n (p + 1)
    have h2 := hf p
    simp only [nv, Nat.pow_succ]
    omega
theorem nv_le {f : Nat → Nat} (hf : ∀ j, f j < 256) {n : Nat} (p : Nat) (hn : n ≤ 4) : nv f p n ≤ 4294967295 := by
  have h1 := nv_lt hf n p
  have h2 : 256 ^ n ≤ 256 ^ 4 := Nat.pow_le_pow_right (by decide) hn
  omega

set_option maxHeartbeats 4000000 in
set_option maxRecDepth 1000000 in
theorem l7num_ok (g b o c p n : Nat) (s : ByteArray) (w : World) (hN : s.size ≤ 1048576) (hc : s.size ≤ c) (hn : n ≤ 4) (hpn : p + n ≤ s.size) (hgb : g ≠ b) (hs : ∀ j, j < s.size → w.cell? ⟨b, o + j, none⟩ = some (bts s j)) (h : Rd w g (.slice (some ⟨b, o, none⟩) s.size c) p false) :
    Calls Tryd.prog 42 #[.pointer (some ⟨g, 0, none⟩), .int .i64 n] w fun e w' => e = .returned (.int .i64 (nv (fun j => (s.get! j).toNat) p n : Nat)) ∧ Rd w' g (.slice (some ⟨b, o, none⟩) s.size c) (p + n) false ∧ Wrs [g] w w' := by
  have HT := hide (l7take_ok g b o c s.size p n w hN hc hpn h)
  have HS : Hid (∀ w', Wrs [g] w w' → ∀ j, j < s.size → w'.cell? ⟨b, o + j, none⟩ = some (bts s j)) := fun w' hw j hj => (World.cell?_of_block (w := w) (a := ⟨b, o + j, none⟩) (hw.blk b (World.block_lt_of_cell? _ _ (hs j hj)) (fun hm => hgb (List.mem_singleton.1 hm).symm))).trans (hs j hj)
  clear h hs
  obtain ⟨f, hf⟩ : ∃ f : Nat → Nat, (fun j => (s.get! j).toNat) = f := ⟨_, rfl⟩
  have HFV : Hid (∀ j, bts s j = .int .u8 (f j : Nat)) := fun j => by rw [← hf]; rfl
  have HF : Hid (∀ j, f j < 256) := fun j => by rw [← hf]; exact (s.get! j).toNat_lt
  rw [hf]
  clear hf
  go_enter Tryd.func42, Tryd.ntmps42
  go_wp2_with fail
  refine HT.out.mono ?_
  rintro e w2 ⟨a', rfl, ha, hr, hw⟩
  have HR := hide hr
  have HW := hide hw
  have HC := hide (HS.out w2 hw)
  clear hr hw HT HS
  have hw1 : IntKind.i64.wrap ((n : Int) - 1) = (n : Int) - 1 := by rw [IntKind.wrap_i64]; omega
  go_wp2
  go_loop [6, 7] (fun v i => ∃ m : Nat, m ≤ n ∧ i = .int .i64 ((m : Int) - 1) ∧ v = .int .i64 (nv f (p + m) (n - m) : Nat)) (fun _ i => (intOf i + 1).toNat)
  case atStart => exact ⟨n, Nat.le_refl _, rfl, by rw [Nat.sub_self]; rfl⟩
  case round =>
    obtain ⟨m, hm, rfl, rfl⟩ := hrel
    match m, hm with
    | 0, hm =>
      have t1 : decide ((0 : Int) ≤ ((0 : Nat) : Int) - 1) = false := by decide
      go_wp2
      go_ret
      exact ⟨rfl, HR.out, HW.out⟩
    | k + 1, hm =>
      obtain rfl := ha (by omega)
      have hi : (((k + 1 : Nat) : Int) - 1) = (k : Int) := by omega
      have hb := nv_le HF.out (n := n - (k + 1)) (p + (k + 1)) (by omega)
      have hfk := HF.out (p + k)
      have HV : Hid (nv f (p + k) (n - k) = nv f (p + (k + 1)) (n - (k + 1)) * 256 + f (p + k)) := by
        have e : n - k = (n - (k + 1)) + 1 := by omega
        show _ = _
        rw [e]
        simp only [nv]
        rw [Nat.add_assoc p k 1]
        omega
      have g1 : w2.cell? ⟨b, o + p + k, none⟩ = some (.int .u8 (f (p + k) : Nat)) := by
        rw [Nat.add_assoc, HC.out (p + k) (by omega), HFV.out]
      obtain ⟨y, hy⟩ : ∃ y, nv f (p + (k + 1)) (n - (k + 1)) = y := ⟨_, rfl⟩
      obtain ⟨z, hz⟩ : ∃ z, f (p + k) = z := ⟨_, rfl⟩
      rw [hy, hz] at HV
      rw [hy] at hb ⊢
      rw [hz] at g1 hfk
      rw [hi]
      have hkn : (k : Int) < (n : Int) := by omega
      clear hy hz hi
      go_wp2
      go_round
      case rel => exact ⟨k, by omega, by go_num, by rw [HV.out]; go_num⟩
      case measure => simp [intOf]

set_option maxHeartbeats 4000000 in
set_option maxRecDepth 1000000 in
theorem l7num_no (g c N p n : Nat) (a : Option Addr) (bad : Bool) (w : World) (hN : N ≤ 1048576) (hp : p ≤ N) (hn : n ≤ 4) (hpn : bad = true ∨ N < p + n) (h : Rd w g (.slice a N c) p bad) :
    Calls Tryd.prog 42 #[.pointer (some ⟨g, 0, none⟩), .int .i64 n] w fun e w' => e = .returned (.int .i64 0) ∧ Rd w' g (.slice a N c) p true ∧ Wrs [g] w w' := by
  have HT := hide (l7take_no g c N p n a bad w hN hp (by omega) hpn h)
  clear h
  go_enter Tryd.func42, Tryd.ntmps42
  go_wp2_with fail
  refine HT.out.mono ?_
  rintro e w2 ⟨rfl, hr, hw⟩
  have HR := hide hr
  have HW := hide hw
  clear hr hw HT
  go_wp2
  go_loop [6, 7] (fun v i => i = .int .i64 (-1) ∧ v = .int .i64 0) (fun _ _ => 0)
  case atStart => exact ⟨rfl, rfl⟩
  case round =>
    obtain ⟨rfl, rfl⟩ := hrel
    go_wp2
    go_ret
    exact ⟨rfl, HR.out, HW.out⟩
end Go.Proofs.YtpnocklldlacjaaDoor
