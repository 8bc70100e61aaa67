/-
  Plainly: where an image's parts lie.
  Plainly: the targets are read back.
  Plainly: a row's distances are read back.
  Plainly: bytes as hops.
-/
import Derived.Test.YtpnocklldlacjaaDoorJDecodeImageIMD
import Derived.Test.YtpnocklldlacjaaDoorJDecodeImagePH
namespace Go.Proofs.YtpnocklldlacjaaDoor
open Go.RowKit

/-- From p on the numbers are those of l. -/
def Lies (f : Nat → Nat) (p : Nat) (l : List Nat) : Prop := ∀ j, j < l.length → f (p + j) = l.getD j 0
theorem Lies.left {f : Nat → Nat} {p : Nat} {a b : List Nat} (h : Lies f p (a ++ b)) : Lies f p a := fun j hj => by
  rw [h j (by rw [List.length_append]; omega), List.getD_eq_getElem?_getD, List.getElem?_append_left hj, ← List.getD_eq_getElem?_getD]
theorem Lies.right {f : Nat → Nat} {p : Nat} {a b : List Nat} (h : Lies f p (a ++ b)) : Lies f (p + a.length) b := fun j hj => by
  have := h (a.length + j) (by rw [List.length_append]; omega)
  rw [Nat.add_assoc, this, List.getD_eq_getElem?_getD, List.getElem?_append_right (by omega), Nat.add_sub_cancel_left, ← List.getD_eq_getElem?_getD]
theorem Lies.head {f : Nat → Nat} {p x : Nat} {l : List Nat} (h : Lies f p (x :: l)) : f p = x := by
  have := h 0 (by simp)
  simpa using this
theorem Lies.tail {f : Nat → Nat} {p x : Nat} {l : List Nat} (h : Lies f p (x :: l)) : Lies f (p + 1) l := fun j hj => by
  have := h (j + 1) (by simpa using hj)
  rw [Nat.add_assoc, Nat.add_comm 1 j, this]
  simp
/-- A number that lies there is read. -/
theorem nv_lies {f : Nat → Nat} : ∀ n p v, v < 256 ^ n → Lies f p (le n v) → nv f p n = v
  | 0, _, v, hv, _ => by simp only [nv]; simp at hv; omega
  | n + 1, p, v, hv, h => by
    have h1 : f p = v % 256 := Lies.head (l := le n (v / 256)) h
    have h2 := nv_lies n (p + 1) (v / 256) (by rw [Nat.pow_succ] at hv; exact Nat.div_lt_of_lt_mul (by omega)) (Lies.tail (x := v % 256) h)
    simp only [nv]
    rw [h1, h2]
    omega
theorem lies_nb {s t : ByteArray} {p : Nat} (h : Lies (fun j => (s.get! j).toNat) p (nb t)) {j : Nat} (hj : j < t.size) : s.get! (p + j) = t.get! j := by
  have h1 := h j (by rw [nb_len]; exact hj)
  rw [nb_at t hj] at h1
  exact UInt8.toNat_inj.1 h1
theorem lies_byt {L : List Nat} (hl : Lo L) : Lies (fun j => ((byt L).get! j).toNat) 0 L := fun j hj => by
  rw [Nat.zero_add]
  have h := byt_bts hl hj
  unfold bts at h
  have h' := (Value.int.inj h).2
  exact Int.ofNat_inj.1 h'
/-- What lies at p in a text that begins there. -/
theorem Lies.of_eq {f g : Nat → Nat} {p : Nat} {l : List Nat} (h : Lies f p l) (he : ∀ j, f j = g j) : Lies g p l := fun j hj => by rw [← he]; exact h j hj
end Go.Proofs.YtpnocklldlacjaaDoor

namespace Go.Proofs.YtpnocklldlacjaaDoor
open Go.RowKit

/-- A number read. -/
def rn (f : Nat → Nat) (N : Nat) (st : Nat × Bool) (n : Nat) : Nat × (Nat × Bool) := if st.2 = true ∨ N < st.1 + n then (0, (st.1, true)) else (nv f st.1 n, (st.1 + n, false))
/-- A text read. -/
def rb (f : Nat → Nat) (N : Nat) (st : Nat × Bool) (n : Nat) : ByteArray × (Nat × Bool) := if st.2 = true ∨ N < st.1 + n then (ByteArray.empty, (st.1, true)) else (byt ((List.range n).map fun j => f (st.1 + j)), (st.1 + n, false))
/-- A target read. -/
def rT (f : Nat → Nat) (N : Nat) (st : Nat × Bool) : Tg × (Nat × Bool) :=
  ⟨⟨(rb f N (rn f N (rn f N (rn f N st 1).2 2).2 1).2 (rn f N (rn f N (rn f N st 1).2 2).2 1).1).1, ((rn f N st 1).1 : Nat), ((rn f N (rn f N st 1).2 2).1 : Nat)⟩, (rb f N (rn f N (rn f N (rn f N st 1).2 2).2 1).2 (rn f N (rn f N (rn f N st 1).2 2).2 1).1).2⟩
/-- The first k targets read. -/
def rTs (f : Nat → Nat) (N : Nat) (st : Nat × Bool) : Nat → List Tg × (Nat × Bool)
  | 0 => ([], st)
  | k + 1 => ((rTs f N st k).1 ++ [(rT f N (rTs f N st k).2).1], (rT f N (rTs f N st k).2).2)

theorem rn_ok {f : Nat → Nat} {N p n v : Nat} (hv : v < 256 ^ n) (hN : p + n ≤ N) (h : Lies f p (le n v)) : rn f N (p, false) n = (v, (p + n, false)) := by
  unfold rn
  rw [if_neg (by simp; omega), nv_lies n p v hv h]
theorem byt_nb (s : ByteArray) : byt (nb s) = s := by
  obtain ⟨⟨l⟩⟩ := s
  unfold byt nb
  have e : ((fun n => UInt8.ofNat n) ∘ fun (c : UInt8) => c.toNat) = id := by funext c; simp
  simp only [List.map_map, e, List.map_id]
theorem rb_ok {f : Nat → Nat} {N p : Nat} {t : ByteArray} (hN : p + t.size ≤ N) (h : Lies f p (nb t)) : rb f N (p, false) t.size = (t, (p + t.size, false)) := by
  unfold rb
  rw [if_neg (by simp; omega)]
  have e : ((List.range t.size).map fun j => f (p + j)) = nb t := by
    refine List.ext_getElem (by rw [List.length_map, List.length_range, nb_len]) fun j h1 h2 => ?_
    rw [List.getElem_map, List.getElem_range, h j h2, List.getD_eq_getElem?_getD, List.getElem?_eq_getElem h2]
    rfl
  show (byt ((List.range t.size).map fun j => f (p + j)), _) = _
  rw [e, byt_nb]
theorem rT_ok {f : Nat → Nat} {N p : Nat} {t : Tg} (hk : 0 ≤ t.kind) (hk1 : t.kind < 256) (hc : 0 ≤ t.cell) (hc1 : t.cell < 65536) (hs : t.name.size < 256) (hN : p + (imT t).length ≤ N) (h : Lies f p (imT t)) : rT f N (p, false) = (t, (p + (imT t).length, false)) := by
  rw [imT_len] at hN ⊢
  unfold imT at h
  have a1 : Lies f p (le 1 t.kind.toNat) := by
    have := h.left.left.left
    have e : le 1 t.kind.toNat = [t.kind.toNat] := by show [t.kind.toNat % 256] = _; rw [Nat.mod_eq_of_lt (by omega)]
    rw [e]; exact this
  have a2 : Lies f (p + 1) (le 2 t.cell.toNat) := h.left.left.right
  have a3 : Lies f (p + 1 + 2) (le 1 t.name.size) := by
    have := h.left.right
    rw [List.length_append, le_len] at this
    have e : le 1 t.name.size = [t.name.size] := by show [t.name.size % 256] = _; rw [Nat.mod_eq_of_lt hs]
    rw [e]; exact this
  have a4 : Lies f (p + 1 + 2 + 1) (nb t.name) := by
    have := h.right
    rw [List.length_append, List.length_append, le_len] at this
    exact this
  have e1 := rn_ok (N := N) (by show _ < 256; omega) (by omega) a1
  have e2 := rn_ok (N := N) (by show _ < 65536; omega) (by omega) a2
  have e3 := rn_ok (N := N) (by show _ < 256; omega) (by omega) a3
  have e4 := rb_ok (N := N) (by omega) a4
  unfold rT
  rw [e1]
  simp only
  rw [e2]
  simp only
  rw [e3]
  simp only
  rw [e4]
  obtain ⟨tn, tk, tc⟩ := t
  simp only at hk hc ⊢
  rw [Int.toNat_of_nonneg hk, Int.toNat_of_nonneg hc]
  congr 2
  omega
theorem rTs_ok {f : Nat → Nat} {N p : Nat} {c : Int} {L : List Tg} (hL : TgsOk c L) (hc : c ≤ 1600) : ∀ k, k ≤ L.length → p + (imTs L k).length ≤ N → Lies f p (imTs L k) → rTs f N (p, false) k = (L.take k, (p + (imTs L k).length, false))
  | 0, _, _, _ => by simp [rTs, imTs]
  | k + 1, hk, hN, h => by
    have e : (imTs L (k + 1)).length = (imTs L k).length + (imT (L.getD k .zero)).length := by show (imTs L k ++ _).length = _; rw [List.length_append]
    rw [e] at hN ⊢
    have ih := rTs_ok (f := f) (N := N) (p := p) hL hc k (by omega) (by omega) (Lies.left (b := imT (L.getD k .zero)) h)
    have ht := hL.each k (by omega)
    have h0 := ht.k0; have h1 := ht.k1; have h2 := ht.c0; have h3 := ht.c1; have h4 := ht.s1
    have hr := rT_ok (f := f) (N := N) (p := p + (imTs L k).length) h0 (by omega) h2 (by omega) (by omega) (by omega) (Lies.right (a := imTs L k) h)
    simp only [rTs]
    rw [ih]
    simp only
    rw [hr, List.take_add_one, Nat.add_assoc]
    congr 2
    rw [List.getD_eq_getElem?_getD, List.getElem?_eq_getElem (by omega)]
    rfl
end Go.Proofs.YtpnocklldlacjaaDoor

namespace Go.Proofs.YtpnocklldlacjaaDoor
open Go.RowKit

/-- A distance that was read. -/
def di (v : Nat) : Int := if v = 65535 then -1 else (v : Int)
theorem di_dv {x : Int} (h0 : -1 ≤ x) (h1 : x < 65535) : di (dv x) = x ∧ dv x < 65536 := by
  unfold di dv
  by_cases h : x < 0
  · rw [if_pos h, if_pos rfl]; omega
  · rw [if_neg h, if_neg (by omega)]; omega
/-- The first c distances read. -/
def rDs (f : Nat → Nat) (N : Nat) (st : Nat × Bool) : Nat → List Int × (Nat × Bool)
  | 0 => ([], st)
  | c + 1 => ((rDs f N st c).1 ++ [di (rn f N (rDs f N st c).2 2).1], (rn f N (rDs f N st c).2 2).2)
theorem rDs_len (f : Nat → Nat) (N : Nat) (st : Nat × Bool) : ∀ c, (rDs f N st c).1.length = c
  | 0 => rfl
  | c + 1 => by simp only [rDs]; rw [List.length_append, rDs_len f N st c]; rfl
theorem rDs_ok {f : Nat → Nat} {N p : Nat} {D : List Int} (hD : ∀ j, j < D.length → -1 ≤ D.getD j 0 ∧ D.getD j 0 < 65535) : ∀ c, c ≤ D.length → p + 2 * c ≤ N → Lies f p (imD D c) → rDs f N (p, false) c = (D.take c, (p + 2 * c, false))
  | 0, _, _, _ => by simp [rDs]
  | c + 1, hc, hN, h => by
    have ih := rDs_ok (f := f) (N := N) (p := p) hD c (by omega) (by omega) (Lies.left (b := le 2 (dv (D.getD c 0))) h)
    have hr : Lies f (p + 2 * c) (le 2 (dv (D.getD c 0))) := by
      have := Lies.right (a := imD D c) h
      rw [imD_len] at this
      exact this
    obtain ⟨d1, d2⟩ := di_dv (hD c (by omega)).1 (hD c (by omega)).2
    have e := rn_ok (N := N) (n := 2) d2 (by omega) hr
    simp only [rDs]
    rw [ih]
    simp only
    rw [e]
    simp only
    rw [d1, List.take_add_one]
    congr 2
    rw [List.getD_eq_getElem?_getD, List.getElem?_eq_getElem (by omega)]
    rfl
end Go.Proofs.YtpnocklldlacjaaDoor

namespace Go.Proofs.YtpnocklldlacjaaDoor
open Go.RowKit

/-- Bit m of the bytes. -/
def bbit (b : ByteArray) (m : Nat) : Nat := (b.get! (m / 8)).toNat / 2 ^ (m % 8) % 2
theorem bbit_le (b : ByteArray) (m : Nat) : bbit b m ≤ 1 := by unfold bbit; omega
/-- Three bits as a number. -/
def upv (b : ByteArray) (i : Nat) : Nat := bbit b (3 * i) + 2 * bbit b (3 * i + 1) + 4 * bbit b (3 * i + 2)
/-- .. and as a hop. -/
def uph (b : ByteArray) (i : Nat) : Int := if upv b i = 4 then -1 else (upv b i : Nat)
def upL (b : ByteArray) (n : Nat) : List Int := (List.range n).map fun i => uph b i
theorem upL_len (b : ByteArray) (n : Nat) : (upL b n).length = n := by unfold upL; simp
theorem upL_succ (b : ByteArray) (n : Nat) : upL b (n + 1) = upL b n ++ [uph b n] := by unfold upL; rw [List.range_succ, List.map_append]; rfl
/-- The upper bits of hop i, j of them. -/
def uvp (b : ByteArray) (i : Nat) : Nat → Nat
  | 0 => 0
  | j + 1 => uvp b i j * 2 + bbit b (3 * i + (2 - j))
theorem uvp_three (b : ByteArray) (i : Nat) : uvp b i 3 = upv b i := by
  show ((0 * 2 + bbit b (3 * i + 2)) * 2 + bbit b (3 * i + 1)) * 2 + bbit b (3 * i) = _
  unfold upv
  omega
theorem uvp_le (b : ByteArray) (i : Nat) : ∀ j, uvp b i j < 2 ^ j
  | 0 => by unfold uvp; decide
  | j + 1 => by
    have h1 := uvp_le b i j
    have h2 := bbit_le b (3 * i + (2 - j))
    unfold uvp
    rw [Nat.pow_succ]
    omega
/-- These bytes are those of n hops. -/
def upOk (b : ByteArray) (n : Nat) : Bool := decide ((3 * n + 7) / 8 = b.size) && (hGood (upL b n) && decide (pkF (upL b n) = b))
/-- What UnpackHops answers. -/
def upF (b : ByteArray) (n : Int) : List Int := if 0 ≤ n ∧ upOk b n.toNat = true then upL b n.toNat else []
def upC (b : ByteArray) (n : Int) : Int := if n < 0 then 1 else if upOk b n.toNat = true then 0 else 9
theorem upF_neg {b : ByteArray} {n : Int} (h : n < 0) : upF b n = [] := if_neg (fun q => by omega)
theorem upC_neg {b : ByteArray} {n : Int} (h : n < 0) : upC b n = 1 := if_pos h
theorem upF_no {b : ByteArray} {n : Int} (h : ¬ upOk b n.toNat = true) : upF b n = [] := if_neg (fun q => h q.2)
theorem upC_no {b : ByteArray} {n : Int} (h0 : 0 ≤ n) (h : ¬ upOk b n.toNat = true) : upC b n = 9 := by unfold upC; rw [if_neg (by omega), if_neg h]
theorem upF_yes {b : ByteArray} {n : Int} (h0 : 0 ≤ n) (h : upOk b n.toNat = true) : upF b n = upL b n.toNat := if_pos ⟨h0, h⟩
theorem upC_yes {b : ByteArray} {n : Int} (h0 : 0 ≤ n) (h : upOk b n.toNat = true) : upC b n = 0 := by unfold upC; rw [if_neg (by omega), if_pos h]
theorem upOk_size {b : ByteArray} {n : Nat} (h : upOk b n = true) : (3 * n + 7) / 8 = b.size := by
  unfold upOk at h
  rw [Bool.and_eq_true, decide_eq_true_iff] at h
  exact h.1
theorem upF_size (b : ByteArray) (n : Int) (h : b.size ≤ 1048576) : (upF b n).length ≤ 100000000 := by
  unfold upF
  split
  · rename_i q
    have := upOk_size q.2
    rw [upL_len]
    omega
  · exact Nat.zero_le _
end Go.Proofs.YtpnocklldlacjaaDoor
