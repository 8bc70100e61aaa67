/-
  spec.l9fill; what a function that draws a source leaves.
  Plainly: the sources that l9anySource and DrawLex draw.
  append of bytes onto a slice that is full, whose row may be frozen behind it.
-/
import Derived.Test.YthoinjddamlapaaGreatDoorJToGMU
import Derived.Test.YthoinjddamlapaaGreatDoorJToGSB
import Derived.Test.YthoinjddamlapaaGreatDoorJToGNP
import Derived.Test.YthoinjddamlapaaGreatDoorJToB0
import Derived.Lib.SlBytesConst
namespace Go.Proofs.YthoinjddamlapaaGreatDoor
open Go.RowKit

set_option maxHeartbeats 4000000 in
set_option maxRecDepth 1000000 in
theorem fill_any (w : World) (ch n : Nat) (hn : n ≤ 6000) :
    Calls Tryz.prog 16 #[.int .u8 (ch : Int), .int .i64 (n : Int)] w fun r w' => ∃ v', r = .returned v' ∧ w'.ownsRow w.heap.size 5 1 v' (List.replicate n ch).length (cv (List.replicate n ch)) ∧ Below w.heap.size w w' := by
  obtain ⟨B, hB⟩ : ∃ B, w.heap.size = B := ⟨_, rfl⟩
  have HBB : Hid (B ≤ w.heap.size) := by show _ ≤ _; omega
  have HRP : Hid (∀ j, List.replicate (j + 1) ch = List.replicate j ch ++ [ch]) := fun j => List.replicate_succ'
  have HFIN : Hid (∀ v' V, V.ownsRow B 5 1 v' (List.replicate n ch).length (cv (List.replicate n ch)) → Below B w V → V.ownsRow w.heap.size 5 1 v' (List.replicate n ch).length (cv (List.replicate n ch)) ∧ Below w.heap.size w V) := fun v' V h1 h2 => by rw [hB]; exact ⟨h1, h2⟩
  clear hB
  go_enter Tryz.func16, Tryz.ntmps16
  go_wp2
  go_loopw [5, 6] (fun ov ix wr => ∃ j : Nat, j ≤ n ∧ ix = .int .i64 j ∧ wr.ownsRow B 5 1 ov (List.replicate j ch).length (cv (List.replicate j ch)) ∧ Below B w wr) (fun _ ix _ => n - (intOf ix).toNat)
  case atStart => exact ⟨0, Nat.zero_le _, rfl, World.ownsRow_nil _ _ _ _, Below.refl _ _⟩
  case round =>
    obtain ⟨j, hj, rfl, hown, hbl⟩ := hrel
    rename World => V
    have HOW := hide hown
    have HBL := hide hbl
    have HBV : Hid (B ≤ V.heap.size) := Nat.le_trans HBB.out hbl.size
    have hle : (List.replicate j ch).length = j := List.length_replicate
    by_cases hlt : j < n
    · have hlti : (j : Int) < (n : Int) := by omega
      have HM2 := hide (HRP.out j)
      obtain ⟨l0, hl0⟩ : ∃ l, List.replicate j ch = l := ⟨_, rfl⟩
      rw [hl0] at HOW HM2 hle
      clear hown hbl hl0
      go_wp2_with (at_builtin; refine wp_app rfl _ _ rfl B _ l0 rfl ((HOW.out).alloc _) (V).heap.size 1 [ch] rfl (by intro j' hj'; match j', hj' with | 0, _ => simp) (by show l0.length + 1 ≤ 100000000; omega) (by have := HBV.out; simp; omega) ?_; intro v2 w2 l2 hl2 ho2 hg2; have HO2 := hide ho2; have HL2 := hide hl2.out; have HB2 : Hid (Below B w w2) := ((HBL.out).alloc HBV.out _).grown hg2 (by have := HBV.out; simp; omega) (fun k hk => by have := ((HOW.out).lt k hk).1; omega); clear ho2 hg2 hl2)
      go_roundw
      case rel => exact ⟨j + 1, by omega, by go_num, by rw [HM2.out, ← HL2.out]; exact HO2.out, HB2.out⟩
      case measure => simp [intOf]; omega
    · have hje : j = n := by omega
      subst hje
      have HF := hide (HFIN.out _ V hown hbl)
      have hni : ¬ (j : Int) < (j : Int) := by omega
      clear hown hbl HOW
      go_wp2
      go_ret
      exact ⟨_, rfl, by have h := HF.out; rw [List.length_replicate] at h; exact h⟩
/-- A row of bytes that was drawn: new, or none at all. -/
def NR (W : World) (B : Nat) (v : Value) (l : List Nat) : Prop :=
  (∃ g c, v = .slice (some ⟨g, 0, none⟩) l.length c ∧ l.length ≤ c ∧ B ≤ g ∧ ∀ j, j < l.length → W.cell? ⟨g, j, none⟩ = some (.int .u8 (l.getD j 0 : Nat))) ∨ (v = .slice none 0 0 ∧ l = [])
/-- What a function that draws a source leaves. -/
def AnQ (R : Nat) (a0 : Option Addr) (b off n cap : Nat) (cs : ByteArray) (q : List Nat × Nat) (w : World) (r : Ending) (w' : World) : Prop :=
  ∃ v', r = .returned v' ∧ NR w' w.heap.size v' q.1 ∧ Lo q.1 ∧ q.1.length ≤ 90000010 ∧ Gw (· = R) w w' ∧ RdAt w' R a0 b off n cap cs q.2
/-- The bytes of a text as numbers. -/
def lst (s : ByteArray) : List Nat := s.data.toList.map fun c => c.toNat
theorem lst_len (s : ByteArray) : (lst s).length = s.size := by unfold lst; simp
theorem lst_lo (s : ByteArray) : Lo (lst s) := fun x hx => by
  obtain ⟨c, _, rfl⟩ := List.mem_map.1 hx
  exact c.toNat_lt
theorem lst_bts (s : ByteArray) {j : Nat} (h : j < s.size) : bts s j = .int .u8 ((lst s).getD j 0 : Nat) := by
  have h' : j < s.data.size := h
  unfold bts lst
  rw [Utf8W.get!_of_lt _ j h]
  have e : s[j] = s.data[j] := rfl
  rw [e]
  simp only [List.getD, List.getElem?_map, Array.getElem?_toList, Array.getElem?_eq_getElem h', Option.map_some, Option.getD_some]
theorem lst_app (a b : ByteArray) : lst (a ++ b) = lst a ++ lst b := by
  unfold lst
  rw [ByteArray.data_append]
  simp
theorem own_nr {W : World} {B B' : Nat} {v : Value} {l : List Nat} (h : W.ownsRow B 5 1 v l.length (cv l)) (hB : B' ≤ B) : NR W B' v l := by
  by_cases h0 : 0 < l.length
  · obtain ⟨g, c, rfl, hg, hlt, hc, _⟩ := own_slice h h0
    have hcap : l.length ≤ c := by
      rcases h.2 with ⟨hv, _⟩ | ⟨g', c', cur, hv, _, hgc, hle, _⟩
      · cases hv
      · cases hv; omega
    exact .inl ⟨g, c, rfl, hcap, by omega, fun j hj => hc j hj⟩
  · have e : l = [] := List.length_eq_zero_iff.1 (by omega)
    subst e
    rcases h.2 with ⟨hv, _⟩ | ⟨g, c, cur, hv, hg, hgc, _⟩
    · exact .inr ⟨hv, rfl⟩
    · exact .inl ⟨g, c, hv, Nat.zero_le _, by omega, fun j hj => absurd hj (Nat.not_lt_zero _)⟩
theorem sr_an {R : Nat} {a0 : Option Addr} {b off n cap : Nat} {cs : ByteArray} {q : ByteArray × Nat} {w w' : World} {r : Ending} (h : SrQ R a0 b off n cap cs q w r w') : AnQ R a0 b off n cap cs (lst q.1, q.2) w r w' := by
  obtain ⟨g, c, rfl, h1, h2, h3, h4, h5, h6⟩ := h
  refine ⟨_, rfl, .inl ⟨g, c, by rw [lst_len], by rw [lst_len]; exact h1, h3, fun j hj => ?_⟩, lst_lo _, by rw [lst_len]; omega, h5, h6⟩
  rw [lst_len] at hj
  rw [h4 j hj, lst_bts _ hj]
/-- An odd source, known ones, changed ones. -/
theorem soup_lo (k : Nat) : soup.getD k 0 < 256 := by
  have h : ∀ j : Fin 17, soup.getD j.val 0 < 256 := by decide
  by_cases hk : k < 17
  · exact h ⟨k, hk⟩
  · rw [List.getD_eq_getElem?_getD, List.getElem?_eq_none (by show 17 ≤ k; omega)]
    decide
theorem Lo.at {l : List Nat} (h : Lo l) (j : Nat) : l.getD j 0 < 256 := by
  rw [List.getD_eq_getElem?_getD]
  cases e : l[j]? with
  | none => decide
  | some x => exact h x (List.mem_of_getElem? e)
theorem mtT_lo {l : List Nat} (h : Lo l) {k p c : Nat} (hc : c < 256) : ∀ j, Lo (mtT l k p c j)
  | 0 => Lo.nil
  | j + 1 => by
    have i := mtT_lo h (k := k) (p := p) hc j
    unfold mtT
    repeat' split
    · exact i
    · exact i.app (Lo.one hc)
    · exact (i.app (Lo.one hc)).app (Lo.one (h.at j))
    · exact i.app (Lo.one (h.at j))
theorem gM_lo {l : List Nat} (h : Lo l) (cs : ByteArray) (n i : Nat) : Lo (gM cs n i l) := by
  unfold gM mtF
  split
  · exact Lo.one (soup_lo _)
  · split <;> exact mtT_lo h (soup_lo _) _
theorem gM_le (l : List Nat) (cs : ByteArray) (n i : Nat) : (gM cs n i l).length ≤ l.length + 1 := by
  unfold gM mtF
  split
  · simp
  · split
    · have h1 := mtT_le l (nx cs n i % 4) ((nx cs n (i + 1) * 256 + 1 + nx cs n (i + 2)) % l.length) (soup.getD (nx cs n (i + 3) % 17) 0) ((nx cs n (i + 1) * 256 + 1 + nx cs n (i + 2)) % l.length)
      have h2 := Nat.mod_lt (nx cs n (i + 1) * 256 + 1 + nx cs n (i + 2)) (show 0 < l.length by omega)
      split at h1 <;> omega
    · have h1 := mtT_le l (nx cs n i % 4) ((nx cs n (i + 1) * 256 + 1 + nx cs n (i + 2)) % l.length) (soup.getD (nx cs n (i + 3) % 17) 0) l.length
      split at h1 <;> omega
theorem bdNG_lo (k : Nat) : Lo (bdNG k) := fun x hx => by
  obtain ⟨c, _, rfl⟩ := List.mem_map.1 hx
  exact c.toNat_lt
theorem splG_lo {l : List Nat} (h : Lo l) (k : Nat) : Lo (splG l k) := Lo.app (Lo.app (fun x hx => h x (List.mem_of_mem_take hx)) (bdNG_lo _)) (fun x hx => h x (List.mem_of_mem_drop hx))
theorem splG_le (l : List Nat) (k : Nat) : (splG l k).length ≤ l.length + 4 := by
  have h := bdN_leG (k % 7)
  unfold splG
  simp only [List.length_append, List.length_take, List.length_drop]
  omega
theorem mu_an {R : Nat} {a0 : Option Addr} {b off n cap : Nat} {cs : ByteArray} {l : List Nat} {i i' : Nat} {w w' : World} {r : Ending} (h : MuQ R a0 b off n cap cs (gM cs n i l) i' w r w') (hl : Lo l) (hz : l.length ≤ 90000005) : AnQ R a0 b off n cap cs (gM cs n i l, i') w r w' := by
  obtain ⟨v', rfl, h1, h2, h3⟩ := h
  have := gM_le l cs n i
  exact ⟨v', rfl, own_nr h1 (Nat.le_refl _), gM_lo hl cs n i, by show (gM cs n i l).length ≤ _; omega, h2, h3⟩
/-- A drawn row, changed. -/
theorem mut_nr {w : World} {R : Nat} {a0 : Option Addr} {b off n cap : Nat} {cs : ByteArray} {i : Nat} (hn : n ≤ 600) (h : RdAt w R a0 b off n cap cs i) {B : Nat} {v : Value} {l : List Nat} (hv : NR w B v l) (hR : R < B) (hl : l.length ≤ 95000000) :
    Calls Tryz.prog 10 #[v, .pointer (some ⟨R, 0, none⟩)] w (MuQ R a0 b off n cap cs (gM cs n i l) (i + 4) w) := by
  rcases hv with ⟨g, c, rfl, h1, h2, h3⟩ | ⟨rfl, rfl⟩
  · exact mutate_any w R a0 b off n cap cs i hn h l _ g c hl (fun _ => rfl) (fun _ => by omega) h3
  · exact mutate_any w R a0 b off n cap cs i hn h [] none 0 0 hl (fun q => absurd q (Nat.not_lt_zero _)) (fun q => absurd q (Nat.not_lt_zero _)) (fun j q => absurd q (Nat.not_lt_zero _))
end Go.Proofs.YthoinjddamlapaaGreatDoor

namespace Go.Proofs.YthoinjddamlapaaGreatDoor

/-- So many times a text. -/
def rpt (s : ByteArray) : Nat → ByteArray → ByteArray
  | 0, o => o
  | k + 1, o => rpt s k o ++ s
/-- Parameters from the first on. -/
def prs : Nat → ByteArray
  | 0 => (⟨#[109, 97, 99, 114, 111, 32, 102, 40, 105, 110, 116, 32, 97, 48]⟩ : ByteArray)
  | k + 1 => prs k ++ ((⟨#[44, 32, 116, 101, 120, 116, 32, 97]⟩ : ByteArray) ++ decB (k + 1))
def one7 : ByteArray := rpt (⟨#[43, 49]⟩ : ByteArray) 57 (⟨#[108, 101, 116, 32, 97, 61, 49]⟩ : ByteArray)
/-- A program, or one of some, as k says. -/
def gBase (cs : ByteArray) (n k i : Nat) : ByteArray × Nat := if k % 5 = 0 then (gKnown cs n (gP cs n i).2, (gP cs n i).2 + 3) else gP cs n i
def gRest (cs : ByteArray) (n k i : Nat) : List Nat × Nat :=
  if k % 8 = 1 then (gM cs n (gBase cs n k i).2 (lst (gBase cs n k i).1), (gBase cs n k i).2 + 4)
  else if k % 32 = 2 then (splG (lst (gBase cs n k i).1) (nx cs n (gBase cs n k i).2), (gBase cs n k i).2 + 1)
  else (lst (gBase cs n k i).1, (gBase cs n k i).2)
/-- Any source, as k says. -/
def gYk (cs : ByteArray) (n k i : Nat) : List Nat × Nat :=
  if k = 3 then (lst (⟨#[103, 114, 105, 100, 32, 49, 44, 49, 59]⟩ : ByteArray) ++ List.replicate (4990 + nx cs n i % 3) 32, i + 1)
  else if k = 4 then (lst (⟨#[108, 101, 116, 32, 97, 32, 61, 32]⟩ : ByteArray) ++ List.replicate (56 + nx cs n i % 4) 45 ++ lst (⟨#[49, 59]⟩ : ByteArray), i + 1)
  else if k = 5 then (lst (⟨#[108, 101, 116, 32]⟩ : ByteArray) ++ List.replicate (29 + nx cs n i % 3) 97 ++ lst (⟨#[32, 61, 32, 49, 59]⟩ : ByteArray), i + 1)
  else if k = 6 then (lst (⟨#[108, 101, 116, 32, 97, 32, 61, 32, 34]⟩ : ByteArray) ++ List.replicate (59 + nx cs n i % 3) 116 ++ lst (⟨#[34, 59]⟩ : ByteArray), i + 1)
  else if k = 7 then (lst (rpt (one7 ++ (⟨#[59]⟩ : ByteArray)) (33 + nx cs n i % 4) ⟨#[]⟩), i + 1)
  else if k = 8 then (lst (prs (8 + nx cs n i % 3) ++ (⟨#[41, 32, 123, 32, 125]⟩ : ByteArray)), i + 1)
  else if k % 16 = 9 then (lst (odL.getD (nx cs n i % 36) ⟨#[]⟩), i + 1)
  else gRest cs n k i
def gY (cs : ByteArray) (n i : Nat) : List Nat × Nat := gYk cs n (nx cs n i) (i + 1)
/-- What DrawLex draws. -/
def gLx (cs : ByteArray) (n : Nat) : List Nat := if nx cs n 0 % 3 = 0 then gM cs n (gY cs n 1).2 (gY cs n 1).1 else (gY cs n 1).1
end Go.Proofs.YthoinjddamlapaaGreatDoor

namespace Go.Proofs.YthoinjddamlapaaGreatDoor
open Go.RowKit

theorem wp_app_full {ops : Array Oper} {rest : List Oper} {o : Oper} {a : Act} {Q : Exit → Act → World → Prop} {w : World} (hgd : o.guard = none) (s x : Operand)
    (ho : o.op = .call { callee := .builtin .append, args := #[s, x], argTypes := #[22, 22] }) (B g0 : Nat) (xs : List Nat) (hs : a.eval s = .slice (some ⟨g0, 0, none⟩) xs.length xs.length) (hold : ∀ j, j < xs.length → w.cell? ⟨g0, j, none⟩ = some (.int .u8 (xs.getD j 0 : Nat)))
    (g c : Nat) (ys : List Nat) (hx : a.eval x = .slice (some ⟨g, 0, none⟩) ys.length c) (hnews : ∀ j, j < ys.length → w.cell? ⟨g, j, none⟩ = some (.int .u8 (ys.getD j 0 : Nat))) (hys : 0 < ys.length) (hlen : xs.length + ys.length ≤ 100000000) (hbase : B ≤ w.heap.size)
    (h : ∀ v' w' l, Hid (l = xs ++ ys) → w'.ownsRow B 5 1 v' l.length (cv l) → Below w.heap.size w w' → wpList Tryz.prog ops Q rest (a.put o.dst v') w') : wpList Tryz.prog ops Q (o :: rest) a w := by
  obtain ⟨i0, hi, hz0, hz1, hz2⟩ := info_parts Tryz.info5
  have key : ∀ (b : Nat) (zs : List Nat), (∀ j, j < zs.length → w.cell? ⟨b, j, none⟩ = some (.int .u8 (zs.getD j 0 : Nat))) → ∀ j u, (cv zs)[j]? = some u → w.cell? ((⟨b, 0, none⟩ : Addr).add j) = some u := fun b zs hz j u hj => by
    have hjl : j < zs.length := by
      rcases Nat.lt_or_ge j zs.length with h | h
      · exact h
      · rw [List.getElem?_eq_none (by rw [cv_length]; exact h)] at hj; cases hj
    have e : (⟨b, 0, none⟩ : Addr).add j = ⟨b, 0 + j, none⟩ := by unfold Addr.add; split <;> simp_all
    rw [e, Nat.zero_add, hz j hjl, ← hj]
    simp [cv, List.getD, hjl]
  have hr := run_append_grow (P := Tryz.prog) w 22 o.type 5 i0 (.int .u8 0) Tryz.underlying22 hi hz0 ⟨g0, 0, none⟩ xs.length xs.length (cv xs) (by rw [cv_length, hz1, Nat.mul_one]) (key g0 xs hold) ⟨g, 0, none⟩ ys.length c (cv ys) (by rw [cv_length, hz1, Nat.mul_one]) (key g ys hnews) (by omega) (by omega) (growslice_fits (by omega) (by rw [hz2]; omega))
  refine wpList_plain hgd fun K hK => ?_
  unfold Oper.wp execOp
  simp only [ho, resolve, invoke, builtin, Sem.run_bind, Sem.run_pure, Result.andThen_ok, List.map_toArray, List.map_cons, List.map_nil, hs, hx, hr]
  refine hK _ _ (h _ _ (xs ++ ys) rfl ?_ ?_)
  · have hge := grownCap_ge w (xs.length + ys.length) xs.length 5
    rw [List.length_append, cv_append]
    refine ⟨by simp [cv_length], .inr ⟨w.heap.size, _, _, rfl, hbase, heap_alloc_new w.drew _, hge, grownCap_le_maxLen w _ _ 5 (by unfold maxLen; omega), ?_, ?_⟩⟩
    · simp only [Array.size_append, List.size_toArray, size_zeroCells, cv_length]
      have : (Value.int IntKind.u8 0).cells.size = 1 := rfl
      rw [this]
      omega
    · simp only [Array.toList_append, List.append_assoc]
      rw [← List.append_assoc]
      have : (xs.length + ys.length) * 1 = (cv xs ++ cv ys).length := by rw [List.length_append, cv_length, cv_length, Nat.mul_one]
      rw [this]
      exact List.take_left
  · exact ⟨rfl, rfl, rfl, by simp, fun k hk => heap_alloc_old w.drew _ hk⟩
end Go.Proofs.YthoinjddamlapaaGreatDoor
