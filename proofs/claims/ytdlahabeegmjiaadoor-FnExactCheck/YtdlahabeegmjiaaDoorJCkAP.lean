/-
  Appends of bytes onto rows of the call's own.
  The walks of spec.l1words, spec.l1isWord.
  The walk of l2name.
  The walk of szIntS.
  The walk of szByteS.
  The walks of szByteS, szIntS, szByteSS, szNode, szNodeS.
  Plainly: what the fields of a node come to.
-/
import Derived.Test.YtdlahabeegmjiaaDoorJCkT
import Derived.Deep.RegionLaw
import Derived.Test.YtdlahabeegmjiaaDoorJCkZ
import Derived.Test.YtdlahabeegmjiaaDoorJCkCV
import Derived.Test.YtdlahabeegmjiaaDoorJCkVB
import Derived.Test.YtdlahabeegmjiaaDoorJCkIN0
import Derived.Test.YtdlahabeegmjiaaDoorJCkND4
namespace Go.Proofs.YtdlahabeegmjiaaDoor
open Go.RowKit

/-- append of bytes, wherever they lie, onto a row of the call's own. -/
theorem wp_app_at {ops : Array Oper} {rest : List Oper} {o : Oper} {a : Act} {Q : Exit → Act → World → Prop} {w : World} (hgd : o.guard = none) (s x : Operand)
    (ho : o.op = .call { callee := .builtin .append, args := #[s, x], argTypes := #[31, 31] }) (B : Nat) (v : Value) (xs : List Nat) (hs : a.eval s = v) (hown : w.ownsRow B 5 1 v xs.length (cv xs))
    (g f c : Nat) (ys : List Nat) (hx : a.eval x = .slice (some ⟨g, f, none⟩) ys.length c) (hnews : ∀ j, j < ys.length → w.cell? ⟨g, f + j, none⟩ = some (.int .u8 (ys.getD j 0 : Nat))) (hlen : xs.length + ys.length ≤ 100000000) (hbase : B ≤ w.heap.size)
    (h : ∀ v' w' l, Hid (l = xs ++ ys) → w'.ownsRow B 5 1 v' l.length (cv l) → w.grownBy w' v.ownBlock → wpList Tryd.prog ops Q rest (a.put o.dst v') w') : wpList Tryd.prog ops Q (o :: rest) a w := by
  obtain ⟨i0, hi, hz0, hz1, hz2⟩ := info_parts Tryd.info5
  refine wpList_append_own _ hgd s x 31 ho B 5 i0 (.int .u8 0) 1 1 Tryd.underlying31 hi hz0 hz1 hz2 rfl (by decide) v xs.length (cv xs) hs hown ⟨g, f, none⟩ ys.length c (cv ys) hx (by rw [cv_length, Nat.mul_one]) (fun j u hj => ?_) (cv_one ys) (by unfold maxLen; omega) (by omega) hbase (fun v' w' h1 h2 _ => ?_)
  · have hjl : j < ys.length := by
      rcases Nat.lt_or_ge j ys.length with h | h
      · exact h
      · rw [List.getElem?_eq_none (by rw [cv_length]; exact h)] at hj; cases hj
    have e : (⟨g, f, none⟩ : Addr).add j = ⟨g, f + j, none⟩ := by unfold Addr.add; split <;> simp_all
    rw [e, hnews j hjl, ← hj]
    simp [cv, List.getD, hjl]
  · refine h v' w' (xs ++ ys) rfl ?_ h2
    rw [List.length_append, cv_append]
    exact h1

/-- append of bytes onto a row of the call's own. -/
theorem wp_app {ops : Array Oper} {rest : List Oper} {o : Oper} {a : Act} {Q : Exit → Act → World → Prop} {w : World} (hgd : o.guard = none) (s x : Operand)
    (ho : o.op = .call { callee := .builtin .append, args := #[s, x], argTypes := #[31, 31] }) (B : Nat) (v : Value) (xs : List Nat) (hs : a.eval s = v) (hown : w.ownsRow B 5 1 v xs.length (cv xs))
    (g c : Nat) (ys : List Nat) (hx : a.eval x = .slice (some ⟨g, 0, none⟩) ys.length c) (hnews : ∀ j, j < ys.length → w.cell? ⟨g, j, none⟩ = some (.int .u8 (ys.getD j 0 : Nat))) (hlen : xs.length + ys.length ≤ 100000000) (hbase : B ≤ w.heap.size)
    (h : ∀ v' w' l, Hid (l = xs ++ ys) → w'.ownsRow B 5 1 v' l.length (cv l) → w.grownBy w' v.ownBlock → wpList Tryd.prog ops Q rest (a.put o.dst v') w') : wpList Tryd.prog ops Q (o :: rest) a w :=
  wp_app_at hgd s x ho B v xs hs hown g 0 c ys hx (fun j hj => by rw [Nat.zero_add]; exact hnews j hj) hlen hbase h

/-- The world behind an append is as it was below the row's base. -/
theorem app_below {B : Nat} {w0 w w' : World} {v : Value} {n : Nat} {xs : List Value} (h : Below B w0 w) (hown : w.ownsRow B 5 1 v n xs) (hB : B ≤ w.heap.size) (hg : w.grownBy w' v.ownBlock) : Below B w0 w' :=
  h.grown hg hB (fun k hk => (hown.lt k hk).1)

theorem own_fix {w : World} {B : Nat} {v : Value} {n : Nat} {l : List Nat} (h : w.ownsRow B 5 1 v n (cv l)) : w.ownsRow B 5 1 v l.length (cv l) := by
  have e : n = l.length := by have := h.1; rw [cv_length] at this; omega
  subst e; exact h
theorem kept_below {w w' : World} {B : Nat} {v : Value} {n : Nat} {xs : List Value} (h : w.ownsRow B 5 1 v n xs) (hb : Below w.heap.size w w') : w'.ownsRow B 5 1 v n xs :=
  h.kept (row := none) ⟨hb.os, hb.tape, hb.output, hb.size, fun k hk _ => hb.block k hk⟩ (by cases v.ownBlock <;> simp)

/-- The slice that owns some bytes, written out. -/
theorem own_slice {w : World} {B : Nat} {v : Value} {l : List Nat} (h : w.ownsRow B 5 1 v l.length (cv l)) (hl : 0 < l.length) :
    ∃ g c, v = .slice (some ⟨g, 0, none⟩) l.length c ∧ B ≤ g ∧ g < w.heap.size ∧ (∀ j, j < l.length → w.cell? ⟨g, j, none⟩ = some (.int .u8 (l.getD j 0 : Nat))) ∧ ∀ j, w.frozen? ⟨g, j, none⟩ = false := by
  rcases h.2 with ⟨_, h0⟩ | ⟨g, c, cur, hv, hb, hg, _⟩
  · omega
  · refine ⟨g, c, hv, hb, (Array.getElem?_eq_some_iff.1 hg).1, fun j hj => ?_, fun j => ?_⟩
    · rw [hv] at h
      rw [h.cellAt j (by omega)]
      simp [cv, List.getD, hj]
    · rw [hv] at h
      exact h.frozenAt j
theorem ret_vi {k : IntKind} {v : Value} {a b : Int} (h : a = b) : Ending.returned (.tuple #[v, .int k a]) = .returned (.tuple #[v, .int k b]) := by rw [h]
theorem cell_fresh (w : World) (cs : Array Value) (t : TypeId) (j : Nat) : (w.alloc (.cells cs t)).cell? ⟨w.heap.size, j, none⟩ = cs[j]? := by
  have h : (w.alloc (.cells cs t)).heap[w.heap.size]? = some (.cells cs t) := by
    show (w.heap.push _)[w.heap.size]? = _
    rw [Array.getElem?_push_size]
  unfold World.cell?
  rw [h]
  rfl
end Go.Proofs.YtdlahabeegmjiaaDoor

namespace Go.Proofs.YtdlahabeegmjiaaDoor
open Go.RowKit

/-- The words as texts in cells. -/
def wc : Array Value := (wl.map fun l => Value.string ⟨l.toArray⟩).toArray
theorem wc_at (j : Nat) (h : j < 26) : wc[j]? = some (.string ⟨(wl.getD j []).toArray⟩) := by
  have h' : j < wl.length := h
  unfold wc
  rw [List.getElem?_toArray, List.getElem?_map]
  simp [List.getD, List.getElem?_eq_getElem h']

set_option maxHeartbeats 1000000 in
set_option maxRecDepth 1000000 in
theorem words_any (w : World) :
    Calls Tryd.prog 88 #[] w fun e w' => ∃ g, e = .returned (.slice (some ⟨g, 0, none⟩) 26 26) ∧ (∀ j, j < 26 → w'.cell? ⟨g, j, none⟩ = some (.string ⟨(wl.getD j []).toArray⟩)) ∧ Below w.heap.size w w' := by
  go_enter Tryd.func88, Tryd.ntmps88
  go_wp2
  go_ret
  exact ⟨w.heap.size, rfl, fun j hj => (cell_fresh w wc 9 j).trans (wc_at j hj), (Below.refl _ _).alloc (Nat.le_refl _) _⟩

theorem isW_yes {s : ByteArray} {n : Nat} (hn : n < 26) (h : wl.getD n [] = s.toList) : isW s = true := by
  have h' : n < wl.length := hn
  unfold isW
  rw [List.contains_iff_mem, ← h]
  simp [List.getD, List.getElem?_eq_getElem h']
theorem isW_no {s : ByteArray} (h : ∀ j, j < 26 → wl.getD j [] ≠ s.toList) : isW s = false := by
  unfold isW
  rw [Bool.eq_false_iff]
  intro g
  rw [List.contains_iff_mem] at g
  obtain ⟨j, hj, e⟩ := List.getElem_of_mem g
  exact h j hj (by simp [List.getD, List.getElem?_eq_getElem hj, e])

set_option maxHeartbeats 1000000 in
set_option maxRecDepth 1000000 in
theorem isWord_any (s : ByteArray) (w : World) :
    Calls Tryd.prog 76 #[.string s] w fun e w' => e = .returned (.bool (isW s)) ∧ Below w.heap.size w w' := by
  have HW := hide (words_any w)
  go_enter Tryd.func76, Tryd.ntmps76
  go_wp2_with fail
  refine HW.out.mono ?_
  rintro e w1 ⟨g, rfl, hcs, hb⟩
  have HCS := hide hcs
  have HB := hide hb
  clear hcs hb
  go_wp2
  go_loopw [4] (fun ix wr => ∃ n : Nat, ix = .int .i64 n ∧ n ≤ 26 ∧ (∀ j, j < n → wl.getD j [] ≠ s.toList) ∧ wr = w1) (fun ix _ => 26 - (intOf ix).toNat)
  case atStart => exact ⟨0, rfl, by omega, fun j hj => absurd hj (Nat.not_lt_zero _), rfl⟩
  case round =>
    obtain ⟨n, rfl, hn, hall, rfl⟩ := hrel
    have HALL := hide hall
    clear hall
    by_cases hlt : n < 26
    · have g1 := HCS.out n hlt
      obtain ⟨x, hx⟩ : ∃ x : ByteArray, (⟨(wl.getD n []).toArray⟩ : ByteArray) = x := ⟨_, rfl⟩
      have HX : Hid (x.toList = wl.getD n []) := by show _ = _; rw [← hx, Lib.toList_data]
      rw [hx] at g1
      clear hx
      have hlti : (n : Int) < 26 := by omega
      by_cases he : x.toList = s.toList
      · have t1 : (x.toList == s.toList) = true := by rw [beq_iff_eq]; exact he
        have HR : Hid (isW s = true) := isW_yes hlt (by rw [← HX.out]; exact he)
        clear he
        go_wp2
        go_ret
        exact ⟨by rw [HR.out]; rfl, HB.out⟩
      · have t1 : (x.toList == s.toList) = false := by rw [beq_eq_false_iff_ne]; exact he
        have HE : Hid (wl.getD n [] ≠ s.toList) := by show _ ≠ _; rw [← HX.out]; exact he
        clear he
        go_wp2
        go_roundw
        case rel => exact ⟨n + 1, by go_num, by omega, fun j hj => by
          by_cases e : j = n
          · rw [e]; exact HE.out
          · exact HALL.out j (by omega), by first | rfl | trivial⟩
        case measure => simp [intOf]; omega
    · have hlti : ¬ (n : Int) < 26 := by omega
      have HR : Hid (isW s = false) := isW_no (fun j hj => HALL.out j (by omega))
      go_wp2
      go_ret
      exact ⟨by rw [HR.out]; rfl, HB.out⟩
end Go.Proofs.YtdlahabeegmjiaaDoor

namespace Go.Proofs.YtdlahabeegmjiaaDoor
open Go.RowKit

theorem pk_letter (s : ByteArray) : (pk s == 3) = isL (s.get! 0).toNat := by
  unfold pk
  obtain ⟨c, hc⟩ : ∃ c, s.get! 0 = c := ⟨_, rfl⟩
  rw [hc]
  have h47 : c = 47 ↔ c.toNat = 47 := ⟨fun h => by rw [h]; rfl, fun h => UInt8.toNat_inj.1 h⟩
  by_cases hL : isL c.toNat = true
  · have h := (isL_iff _).1 hL
    have hD : ¬ isD c.toNat = true := fun h' => by have := (isD_iff _).1 h'; omega
    rw [if_neg (by omega), if_neg (fun h' => by have := h47.1 h'.2.1; omega), if_neg (fun h' => by have := h47.1 h'.2.1; omega), if_neg hD, if_pos ((isR_iff _).2 (.inl hL)), hL]; rfl
  · have hL' : isL c.toNat = false := by simpa using hL
    rw [hL']
    split
    · rfl
    split
    · rfl
    split
    · rfl
    split
    · rfl
    rename_i h1 h2 h3 h4
    rw [if_neg (fun h' => by rcases (isR_iff _).1 h' with g | g <;> contradiction)]
    split <;> rfl
theorem vNm_eq (s : ByteArray) : vNm s = (decide (0 < s.size) && (decide (s.size ≤ 30) && (isL (s.get! 0).toNat && (run s 0 == s.size && !isW s)))) := by
  unfold vNm; rw [pk_letter, ← Bool.and_assoc, Bool.and_comm (decide (s.size ≤ 30)), Bool.and_assoc]

set_option maxHeartbeats 1000000 in
set_option maxRecDepth 1000000 in
theorem l2name_any (v : Value) (s : ByteArray) (w : World) (hv : BS w v s) (hl : s.size ≤ 1048576) :
    Calls Tryd.prog 57 #[v] w fun e w' => e = .returned (.bool (vNm s)) ∧ Below w.heap.size w w' := by
  have hcv := toStr_bs hv
  obtain ⟨a, b, o, c, rfl, ha, hc⟩ := hv
  have HN := hide (vNm_eq s)
  by_cases h0 : 0 < s.size
  · have d0 : decide ((0 : Int) < (s.size : Int)) = true := decide_eq_true (by omega)
    obtain rfl := ha h0
    by_cases h30 : s.size ≤ 30
    · have d1 : decide ((s.size : Int) ≤ 30) = true := decide_eq_true (by omega)
      rw [decide_eq_true h0, decide_eq_true h30, Bool.true_and, Bool.true_and] at HN
      have g0 : w.cell? ⟨b, o, none⟩ = some (bts s 0) := hc 0 h0
      have HR := hide (run_any b o c 0 s w hl (Nat.zero_le _) hc)
      have HL := hide (letter_any (s.get! 0).toNat w (UInt8.toNat_lt _))
      have HW := hide (fun w => isWord_any s w)
      unfold bts at g0
      obtain ⟨x, hx⟩ : ∃ x, (s.get! 0).toNat = x := ⟨_, rfl⟩
      obtain ⟨R, hR⟩ : ∃ R, run s 0 = R := ⟨_, rfl⟩
      obtain ⟨V, hV⟩ : ∃ V, vNm s = V := ⟨_, rfl⟩
      rw [hx] at g0 HL HN
      rw [hR] at HR HN
      rw [hV] at HN ⊢
      obtain ⟨Lt, hLt⟩ : ∃ Lt, isL x = Lt := ⟨_, rfl⟩
      obtain ⟨W, hW⟩ : ∃ W, isW s = W := ⟨_, rfl⟩
      rw [hLt] at HL HN
      simp only [hW] at HW HN
      clear hx hR hV hLt hW hc ha h30
      cases Lt with
      | false =>
        rw [Bool.false_and] at HN
        go_enter Tryd.func57, Tryd.ntmps57
        go_wp2_with fail
        refine HL.out.mono ?_
        rintro e w1 ⟨rfl, rfl⟩
        go_wp2
        go_ret
        exact ⟨by rw [HN.out]; rfl, Below.refl _ _⟩
      | true =>
        rw [Bool.true_and] at HN
        by_cases c2 : R = s.size
        · have e2 : ((R : Int) == (s.size : Int)) = true := by rw [nat_beq, beq_iff_eq]; exact c2
          rw [beq_iff_eq.2 c2, Bool.true_and] at HN
          clear c2
          go_enter Tryd.func57, Tryd.ntmps57
          go_wp2_with fail
          refine HL.out.mono ?_
          rintro e w1 ⟨rfl, rfl⟩
          go_wp2_with fail
          refine HR.out.mono ?_
          rintro e w2 ⟨rfl, rfl⟩
          go_wp2_with fail
          refine (HW.out _).mono ?_
          rintro e w3 ⟨rfl, hb3⟩
          have HB := hide hb3
          clear hb3
          go_wp2
          go_ret
          exact ⟨by rw [HN.out]; rfl, HB.out⟩
        · have e2 : ((R : Int) == (s.size : Int)) = false := by rw [nat_beq, beq_eq_false_iff_ne]; exact c2
          rw [beq_eq_false_iff_ne.2 c2, Bool.false_and] at HN
          clear c2
          go_enter Tryd.func57, Tryd.ntmps57
          go_wp2_with fail
          refine HL.out.mono ?_
          rintro e w1 ⟨rfl, rfl⟩
          go_wp2_with fail
          refine HR.out.mono ?_
          rintro e w2 ⟨rfl, rfl⟩
          go_wp2
          go_ret
          exact ⟨by rw [HN.out]; rfl, Below.refl _ _⟩
    · have d1 : decide ((s.size : Int) ≤ 30) = false := decide_eq_false (by omega)
      rw [decide_eq_false h30, Bool.false_and, Bool.and_false] at HN
      clear hc ha h30 hcv
      go_enter Tryd.func57, Tryd.ntmps57
      go_wp2
      go_ret
      exact ⟨by rw [HN.out]; rfl, Below.refl _ _⟩
  · have d0 : decide ((0 : Int) < (s.size : Int)) = false := decide_eq_false (by omega)
    rw [decide_eq_false h0, Bool.false_and] at HN
    have e0 : s.size = 0 := by omega
    clear hc ha h0 hcv d0 hl
    go_enter Tryd.func57, Tryd.ntmps57
    go_wp2
    go_ret
    exact ⟨by rw [HN.out]; rfl, Below.refl _ _⟩
end Go.Proofs.YtdlahabeegmjiaaDoor

namespace Go.Proofs.YtdlahabeegmjiaaDoor
open Go.RowKit


set_option maxHeartbeats 400000 in
set_option maxRecDepth 1000000 in
theorem szI_any (a : Option Addr) (n c : Nat) (left : Int) (w : World) (h0 : 0 ≤ left) (hl : left ≤ 1048576) (hn : (n : Int) ≤ 9223372036854775807) :
    Calls Tryd.prog 22 #[.slice a n c, .int .i64 left] w fun e w' => e = .returned (.int .i64 (szl n left)) ∧ w' = w := by
  have e1 : IntKind.i64.wrap (left - (n : Int)) = left - n := by rw [IntKind.wrap_i64]; omega
  by_cases c1 : left - (n : Int) < 0
  · have HZ : Hid (szl n left = -1) := by show _ = _; unfold szl; rw [if_pos c1]
    have d1 : decide (left - (n : Int) < 0) = true := decide_eq_true c1
    go_enter Tryd.func22, Tryd.ntmps22
    go_wp2
    go_ret
    exact ⟨by rw [HZ.out]; rfl, by trivial⟩
  · have HZ : Hid (szl n left = left - n) := by show _ = _; unfold szl; rw [if_neg c1]
    have d1 : decide (left - (n : Int) < 0) = false := decide_eq_false c1
    go_enter Tryd.func22, Tryd.ntmps22
    go_wp2
    go_ret
    exact ⟨by rw [HZ.out]; first | rfl | exact ret_int (by omega), by trivial⟩

end Go.Proofs.YtdlahabeegmjiaaDoor

namespace Go.Proofs.YtdlahabeegmjiaaDoor
open Go.RowKit

set_option maxHeartbeats 400000 in
set_option maxRecDepth 1000000 in
theorem szB_any (a : Option Addr) (n c : Nat) (left : Int) (w : World) (h0 : 0 ≤ left) (hl : left ≤ 1048576) (hn : (n : Int) ≤ 9223372036854775807) :
    Calls Tryd.prog 20 #[.slice a n c, .int .i64 left] w fun e w' => e = .returned (.int .i64 (szl n left)) ∧ w' = w := by
  have e1 : IntKind.i64.wrap (left - (n : Int)) = left - n := by rw [IntKind.wrap_i64]; omega
  by_cases c1 : left - (n : Int) < 0
  · have HZ : Hid (szl n left = -1) := by show _ = _; unfold szl; rw [if_pos c1]
    have d1 : decide (left - (n : Int) < 0) = true := decide_eq_true c1
    go_enter Tryd.func20, Tryd.ntmps20
    go_wp2
    go_ret
    exact ⟨by rw [HZ.out]; rfl, by trivial⟩
  · have HZ : Hid (szl n left = left - n) := by show _ = _; unfold szl; rw [if_neg c1]
    have d1 : decide (left - (n : Int) < 0) = false := decide_eq_false c1
    go_enter Tryd.func20, Tryd.ntmps20
    go_wp2
    go_ret
    exact ⟨by rw [HZ.out]; first | rfl | exact ret_int (by omega), by trivial⟩

end Go.Proofs.YtdlahabeegmjiaaDoor

namespace Go.Proofs.YtdlahabeegmjiaaDoor
open Go.RowKit

/-- What is left of a measure behind n. -/
def szf : List ByteArray → Int → Int
  | [], l => l
  | s :: r, l => if szl s.size l < 0 then -1 else szf r (szl s.size l)
def szs (L : List ByteArray) (left : Int) : Int := if szl L.length left < 0 then -1 else szf L (szl L.length left)
def szn (d : Nd) (left : Int) : Int :=
  if szl d.text.size left < 0 then -1 else if szs d.names (szl d.text.size left) < 0 then -1 else if szl d.types.length (szs d.names (szl d.text.size left)) < 0 then -1 else szl d.types.length (szs d.names (szl d.text.size left))
def szg : List Nd → Int → Int
  | [], l => l
  | d :: r, l => if szn d l < 0 then -1 else szg r (szn d l)
def szt (L : List Nd) (left : Int) : Int := if szl L.length left < 0 then -1 else szg L (szl L.length left)

theorem szf_le : ∀ (L : List ByteArray) (left : Int), 0 ≤ left → -1 ≤ szf L left ∧ szf L left ≤ left ∧ (0 ≤ szf L left → ∀ j, j < L.length → ((L.getD j .empty).size : Int) ≤ left)
  | [], left, h => ⟨by simp only [szf]; omega, by simp only [szf]; omega, fun _ j hj => absurd hj (Nat.not_lt_zero _)⟩
  | s :: r, left, h => by
    obtain ⟨h1, h2, h3⟩ := szl_le s.size left h
    rw [szf]
    by_cases c : szl s.size left < 0
    · rw [if_pos c]; exact ⟨by omega, by omega, fun g => absurd g (by omega)⟩
    · rw [if_neg c]
      obtain ⟨h4, h5, h6⟩ := szf_le r (szl s.size left) (by omega)
      refine ⟨h4, by omega, fun g j hj => ?_⟩
      cases j with
      | zero => exact h3 (by omega)
      | succ j =>
        have := h6 g j (by simpa using hj)
        show ((r.getD j .empty).size : Int) ≤ left
        omega
theorem szs_le (L : List ByteArray) (left : Int) (h : 0 ≤ left) : -1 ≤ szs L left ∧ szs L left ≤ left ∧ (0 ≤ szs L left → (L.length : Int) ≤ left ∧ ∀ j, j < L.length → ((L.getD j .empty).size : Int) ≤ left) := by
  obtain ⟨h1, h2, h3⟩ := szl_le L.length left h
  unfold szs
  by_cases c : szl L.length left < 0
  · rw [if_pos c]; exact ⟨by omega, by omega, fun g => absurd g (by omega)⟩
  · rw [if_neg c]
    obtain ⟨h4, h5, h6⟩ := szf_le L (szl L.length left) (by omega)
    exact ⟨h4, by omega, fun g => ⟨h3 (by omega), fun j hj => by have := h6 g j hj; omega⟩⟩
theorem szn_le (d : Nd) (left : Int) (h : 0 ≤ left) (hl : left ≤ 1048576) : -1 ≤ szn d left ∧ szn d left ≤ left ∧ (0 ≤ szn d left → NB d) := by
  obtain ⟨h1, h2, h3⟩ := szl_le d.text.size left h
  unfold szn
  by_cases c : szl d.text.size left < 0
  · rw [if_pos c]; exact ⟨by omega, by omega, fun g => absurd g (by omega)⟩
  rw [if_neg c]
  obtain ⟨h4, h5, h6⟩ := szs_le d.names (szl d.text.size left) (by omega)
  by_cases c2 : szs d.names (szl d.text.size left) < 0
  · rw [if_pos c2]; exact ⟨by omega, by omega, fun g => absurd g (by omega)⟩
  rw [if_neg c2]
  obtain ⟨h7, h8, h9⟩ := szl_le d.types.length (szs d.names (szl d.text.size left)) (by omega)
  by_cases c3 : szl d.types.length (szs d.names (szl d.text.size left)) < 0
  · rw [if_pos c3]; exact ⟨by omega, by omega, fun g => absurd g (by omega)⟩
  rw [if_neg c3]
  refine ⟨h7, by omega, fun g => ⟨by have := h3 (by omega); omega, by have := (h6 (by omega)).1; omega, fun j hj => by have := (h6 (by omega)).2 j hj; omega, by have := h9 (by omega); omega⟩⟩
theorem szg_le : ∀ (L : List Nd) (left : Int), 0 ≤ left → left ≤ 1048576 → -1 ≤ szg L left ∧ szg L left ≤ left ∧ (0 ≤ szg L left → ∀ j, j < L.length → NB (L.getD j .zero))
  | [], left, h, _ => ⟨by simp only [szg]; omega, by simp only [szg]; omega, fun _ j hj => absurd hj (Nat.not_lt_zero _)⟩
  | d :: r, left, h, hl => by
    obtain ⟨h1, h2, h3⟩ := szn_le d left h hl
    rw [szg]
    by_cases c : szn d left < 0
    · rw [if_pos c]; exact ⟨by omega, by omega, fun g => absurd g (by omega)⟩
    · rw [if_neg c]
      obtain ⟨h4, h5, h6⟩ := szg_le r (szn d left) (by omega) (by omega)
      refine ⟨h4, by omega, fun g j hj => ?_⟩
      cases j with
      | zero => exact h3 (by omega)
      | succ j => exact h6 g j (by simpa using hj)
theorem szt_le (L : List Nd) (left : Int) (h : 0 ≤ left) (hl : left ≤ 1048576) (h0 : 0 ≤ szt L left) : L.length ≤ 1048576 ∧ ∀ j, j < L.length → NB (L.getD j .zero) := by
  obtain ⟨h1, h2, h3⟩ := szl_le L.length left h
  unfold szt at h0
  by_cases c : szl L.length left < 0
  · rw [if_pos c] at h0; exact absurd h0 (by omega)
  · rw [if_neg c] at h0
    obtain ⟨_, _, h6⟩ := szg_le L (szl L.length left) (by omega) (by omega)
    exact ⟨by have := h3 (by omega); omega, h6 h0⟩


set_option maxHeartbeats 1000000 in
set_option maxRecDepth 1000000 in
theorem szSS_any (v : Value) (L : List ByteArray) (left : Int) (w : World) (h0 : 0 ≤ left) (hl : left ≤ 1048576) (hn : (L.length : Int) ≤ 9223372036854775807) (hz : ∀ j, j < L.length → ((L.getD j .empty).size : Int) ≤ 9223372036854775807) (h : SS w v L) :
    Calls Tryd.prog 21 #[v, .int .i64 left] w fun e w' => e = .returned (.int .i64 (szs L left)) ∧ w' = w := by
  obtain ⟨a, b, o, c, rfl, ha, hc⟩ := h
  have e1 : IntKind.i64.wrap (left - (L.length : Int)) = left - L.length := by rw [IntKind.wrap_i64]; omega
  have HC := hide hc
  have HZ := hide hz
  clear hc hz
  by_cases c1 : left - (L.length : Int) < 0
  · have HS : Hid (szs L left = -1) := by show _ = _; unfold szs szl; rw [if_pos c1, if_pos (by omega)]
    have d1 : decide (left - (L.length : Int) < 0) = true := decide_eq_true c1
    go_enter Tryd.func21, Tryd.ntmps21
    go_wp2
    go_ret
    exact ⟨by rw [HS.out]; rfl, by trivial⟩
  · have HS : Hid (szs L left = szf L (left - L.length)) := by show _ = _; unfold szs szl; rw [if_neg c1, if_neg c1]
    have d1 : decide (left - (L.length : Int) < 0) = false := decide_eq_false c1
    go_enter Tryd.func21, Tryd.ntmps21
    go_wp2
    go_loopw [1, 5] (fun lf ix wr => ∃ (k : Nat) (l : Int), k ≤ L.length ∧ lf = .int .i64 l ∧ ix = .int .i64 k ∧ 0 ≤ l ∧ l ≤ 1048576 ∧ szf (L.drop k) l = szf L (left - L.length) ∧ wr = w) (fun _ ix _ => L.length - (intOf ix).toNat)
    case atStart => exact ⟨0, left - L.length, Nat.zero_le _, rfl, rfl, by omega, by omega, rfl, rfl⟩
    case round =>
      obtain ⟨k, l, hk, rfl, rfl, hl0, hl1, hsz, rfl⟩ := hrel
      by_cases hlt : k < L.length
      · obtain rfl := ha (by omega)
        obtain ⟨x, hx, hxs⟩ := HC.out k hlt
        have hzk := HZ.out k hlt
        rw [drop_at L .empty k hlt, szf] at hsz
        obtain ⟨s, hs'⟩ : ∃ s, L.getD k .empty = s := ⟨_, rfl⟩
        rw [hs'] at hxs hzk hsz
        obtain ⟨ax, bx, ox, cx, rfl, _, _⟩ := hxs
        have HT := hide (szB_any ax s.size cx l wr hl0 hl1 hzk)
        obtain ⟨k1, k2, k3⟩ := szl_le s.size l hl0
        obtain ⟨r, hr⟩ : ∃ r, szl s.size l = r := ⟨_, rfl⟩
        rw [hr] at HT hsz k1 k2 k3
        have hlti : (k : Int) < (L.length : Int) := by omega
        have HSZ := hide hsz
        clear hs' hr hsz k3
        go_wp2_with fail
        refine HT.out.mono ?_
        rintro e w2 ⟨rfl, rfl⟩
        by_cases c2 : r < 0
        · have d2 : decide (r < 0) = true := decide_eq_true c2
          have HR : Hid (szf L (left - L.length) = -1) := by show _ = _; rw [← HSZ.out, if_pos c2]
          go_wp2
          go_ret
          exact ⟨by rw [HS.out, HR.out]; rfl, by trivial⟩
        · have d2 : decide (r < 0) = false := decide_eq_false c2
          have HR : Hid (szf (L.drop (k + 1)) r = szf L (left - L.length)) := by show _ = _; rw [← HSZ.out, if_neg c2]
          go_wp2
          go_roundw
          case rel => exact ⟨k + 1, r, by omega, rfl, by go_num, by omega, by omega, HR.out, by trivial⟩
          case measure => simp [intOf]; omega
      · have e : k = L.length := by omega
        have hge : ¬ (k : Int) < (L.length : Int) := by omega
        have HR : Hid (szf L (left - L.length) = l) := by show _ = _; rw [← hsz, e, List.drop_length, szf]
        clear hsz
        go_wp2
        go_ret
        exact ⟨by rw [HS.out, HR.out]; rfl, by trivial⟩

/-- A node's lists have lengths that an int holds. -/
structure NL (d : Nd) : Prop where
  text : (d.text.size : Int) ≤ 9223372036854775807
  names : (d.names.length : Int) ≤ 9223372036854775807
  each : ∀ j, j < d.names.length → ((d.names.getD j .empty).size : Int) ≤ 9223372036854775807
  types : (d.types.length : Int) ≤ 9223372036854775807

set_option maxHeartbeats 1000000 in
set_option maxRecDepth 1000000 in
theorem szN_any (d : Nd) (vt vn vy : Value) (left : Int) (w : World) (h0 : 0 ≤ left) (hl : left ≤ 1048576) (hd : NL d) (h : NV w d vt vn vy) :
    Calls Tryd.prog 9 #[nagg d vt vn vy, .int .i64 left] w fun e w' => e = .returned (.int .i64 (szn d left)) ∧ Below w.heap.size w w' := by
  obtain ⟨K, N, T, M, Y, C⟩ := d
  obtain ⟨q1, q2, q3, q4⟩ := hd
  obtain ⟨p1, p2, p3⟩ := h
  simp only at q1 q2 q3 q4 p1 p2 p3
  have HM : Hid (SS w vn M) := p2
  have HQ := hide q3
  unfold nagg
  simp only
  obtain ⟨at_, _, _, ct, rfl, _, _⟩ := p1
  obtain ⟨ay, _, _, cy, rfl, _, _⟩ := p3
  have hZ : szn ⟨K, N, T, M, Y, C⟩ left = if szl T.size left < 0 then -1 else if szs M (szl T.size left) < 0 then -1 else if szl Y.length (szs M (szl T.size left)) < 0 then -1 else szl Y.length (szs M (szl T.size left)) := rfl
  obtain ⟨k1, k2, _⟩ := szl_le T.size left h0
  have hT := fun w => szB_any at_ T.size ct left w h0 hl q1
  obtain ⟨r1, hr1⟩ : ∃ r, szl T.size left = r := ⟨_, rfl⟩
  rw [hr1] at hZ k1 k2
  simp only [hr1] at hT
  have HT := hide hT
  have HZ := hide hZ
  clear p2 q3 hZ hT hr1
  obtain ⟨W1, hW1⟩ : ∃ W1, w.alloc (.cells #[.int .i64 K, .int .i64 N, .slice at_ T.size ct, vn, .slice ay Y.length cy, .int .i64 C] 35) = W1 := ⟨_, rfl⟩
  have HB1 : Hid (Below w.heap.size w W1) := by rw [← hW1]; exact (Below.refl _ _).alloc (Nat.le_refl _) _
  have HM1 : Hid (SS W1 vn M) := HM.out.below HB1.out
  have cA3 : W1.cell? ⟨w.heap.size, 3, none⟩ = some vn := by rw [← hW1]; exact (Blk.new _ _ _).cell 3
  have cA4 : W1.cell? ⟨w.heap.size, 4, none⟩ = some (.slice ay Y.length cy) := by rw [← hW1]; exact (Blk.new _ _ _).cell 4
  have HW := hide hW1
  clear hW1
  go_enter Tryd.func9, Tryd.ntmps9
  go_wp2_with fail
  rw [HW.out]
  refine (HT.out _).mono ?_
  rintro e w2 ⟨rfl, hw2⟩
  rw [hw2]
  clear hw2
  by_cases c1 : r1 < 0
  · have d1 : decide (r1 < 0) = true := decide_eq_true c1
    have HR := hide (show szn ⟨K, N, T, M, Y, C⟩ left = -1 by rw [HZ.out, if_pos c1])
    go_wp2
    go_ret
    exact ⟨by rw [HR.out]; rfl, HB1.out⟩
  have d1 : decide (r1 < 0) = false := decide_eq_false c1
  obtain ⟨k3, k4, _⟩ := szs_le M r1 (by omega)
  have HS := hide (szSS_any vn M r1 W1 (by omega) (by omega) q2 HQ.out HM1.out)
  have HZ2 := hide (show szn ⟨K, N, T, M, Y, C⟩ left = _ by rw [HZ.out, if_neg c1])
  obtain ⟨r2, hr2⟩ : ∃ r, szs M r1 = r := ⟨_, rfl⟩
  rw [hr2] at k3 k4 HS HZ2
  clear hr2
  go_wp2_with fail
  refine HS.out.mono ?_
  rintro e w3 ⟨rfl, hw3⟩
  rw [hw3]
  clear hw3
  by_cases c2 : r2 < 0
  · have d2 : decide (r2 < 0) = true := decide_eq_true c2
    have HR := hide (show szn ⟨K, N, T, M, Y, C⟩ left = -1 by rw [HZ2.out, if_pos c2])
    go_wp2
    go_ret
    exact ⟨by rw [HR.out]; rfl, HB1.out⟩
  have d2 : decide (r2 < 0) = false := decide_eq_false c2
  have HY := hide (fun w => szI_any ay Y.length cy r2 w (by omega) (by omega) q4)
  have HZ3 := hide (show szn ⟨K, N, T, M, Y, C⟩ left = _ by rw [HZ2.out, if_neg c2])
  obtain ⟨k5, k6, _⟩ := szl_le Y.length r2 (by omega)
  obtain ⟨r3, hr3⟩ : ∃ r, szl Y.length r2 = r := ⟨_, rfl⟩
  simp only [hr3] at HY HZ3 k5 k6
  clear hr3
  go_wp2_with fail
  refine (HY.out _).mono ?_
  rintro e w4 ⟨rfl, hw4⟩
  rw [hw4]
  clear hw4
  by_cases c3 : r3 < 0
  · have d3 : decide (r3 < 0) = true := decide_eq_true c3
    have HR := hide (show szn ⟨K, N, T, M, Y, C⟩ left = -1 by rw [HZ3.out, if_pos c3])
    go_wp2
    go_ret
    exact ⟨by rw [HR.out]; rfl, HB1.out⟩
  · have d3 : decide (r3 < 0) = false := decide_eq_false c3
    have HR := hide (show szn ⟨K, N, T, M, Y, C⟩ left = r3 by rw [HZ3.out, if_neg c3])
    go_wp2
    go_ret
    exact ⟨by rw [HR.out]; rfl, HB1.out⟩
end Go.Proofs.YtdlahabeegmjiaaDoor

namespace Go.Proofs.YtdlahabeegmjiaaDoor
open Go.RowKit

theorem vfd_ty {d : Nd} (h : vTy d = false) : vFd d = false := by unfold vFd; rw [h]; simp
theorem vfd_ns {d : Nd} (h : vNs d = false) : vFd d = false := by unfold vFd; rw [h]; simp
theorem vfd_tx {d : Nd} (h : vTx d = false) : vFd d = false := by unfold vFd; rw [h]; simp
theorem vfd_lo {d : Nd} (h : ¬ 0 ≤ d.n) : vFd d = false := by unfold vFd; rw [decide_eq_false h]; simp
theorem vfd_ok {d : Nd} (h1 : vTx d = true) (h2 : vTy d = true) (h3 : vNs d = true) (h4 : 0 ≤ d.n) : vFd d = decide (d.n ≤ gNk d.kind) := by unfold vFd; rw [h1, h2, h3, decide_eq_true h4]; simp
end Go.Proofs.YtdlahabeegmjiaaDoor
