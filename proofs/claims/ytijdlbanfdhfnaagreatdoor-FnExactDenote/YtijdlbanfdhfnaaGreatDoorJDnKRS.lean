/-
  Goals that are alike, closed once.
  Where a way leads lies in the grid.
  A struct of five cells, written whole; as a result.
  Targets put in by their names; rows of targets appended.
-/
import Derived.Test.YtijdlbanfdhfnaaGreatDoorJDnT
import Derived.Test.YtijdlbanfdhfnaaGreatDoorJDnSL4
import Derived.Test.YtijdlbanfdhfnaaGreatDoorJDnAI0
import Derived.Laws.Rows
import Derived.Test.YtijdlbanfdhfnaaGreatDoorJDnSAP
import Derived.Laws.AppendOwnNone
namespace Go.Proofs.YtijdlbanfdhfnaaGreatDoor
open Go.RowKit

theorem key_rest {T G : Prop} (rest : Hid T → G) (key : T) : G := rest (hide key)
end Go.Proofs.YtijdlbanfdhfnaaGreatDoor

namespace Go.Proofs.YtijdlbanfdhfnaaGreatDoor
open Go.RowKit

theorem toC_lt {w h c : Int} (hw : 1 ≤ w) (hc0 : 0 ≤ c) (hc : c < w * h) (d : Nat) : toC w h c d < w * h := by
  obtain ⟨h1, h2, h3, h4⟩ := toC_div hw hc0 hc
  have e : c = w * (c / w) + c % w := (Int.mul_ediv_add_emod c w).symm
  have hp : 0 < w * h := by omega
  generalize c / w = y at *
  generalize c % w = x at *
  have ew : w * y = y * w := Int.mul_comm _ _
  have eh : w * h = h * w := Int.mul_comm _ _
  have m1 : (y + 1) * w ≤ h * w := Int.mul_le_mul_of_nonneg_right (by omega) (by omega)
  have e1 : (y + 1) * w = y * w + w := by rw [Int.add_mul, Int.one_mul]
  have e2 : (y - 1) * w = y * w - w := by rw [Int.sub_mul, Int.one_mul]
  have key : toC w h c d = (if d = 0 then (if y - 1 < 0 then -1 else (y - 1) * w + x) else if d = 1 then (if w ≤ x + 1 then -1 else y * w + (x + 1)) else if d = 2 then (if h ≤ y + 1 then -1 else (y + 1) * w + x) else (if x - 1 < 0 then -1 else y * w + (x - 1))) := by
    have ey : c / w = y := by rw [e, Int.add_comm, Int.add_mul_ediv_left _ _ (by omega), Int.ediv_eq_zero_of_lt h3 h4, Int.zero_add]
    have ex : c % w = x := by rw [e, Int.add_comm, Int.add_mul_emod_self_left, Int.emod_eq_of_lt h3 h4]
    unfold toC; rw [ey, ex]
  rw [key]
  split
  · split <;> omega
  · split
    · split <;> omega
    · split
      · split
        · omega
        · have m2 : (y + 1 + 1) * w ≤ h * w := Int.mul_le_mul_of_nonneg_right (by omega) (by omega)
          have e3 : (y + 1 + 1) * w = y * w + w + w := by rw [Int.add_mul, Int.one_mul, e1]
          omega
      · split <;> omega
end Go.Proofs.YtijdlbanfdhfnaaGreatDoor

namespace Go.Proofs.YtijdlbanfdhfnaaGreatDoor
open Go.RowKit

theorem Blk.five {w : World} {g : Nat} {t : TypeId} {x0 x1 x2 x3 x4 : Value} (h : Blk w g t #[x0, x1, x2, x3, x4]) (a0 a1 a2 a3 a4 : Value) : Blk (((((w.setCell ⟨g, 0, none⟩ a0).setCell ⟨g, 1, none⟩ a1).setCell ⟨g, 2, none⟩ a2).setCell ⟨g, 3, none⟩ a3).setCell ⟨g, 4, none⟩ a4) g t #[a0, a1, a2, a3, a4] :=
  ((((h.set 0 a0).set 1 a1).set 2 a2).set 3 a3).set 4 a4
theorem below_five {w0 w : World} {g B : Nat} (h : Below B w0 w) (hg : B ≤ g) (a0 a1 a2 a3 a4 : Value) : Below B w0 (((((w.setCell ⟨g, 0, none⟩ a0).setCell ⟨g, 1, none⟩ a1).setCell ⟨g, 2, none⟩ a2).setCell ⟨g, 3, none⟩ a3).setCell ⟨g, 4, none⟩ a4) :=
  ((((h.setCell hg a0).setCell hg a1).setCell hg a2).setCell hg a3).setCell hg a4
theorem typed_five {w : World} {g k : Nat} {t T : TypeId} {cs cs0 : Array Value} (hM : Blk w g T cs0) (h : Blk w k t cs) (ht : t ≠ T) (a0 a1 a2 a3 a4 : Value) : Blk (((((w.setCell ⟨g, 0, none⟩ a0).setCell ⟨g, 1, none⟩ a1).setCell ⟨g, 2, none⟩ a2).setCell ⟨g, 3, none⟩ a3).setCell ⟨g, 4, none⟩ a4) k t cs :=
  set_typed ((((hM.set 0 a0).set 1 a1).set 2 a2).set 3 a3) (set_typed (((hM.set 0 a0).set 1 a1).set 2 a2) (set_typed ((hM.set 0 a0).set 1 a1) (set_typed (hM.set 0 a0) (set_typed hM h ht) ht) ht) ht) ht
theorem results_row_tmp {fn : Func} {p u : Tmp} {ty : TypeId} (h : fn.results = #[.cell p ty, .tmp u]) (P : Program) (tmps : Array Value) (w : World) (g : Nat) (t : TypeId) (cs : Array Value) (fr : Nat × Nat) {fs : Array Field}
    (hp : tmps.getD p undef = .pointer (some ⟨g, 0, none⟩)) (hg : w.heap[g]? = some (.cells cs t fr))
    (hu : P.underlying ty = some (.struct fs)) (hi : (P.info? ty).map (·.size) = some cs.size) :
    (results fn tmps).run P w = .ok (.tuple #[.agg cs, tmps.getD u undef]) w := by
  have hp' : tmps[p]?.getD undef = .pointer (some ⟨g, 0, none⟩) := by simpa using hp
  simp [results, h, hp', asAddr, run_loadVar_row w g t ty cs fr _ hg hu rfl hi]

/-- .. beside two numbers. -/
theorem results_row_tmp2 {fn : Func} {p u v : Tmp} {ty : TypeId} (h : fn.results = #[.cell p ty, .tmp u, .tmp v]) (P : Program) (tmps : Array Value) (w : World) (g : Nat) (t : TypeId) (cs : Array Value) (fr : Nat × Nat) {fs : Array Field}
    (hp : tmps.getD p undef = .pointer (some ⟨g, 0, none⟩)) (hg : w.heap[g]? = some (.cells cs t fr))
    (hu : P.underlying ty = some (.struct fs)) (hi : (P.info? ty).map (·.size) = some cs.size) :
    (results fn tmps).run P w = .ok (.tuple #[.agg cs, tmps.getD u undef, tmps.getD v undef]) w := by
  have hp' : tmps[p]?.getD undef = .pointer (some ⟨g, 0, none⟩) := by simpa using hp
  simp [results, h, hp', asAddr, run_loadVar_row w g t ty cs fr _ hg hu rfl hi]
end Go.Proofs.YtijdlbanfdhfnaaGreatDoor

namespace Go.Proofs.YtijdlbanfdhfnaaGreatDoor
open Go.RowKit

theorem srtT_snoc (t : Tg) : ∀ (L A : List Tg), srtT A (L ++ [t]) = insT t (srtT A L)
  | [], _ => rfl
  | x :: r, A => by show srtT (insT x A) (r ++ [t]) = insT t (srtT (insT x A) r); exact srtT_snoc t r _
theorem insT_at {t : Tg} : ∀ {L : List Tg} {i : Nat}, i ≤ L.length → (∀ j x, j < i → L[j]? = some x → Go.Op.bytesLess x.name.toList t.name.toList = true) → (∀ x, L[i]? = some x → Go.Op.bytesLess x.name.toList t.name.toList = false) → insT t L = L.take i ++ t :: L.drop i
  | [], i, hi, _, _ => by
    obtain rfl : i = 0 := by simpa using hi
    rfl
  | x :: r, 0, _, _, h => by
    have := h x rfl
    unfold insT
    rw [if_neg (by rw [this]; decide)]
    rfl
  | x :: r, i + 1, hi, h1, h2 => by
    have h0 := h1 0 x (by omega) rfl
    unfold insT
    rw [if_pos h0, insT_at (L := r) (i := i) (by simpa using hi) (fun j y hj hy => h1 (j + 1) y (by omega) hy) (fun y hy => h2 y hy)]
    rfl
theorem TgApt.new {W : World} {B : Nat} {u v v' : Value} {L : List (Tg × Value)} (ha : Apt u v) (hu : TgOw W B u L) (hv : v'.ownBlock = v.ownBlock ∨ v'.ownBlock = some W.heap.size) : Apt u v' := by
  unfold Apt at *
  rcases hv with hv | hv
  · rw [hv]; exact ha
  · right
    rw [hv]
    intro e
    have := (World.ownsRow.lt hu _ e).2
    omega
theorem TgOw.cap {w : World} {B n c : Nat} {a : Option Addr} {L : List (Tg × Value)} (h : TgOw w B (.slice a n c) L) : n ≤ c ∧ n = L.length ∧ (a = none → c = 0) := by
  rcases h.2 with ⟨h1, h0⟩ | ⟨g, c', cur, hv, _, _, hn, _⟩
  · cases h1; exact ⟨Nat.le_refl _, h0.symm, fun _ => rfl⟩
  · cases hv; exact ⟨hn, rfl, fun h => by cases h⟩
/-- How such a row lies. -/
theorem TgOw.form {w : World} {B : Nat} {v : Value} {L : List (Tg × Value)} (h : TgOw w B v L) : (v = .slice none 0 0 ∧ L = []) ∨ ∃ b c, v = .slice (some ⟨b, 0, none⟩) L.length c ∧ L.length ≤ c ∧ B ≤ b ∧ b < w.heap.size ∧ ∀ j p, L[j]? = some p → ∀ i, i < 3 → w.cell? ⟨b, j * 3 + i, none⟩ = (tgc p.1 p.2)[i]? := by
  obtain ⟨hl, h⟩ := h
  rcases h with ⟨rfl, h0⟩ | ⟨g, c, cur, rfl, hb, hg, hn, _, hcz, ht⟩
  · exact .inl ⟨rfl, List.length_eq_zero_iff.1 h0⟩
  · refine .inr ⟨g, c, rfl, hn, hb, (Array.getElem?_eq_some_iff.1 hg).1, fun j p hp i hi => ?_⟩
    have hj : j < L.length := by
      rcases Nat.lt_or_ge j L.length with h | h
      · exact h
      · rw [List.getElem?_eq_none h] at hp; cases hp
    rw [← tgcs_at L j p hp i hi, ← ht]
    have hlt : j * 3 + i < L.length * 3 := by
      have : (j + 1) * 3 ≤ L.length * 3 := Nat.mul_le_mul_right _ hj
      omega
    rw [List.getElem?_take, if_pos hlt, Array.getElem?_toList]
    simp [World.cell?, hg]
/-- append of some, or of none, onto a row of the call's own. -/
theorem wp_appTgs {ops : Array Oper} {rest : List Oper} {o : Oper} {a : Act} {Q : Exit → Act → World → Prop} {w : World} (hgd : o.guard = none) (s x : Operand)
    (ho : o.op = .call { callee := .builtin .append, args := #[s, x], argTypes := #[25, 25] }) (B : Nat) (v : Value) (xs : List (Tg × Value)) (hs : a.eval s = v) (hown : TgOw w B v xs)
    (ys : List (Tg × Value)) (m : Nat) (hm : ys.length = m) (b : Option Addr) (c : Nat) (hx : a.eval x = .slice b m c) (hb : (b = none ∧ ys = [] ∧ c = 0) ∨ ∃ g f, b = some ⟨g, f, none⟩ ∧ ∀ j, j < ys.length → ∀ p, ys[j]? = some p → ∀ i, i < 3 → w.cell? ⟨g, f + (j * 3 + i), none⟩ = (tgc p.1 p.2)[i]?) (hone : ∀ p ∈ ys, p.2.oneCell' = true) (hlen : xs.length + ys.length ≤ 100000000) (hbase : B ≤ w.heap.size)
    (h : ∀ v' w' l, Hid (l = xs ++ ys) → TgOw w' B v' l → w.grownBy w' v.ownBlock → (v'.ownBlock = v.ownBlock ∨ v'.ownBlock = some w.heap.size) → wpList Tryz.prog ops Q rest (a.put o.dst v') w') : wpList Tryz.prog ops Q (o :: rest) a w := by
  subst hm
  rcases hb with ⟨rfl, rfl, rfl⟩ | ⟨g, f, rfl, hc⟩
  · obtain ⟨i0, hi, _⟩ := info_partsTg Tryz.infoTg
    refine wpList_append_own_none hgd s x 25 ho B 50 i0 3 Tryz.underlying25 hi v xs.length (tgcs xs) hs hown hx (h v w xs (by show _ = _; rw [List.append_nil]) hown ⟨rfl, rfl, rfl, Nat.le_refl _, fun _ _ _ => rfl⟩ (.inl rfl))
  · exact wp_appTg hgd s x ho B v xs hs hown g f c ys hx hc hone hlen hbase h
end Go.Proofs.YtijdlbanfdhfnaaGreatDoor
