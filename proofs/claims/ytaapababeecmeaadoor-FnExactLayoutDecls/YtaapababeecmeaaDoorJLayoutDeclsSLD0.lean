/-
  Plainly: the declarations of a layout; the walk of l4at.
-/
import Derived.Test.YtaapababeecmeaaDoorJLayoutDeclsSLY
import Derived.Test.YtaapababeecmeaaDoorJLayoutDeclsDcOW
namespace Go.Proofs.YtaapababeecmeaaDoor
open Go.RowKit

/-- A declaration of one cell. -/
def dAt (kind w : Int) (c : Int) : Dc := ⟨kind, c % w, c / w, c % w, c / w, 0, 0, .empty, 0⟩
def barD (d : Ly) (c k : Nat) : List Dc :=
  if 0 ≤ toC d.w d.h c k ∧ 0 < d.cost.getD (toC d.w d.h c k).toNat 0 ∧ bitAt (d.exits.getD c 0) k = false then [{ dAt 12 d.w c with dir := k }] else []
def barsTo (d : Ly) (c : Nat) : Nat → List Dc
  | 0 => []
  | k + 1 => barsTo d c k ++ barD d c k
def costD (d : Ly) (c : Nat) : List Dc := if d.cost.getD c 0 = 1 then [] else [{ dAt 13 d.w c with cost := d.cost.getD c 0 }]
def cellD (d : Ly) (c : Nat) : List Dc := if d.cost.getD c 0 = 0 then [dAt 8 d.w c] else costD d c ++ barsTo d c 4
def gridD (d : Ly) : Dc := ⟨7, d.w, d.h, d.w, d.h, 0, 0, .empty, 0⟩
def cellsTo (d : Ly) : Nat → List Dc
  | 0 => [gridD d]
  | c + 1 => cellsTo d c ++ cellD d c
def tgD (d : Ly) (t : Tg) : Dc := { dAt (14 + t.kind) d.w t.cell with name := t.name }
def tgsTo (d : Ly) : Nat → List Dc
  | 0 => cellsTo d d.cost.length
  | i + 1 => tgsTo d i ++ [tgD d (d.targets.getD i .zero)]
open Classical in
/-- The declarations of a layout. -/
noncomputable def layD (d : Ly) : List Dc := if LyOk d then tgsTo d d.targets.length else []
theorem barsTo_le (d : Ly) (c : Nat) : ∀ k, (barsTo d c k).length ≤ k
  | 0 => Nat.le_refl _
  | k + 1 => by
    have := barsTo_le d c k
    have h : (barD d c k).length ≤ 1 := by unfold barD; split <;> simp
    unfold barsTo
    rw [List.length_append]
    omega
theorem cellD_le (d : Ly) (c : Nat) : (cellD d c).length ≤ 5 := by
  have := barsTo_le d c 4
  have h : (costD d c).length ≤ 1 := by unfold costD; split <;> simp
  unfold cellD
  split
  · simp
  · rw [List.length_append]; omega
theorem cellsTo_le (d : Ly) : ∀ c, (cellsTo d c).length ≤ 1 + 5 * c
  | 0 => by simp [cellsTo]
  | c + 1 => by
    have := cellsTo_le d c
    have := cellD_le d c
    unfold cellsTo
    rw [List.length_append]
    omega
theorem barsTo_name (d : Ly) (c : Nat) : ∀ k, ∀ x ∈ barsTo d c k, x.name = .empty
  | 0, x, h => by cases h
  | k + 1, x, h => by
    rcases List.mem_append.1 h with h | h
    · exact barsTo_name d c k x h
    · unfold barD at h
      split at h
      · rw [List.mem_singleton.1 h]; rfl
      · cases h
theorem cellsTo_name (d : Ly) : ∀ c, ∀ x ∈ cellsTo d c, x.name = .empty
  | 0, x, h => by rw [List.mem_singleton.1 h]; rfl
  | c + 1, x, h => by
    rcases List.mem_append.1 h with h | h
    · exact cellsTo_name d c x h
    · unfold cellD at h
      split at h
      · rw [List.mem_singleton.1 h]; rfl
      · rcases List.mem_append.1 h with h | h
        · unfold costD at h
          split at h
          · cases h
          · rw [List.mem_singleton.1 h]; rfl
        · exact barsTo_name d c 4 x h
theorem tgsTo_le (d : Ly) : ∀ i, (tgsTo d i).length ≤ 1 + 5 * d.cost.length + i
  | 0 => by have := cellsTo_le d d.cost.length; unfold tgsTo; omega
  | i + 1 => by
    have := tgsTo_le d i
    unfold tgsTo
    rw [List.length_append]
    simp only [List.length_cons, List.length_nil]
    omega

theorem dcOw_new (w : World) (d : Dc) (v : Value) (B : Nat) (hB : B ≤ w.heap.size) : DcOw (w.alloc (.cells (dcc d v).toArray 59)) B (.slice (some ⟨w.heap.size, 0, none⟩) 1 1) [(d, v)] := by
  refine ⟨by rw [dccs_length], .inr ⟨w.heap.size, 1, (dcc d v).toArray, rfl, hB, Blk.new w _ _, Nat.le_refl _, by unfold maxLen; omega, rfl, ?_⟩⟩
  rfl

theorem blk_ty {w : World} {b : Nat} {t t' : TypeId} {cs cs' : Array Value} (h : Blk w b t cs) (h' : Blk w b t' cs') : t = t' := by
  unfold Blk at h h'
  rw [h] at h'
  simp at h'
  exact h'.2
/-- A name that lies in a block of its own, or is none. -/
def NmOk (w : World) (v : Value) (s : ByteArray) : Prop := (v = .slice none 0 0 ∧ s = .empty) ∨ ∃ g c cur, v = .slice (some ⟨g, 0, none⟩) s.size c ∧ Blk w g 5 cur ∧ ∀ j, j < s.size → cur[j]? = some (bts s j)
theorem NmOk.bs {w : World} {v : Value} {s : ByteArray} (h : NmOk w v s) : BS w v s := by
  rcases h with ⟨rfl, rfl⟩ | ⟨g, c, cur, rfl, hb, hc⟩
  · exact ⟨none, 0, 0, 0, rfl, fun h => absurd h (by decide), fun j hj => absurd hj (Nat.not_lt_zero _)⟩
  · exact ⟨_, g, 0, c, rfl, fun _ => rfl, fun j hj => by rw [Nat.zero_add, hb.cell j]; exact hc j hj⟩
theorem NmOk.one {w : World} {v : Value} {s : ByteArray} (h : NmOk w v s) : v.oneCell' = true := by
  rcases h with ⟨rfl, _⟩ | ⟨g, c, cur, rfl, _⟩ <;> rfl
theorem NmOk.keep {w w' : World} {v : Value} {s : ByteArray} (h : NmOk w v s) (hk : ∀ g cur, Blk w g 5 cur → Blk w' g 5 cur) : NmOk w' v s := by
  rcases h with h | ⟨g, c, cur, h1, h2, h3⟩
  · exact .inl h
  · exact .inr ⟨g, c, cur, h1, hk g cur h2, h3⟩
theorem Tryd.info5n : (Tryd.prog.info? 5).map (fun i => (i.zero, i.size, i.bytes)) = some (some (.int .u8 0), 1, 1) := by kernel_rfl
theorem nmOk_new {w : World} {B g cap : Nat} {s : ByteArray} (h : w.ownsRow B 5 1 (.slice (some ⟨g, 0, none⟩) (0 + s.size) cap) (0 + s.size) ([] ++ (List.range s.size).map (bts s))) : NmOk w (.slice (some ⟨g, 0, none⟩) s.size cap) s := by
  rw [Nat.zero_add, List.nil_append] at h
  rcases h.2 with ⟨h1, _⟩ | ⟨g', c, cur, hv, _, hg, _, _, _, ht⟩
  · cases h1
  · cases hv
    refine .inr ⟨g, cap, cur, rfl, hg, fun j hj => ?_⟩
    have hh := congrArg (fun l => l[j]?) ht
    simp only [List.getElem?_take, Nat.mul_one, if_pos hj, Array.getElem?_toList, List.getElem?_map, List.getElem?_range hj, Option.map_some] at hh
    exact hh

/-- append of one, laid in a new block, onto a row of the call's own. -/
theorem wp_app1Dc {ops : Array Oper} {rest : List Oper} {o : Oper} {a : Act} {Q : Exit → Act → World → Prop} {W : World} (hgd : o.guard = none) (s x : Operand)
    (ho : o.op = .call { callee := .builtin .append, args := #[s, x], argTypes := #[34, 34] }) (B : Nat) (v : Value) (xs : List (Dc × Value)) (hs : a.eval s = v) (hown : DcOw W B v xs)
    (d : Dc) (u : Value) (g0 : Nat) (hx : a.eval x = .slice (some ⟨g0, 0, none⟩) 1 1) (hg0 : W.heap.size = g0) (hone : u.oneCell' = true) (hlen : xs.length + 1 ≤ 100000000) (hbase : B ≤ W.heap.size)
    (h : ∀ v' w' l, Hid (l = xs ++ [(d, u)]) → DcOw w' B v' l → Below B W w' → Hid (∀ g t cur, t ≠ 59 → Blk W g t cur → Blk w' g t cur) → Hid (v'.ownBlock = v.ownBlock ∨ v'.ownBlock = some (W.heap.size + 1)) → wpList Tryd.prog ops Q rest (a.put o.dst v') w') : wpList Tryd.prog ops Q (o :: rest) a (W.alloc (.cells (dcc d u).toArray 59)) := by
  subst hg0
  have hk := hown.kept ((Below.refl _ W).alloc (Nat.le_refl _) (.cells (dcc d u).toArray 59))
  have hB1 : Below B W (W.alloc (.cells (dcc d u).toArray 59)) := (Below.refl _ _).alloc hbase _
  refine wp_appDc hgd s x ho B v xs hs hk W.heap.size 0 1 [(d, u)] hx (fun j hj p hp i hi => ?_) (fun p hp => by rw [List.mem_singleton.1 hp]; exact hone) hlen (by rw [World.size_alloc]; omega) (fun v' w' l h1 h2 h3 h4 => h v' w' l h1 h2 (hk.below hB1 (by rw [World.size_alloc]; omega) h3) (fun g t cur ht hg => (h3.block g (by rw [World.size_alloc]; have := hg.lt; omega) (fun e => ht (by
    obtain ⟨cur', hb'⟩ := hown.blk e.symm
    have hg' : W.heap[g]? = _ := hg
    rw [hb'] at hg'
    simp at hg'
    exact hg'.2.symm))).trans (hg.alloc _)) (by rw [World.size_alloc] at h4; exact h4))
  obtain rfl : j = 0 := by simp at hj; omega
  obtain rfl : (d, u) = p := by simpa using hp
  rw [Nat.zero_mul, Nat.zero_add, Nat.zero_add, (Blk.new _ _ _).cell i, List.getElem?_toArray]

set_option maxHeartbeats 1000000 in
set_option maxRecDepth 1000000 in
theorem l4at_any (X Y : Int) (v2 v3 v4 : Value) (kind : Int) (c : Nat) (a2 a3 a4 : Option Addr) (n2 n3 n4 c2 c3 c4 : Nat) (h2 : v2 = .slice a2 n2 c2) (h3 : v3 = .slice a3 n3 c3) (h4 : v4 = .slice a4 n4 c4) (w : World) (hX : 1 ≤ X) (hc : c ≤ 100000) :
    Calls Tryd.prog 36 #[.agg #[.int .i64 X, .int .i64 Y, v2, v3, v4], .int .i64 kind, .int .i64 (c : Nat)] w fun e w' => e = .returned (.agg #[.int .i64 kind, .int .i64 ((c : Int) % X), .int .i64 ((c : Int) / X), .int .i64 ((c : Int) % X), .int .i64 ((c : Int) / X), .int .i64 0, .int .i64 0, .slice none 0 0, .int .i64 0]) ∧ Below w.heap.size w w' := by
  subst h2 h3 h4
  have hdm : (c : Int).tdiv X = (c : Int) / X := Int.tdiv_eq_ediv_of_nonneg (by omega)
  have hmm : (c : Int).tmod X = (c : Int) % X := Int.tmod_eq_emod_of_nonneg (by omega)
  have hWne : (X == 0) = false := by rw [beq_eq_false_iff_ne]; omega
  have hq0 : 0 ≤ (c : Int) / X := Int.ediv_nonneg (by omega) (by omega)
  have hq1 : (c : Int) / X ≤ 100000 := by
    have := Int.ediv_le_self X (show (0 : Int) ≤ (c : Int) by omega)
    omega
  obtain ⟨x, hx⟩ : ∃ x, (c : Int) % X = x := ⟨_, rfl⟩
  obtain ⟨y, hy⟩ : ∃ y, (c : Int) / X = y := ⟨_, rfl⟩
  rw [hx] at hmm ⊢
  rw [hy] at hdm hq0 hq1 ⊢
  clear hx hy
  go_enter Tryd.func36, Tryd.ntmps36
  go_wp2
  refine bodyPost_ret (results_cell_row rfl _ _ (w.heap.size + 1) 59 #[.int .i64 kind, .int .i64 x, .int .i64 y, .int .i64 x, .int .i64 y, .int .i64 0, .int .i64 0, .slice none 0 0, .int .i64 0] (0, 0) _ rfl ?hg Tryd.underlying59 rfl (by kernel_rfl)) rfl ?_
  case hg =>
    have := Blk.new (w.alloc (.cells #[.int .i64 X, .int .i64 Y, .slice a2 n2 c2, .slice a3 n3 c3, .slice a4 n4 c4] 30)) 59 #[.int .i64 kind, .int .i64 x, .int .i64 y, .int .i64 x, .int .i64 y, .int .i64 0, .int .i64 0, .slice none 0 0, .int .i64 0]
    rw [World.size_alloc] at this
    exact this
  exact ⟨rfl, ((Below.refl _ _).alloc (Nat.le_refl _) _).alloc (by simp) _⟩
end Go.Proofs.YtaapababeecmeaaDoor
