/-
  Plainly: rows of back edges; what distances holds while it runs.
-/
import Derived.Test.YtochfhoaiekioaaJRtHPP
import Derived.Test.YtochfhoaiekioaaJRtHPK
import Derived.Test.YtochfhoaiekioaaJRtShelf
namespace Go.Proofs.Ytochfhoaiekioaa
open Go.RowKit

theorem rows_mono (S : List Ed) : ∀ {n c : Nat}, c ≤ n → (rowsN S c).length ≤ (rowsN S n).length
  | 0, c, h => by obtain rfl : c = 0 := by omega
                  exact Nat.le_refl _
  | n + 1, c, h => by
    by_cases e : c = n + 1
    · subst e; exact Nat.le_refl _
    · have := rows_mono S (n := n) (c := c) (by omega)
      show _ ≤ (rowsN S n ++ flt n S).length
      rw [List.length_append]
      omega
theorem rows_next (S : List Ed) (c : Nat) : (rowsN S (c + 1)).length = (rowsN S c).length + (flt c S).length := by
  show (rowsN S c ++ flt c S).length = _
  rw [List.length_append]
theorem rows_at (S : List Ed) {c k : Nat} : ∀ {n : Nat}, c < n → k < (flt c S).length → (rowsN S n)[(rowsN S c).length + k]? = (flt c S)[k]?
  | 0, h, _ => by omega
  | n + 1, h, hk => by
    show (rowsN S n ++ flt n S)[_]? = _
    by_cases e : c = n
    · subst e
      rw [List.getElem?_append_right (by omega), Nat.add_sub_cancel_left]
    · have h1 := rows_mono S (n := n) (c := c + 1) (by omega)
      rw [rows_next] at h1
      rw [List.getElem?_append_left (by omega)]
      exact rows_at S (by omega) hk
theorem start_at {n c : Nat} (S : List Ed) (h : c ≤ n) : (grOf n S).start.getD c 0 = ((rowsN S c).length : Int) := by
  show ((List.range (n + 1)).map (stA S)).getD c 0 = _
  rw [List.getD_eq_getElem?_getD, List.getElem?_map, List.getElem?_range (by omega)]
  rfl
theorem start_len (n : Nat) (S : List Ed) : (grOf n S).start.length = n + 1 := by show ((List.range (n + 1)).map (stA S)).length = _; simp
theorem rows_le (S : List Ed) (n : Nat) : (rowsN S n).length ≤ S.length := by
  have := (stA_le S n).2
  unfold stA at this
  omega
/-- The back edge at a place of the row of c. -/
theorem back_at {n c i : Nat} {E : List Ed} (hc : c < n) (h0 : (rowsN (E.map Ed.turn) c).length ≤ i) (h1 : i < (rowsN (E.map Ed.turn) (c + 1)).length) :
    ∃ e, e ∈ E ∧ e.t = (c : Int) ∧ (flt c (E.map Ed.turn))[i - (rowsN (E.map Ed.turn) c).length]? = some e.turn ∧ (grOf n (E.map Ed.turn)).to.getD i 0 = e.f ∧ (grOf n (E.map Ed.turn)).cost.getD i 0 = e.c ∧ i < (grOf n (E.map Ed.turn)).to.length ∧ i < (grOf n (E.map Ed.turn)).cost.length := by
  rw [rows_next] at h1
  obtain ⟨k, rfl⟩ : ∃ k, i = (rowsN (E.map Ed.turn) c).length + k := ⟨i - (rowsN (E.map Ed.turn) c).length, by omega⟩
  have hk : k < (flt c (E.map Ed.turn)).length := by omega
  have h2 := rows_at (E.map Ed.turn) hc hk
  obtain ⟨x, hx⟩ : ∃ x, (flt c (E.map Ed.turn))[k]? = some x := ⟨_, List.getElem?_eq_getElem hk⟩
  have hm := mem_flt.1 (List.mem_of_getElem? hx)
  obtain ⟨e, he, rfl⟩ := List.mem_map.1 hm.1
  rw [hx] at h2
  have h3 := rows_mono (E.map Ed.turn) (n := n) (c := c + 1) (by omega)
  rw [rows_next] at h3
  refine ⟨e, he, hm.2, by rw [Nat.add_sub_cancel_left]; exact hx, ?_, ?_, ?_, ?_⟩
  · show ((rowsN (E.map Ed.turn) n).map (·.t)).getD _ 0 = _
    rw [List.getD_eq_getElem?_getD, List.getElem?_map, h2]
    rfl
  · show ((rowsN (E.map Ed.turn) n).map (·.c)).getD _ 0 = _
    rw [List.getD_eq_getElem?_getD, List.getElem?_map, h2]
    rfl
  · show _ < ((rowsN (E.map Ed.turn) n).map (·.t)).length
    rw [List.length_map]; omega
  · show _ < ((rowsN (E.map Ed.turn) n).map (·.c)).length
    rw [List.length_map]; omega
/-- Which edges are known of while the back edges of c are gone through. -/
def Kn (E : List Ed) (c j : Nat) (e : Ed) : Prop := e.t.toNat ≠ c ∨ ∃ i, i < j ∧ (flt c (E.map Ed.turn))[i]? = some e.turn
theorem turn_inj {a b : Ed} (h : a.turn = b.turn) : a = b := by
  cases a; cases b; injection h with h1 h2 h3 h4; subst h1 h2 h3 h4; rfl
theorem Kn.all {n c : Nat} {E : List Ed} (hE : Ec n E) {e : Ed} (he : e ∈ E) : Kn E c (flt c (E.map Ed.turn)).length e := by
  by_cases h : e.t.toNat = c
  · right
    have hm : e.turn ∈ flt c (E.map Ed.turn) := mem_flt.2 ⟨List.mem_map_of_mem he, by show e.t = _; have := hE.tt e he; omega⟩
    obtain ⟨i, hi, h1⟩ := List.getElem_of_mem hm
    exact ⟨i, hi, by rw [List.getElem?_eq_getElem hi, h1]⟩
  · exact .inl h
theorem Kn.next {c j : Nat} {E : List Ed} {e x : Ed} (hx : (flt c (E.map Ed.turn))[j]? = some x.turn) (h : Kn E c (j + 1) e) : Kn E c j e ∨ e = x := by
  rcases h with h | ⟨i, hi, h1⟩
  · exact .inl (.inl h)
  · by_cases e1 : i = j
    · subst e1
      rw [hx] at h1
      exact .inr (turn_inj (Option.some.inj h1)).symm
    · exact .inl (.inr ⟨i, by omega, h1⟩)
/-- What lies below G but for some blocks is left. -/
structure Ks (A : List Nat) (G : Nat) (a b : World) : Prop where
  os : b.os = a.os
  tape : b.tape = a.tape
  output : b.output = a.output
  size : a.heap.size ≤ b.heap.size
  bl : ∀ k, k < G → k ∉ A → b.heap[k]? = a.heap[k]?
theorem Ks.refl (A : List Nat) (G : Nat) (a : World) : Ks A G a a := ⟨rfl, rfl, rfl, Nat.le_refl _, fun _ _ _ => rfl⟩
theorem Ks.trans {A : List Nat} {G : Nat} {a b c : World} (h : Ks A G a b) (g : Ks A G b c) : Ks A G a c := ⟨g.os.trans h.os, g.tape.trans h.tape, g.output.trans h.output, Nat.le_trans h.size g.size, fun k h1 h2 => (g.bl k h1 h2).trans (h.bl k h1 h2)⟩
theorem Ks.of_below {A : List Nat} {G : Nat} {a b : World} (h : Below a.heap.size a b) (hG : G ≤ a.heap.size) : Ks A G a b := ⟨h.os, h.tape, h.output, h.size, fun k hk _ => h.block k (by omega)⟩
theorem Ks.set {A : List Nat} {G B i : Nat} {a : World} {v : Value} (hB : B ∈ A) : Ks A G a (a.setCell ⟨B, i, none⟩ v) := ⟨rfl, rfl, rfl, by rw [World.size_setCell]; exact Nat.le_refl _, fun k _ hk => Below.heap_setCell _ _ _ _ (fun e => hk (by rw [e]; exact hB))⟩
theorem Ks.setAbove {A : List Nat} {G B i : Nat} {a : World} {v : Value} (hB : G ≤ B) : Ks A G a (a.setCell ⟨B, i, none⟩ v) := ⟨rfl, rfl, rfl, by rw [World.size_setCell]; exact Nat.le_refl _, fun k hk _ => Below.heap_setCell _ _ _ _ (by show k ≠ B; omega)⟩
theorem Ks.of_kh {A : List Nat} {G H : Nat} {v v' : Value} {F : Nat → Tr} {n : Nat} {a b : World} (h : Kh H v v' a b) (ho : TrO a G v F n) (hG : G ≤ a.heap.size) (hH : H ∈ A) : Ks A G a b :=
  ⟨h.os, h.tape, h.output, h.size, fun k hk hA => h.bl k (by omega) (fun e => hA (by rw [e]; exact hH)) (fun e => by have := (ho.lt k e).1; omega)⟩
theorem Ks.blk {A : List Nat} {G k : Nat} {a b : World} {t : TypeId} {cs : Array Value} (h : Ks A G a b) (hb : Blk a k t cs) (hk : k < G) (hA : k ∉ A) : Blk b k t cs := (h.bl k hk hA).trans hb
theorem Ks.fall {A : List Nat} {G B : Nat} {w a b : World} (h : Ks A G a b) (hb : Below B w a) (hG : B ≤ G) (hA : ∀ k ∈ A, B ≤ k) : Below B w b :=
  hb.trans ⟨h.os, h.tape, h.output, h.size, fun k hk => h.bl k (by omega) (fun e => by have := hA k e; omega)⟩
/-- How it stands behind a take: x was taken, or nothing was left. -/
structure DjS (n : Nat) (E : List Ed) (s DB H G NB : Nat) (x : Tr) (ok : Bool) (gg : Nat) (wr : World) (M : Nat → Int) (v : Value) (F : Nat → Tr) (k : Nat) (Fo : Nat → Tr) (ko : Nat) : Prop where
  row : wr.rowIs DB 3 n (fun c => .int .i64 (M c))
  hp : HpA wr H G v F k
  hh : Hp F k
  dj : Dj n E s M Fo ko (fun _ => True)
  yes : ok = true → InH Fo ko x ∧ (∀ y, InH Fo ko y → x.l ≤ y.l) ∧ (∀ y, InH F k y → InH Fo ko y) ∧ (∀ y, InH Fo ko y → y = x ∨ InH F k y)
  no : ok = false → ko = 0
  ms : k + 6401 * cntN M n + (if ok = true then 1 else 0) ≤ gg
  box : Blk wr NB 59 #[.int .i64 x.c, .int .i64 x.l]
  nb : G ≤ NB
  ne : v.ownBlock ≠ some NB
  sz : G ≤ wr.heap.size
/-- .. behind a put or a store, ahead of the next take. -/
structure DjW (n : Nat) (E : List Ed) (s DB H G NB : Nat) (x : Tr) (wr : World) (M : Nat → Int) (v : Value) (F : Nat → Tr) (k : Nat) (R : Ed → Prop) : Prop where
  row : wr.rowIs DB 3 n (fun c => .int .i64 (M c))
  hp : HpA wr H G v F k
  hh : Hp F k
  dj : Dj n E s M F k R
  box : Blk wr NB 59 #[.int .i64 x.c, .int .i64 x.l]
  nb : G ≤ NB
  ne : v.ownBlock ≠ some NB
  sz : G ≤ wr.heap.size
theorem Kh.row {H : Nat} {v v' : Value} {a b : World} {DB n G k : Nat} {f : Nat → Value} {F : Nat → Tr} (h : Kh H v v' a b) (hr : a.rowIs DB 3 n f) (hne : DB ≠ H) (ho : TrO a G v F k) : b.rowIs DB 3 n f :=
  hr.of_block (h.bl DB hr.lt hne (by obtain ⟨c, hc, _⟩ := hr; exact ho.ne (cs := c) hc (by decide)))
theorem DjW.below {n : Nat} {E : List Ed} {s DB H G NB : Nat} {x : Tr} {wr V : World} {M : Nat → Int} {v : Value} {F : Nat → Tr} {k : Nat} {R : Ed → Prop} (h : DjW n E s DB H G NB x wr M v F k R) (hb : Below wr.heap.size wr V) : DjW n E s DB H G NB x V M v F k R :=
  ⟨row_kept h.row hb, h.hp.below hb, h.hh, h.dj, h.box.below hb, h.nb, h.ne, Nat.le_trans h.sz hb.size⟩
theorem DjW.all {n : Nat} {E : List Ed} {s DB H G NB : Nat} {x : Tr} {wr : World} {M : Nat → Int} {v : Value} {F : Nat → Tr} {k : Nat} {R : Ed → Prop} (h : DjW n E s DB H G NB x wr M v F k R) (hR : ∀ e ∈ E, R e) : DjW n E s DB H G NB x wr M v F k (fun _ => True) :=
  ⟨h.row, h.hp, h.hh, h.dj.more (fun e he _ => hR e he), h.box, h.nb, h.ne, h.sz⟩
/-- A put leaves it so. -/
theorem DjW.put {n : Nat} {E : List Ed} {s DB H G NB : Nat} {x y : Tr} {wr w' : World} {M : Nat → Int} {v : Value} {F : Nat → Tr} {k : Nat} {R R' : Ed → Prop} (h : DjW n E s DB H G NB x wr M v F k R) (hD : DB ≠ H)
    (hy : 0 ≤ y.c ∧ y.c < n ∧ Way E (s : Int) y.c y.l ∧ y.l ≤ 9 * ((n : Int) - cntN M n)) (hR : ∀ e ∈ E, R' e → R e ∨ (0 ≤ M e.t.toNat → ⟨e.f, M e.t.toNat + e.c⟩ = y)) (hp : PutP wr w' H G v F k y) :
    ∃ v' F', DjW n E s DB H G NB x w' M v' F' (k + 1) R' ∧ Ks [H, DB] G wr w' := by
  obtain ⟨v', F', h1, h2, h3, h4⟩ := hp
  refine ⟨v', F', ⟨h4.row h.row hD h.hp.own, h1, h2, h.dj.put hy h3 hR, h4.blk h.box ?_ h.ne, h.nb, h4.nw _ h.box.lt h.ne, Nat.le_trans h.sz h4.size⟩, Ks.of_kh h4 h.hp.own h.sz (by simp)⟩
  have h5 := h.hp.lt
  have h6 := h.nb
  omega
/-- A new box of the loop's variable. -/
theorem DjW.fresh {n : Nat} {E : List Ed} {s DB H G NB : Nat} {x : Tr} {wr : World} {M : Nat → Int} {v : Value} {F : Nat → Tr} {k : Nat} {R : Ed → Prop} (h : DjW n E s DB H G NB x wr M v F k R) : DjW n E s DB H G wr.heap.size x (wr.alloc (.cells #[.int .i64 x.c, .int .i64 x.l] 59)) M v F k R := by
  have hb : Below wr.heap.size wr (wr.alloc (.cells #[.int .i64 x.c, .int .i64 x.l] 59)) := (Below.refl _ _).alloc (Nat.le_refl _) _
  exact ⟨h.row.alloc _, h.hp.below hb, h.hh, h.dj, Blk.new _ _ _, h.sz, fun e => by have := (h.hp.own.lt _ e).2; omega, by rw [World.size_alloc]; have := h.sz; omega⟩
/-- A trip was taken and put into the box. -/
theorem DjW.taken {n : Nat} {E : List Ed} {s DB H G NB : Nat} {x : Tr} {wr w' : World} {M : Nat → Int} {v : Value} {F : Nat → Tr} {k gg : Nat} (h : DjW n E s DB H G NB x wr M v F (k + 1) (fun _ => True)) (hD : DB ≠ H) (hDG : DB < G) (hg : k + 6401 * cntN M n + 1 ≤ gg) (tp : TakeP wr w' H G v F k) :
    Blk w' NB 59 #[.int .i64 x.c, .int .i64 x.l] ∧ ∃ v' F', DjS n E s DB H G NB (F 0) true gg (set2 w' NB 0 (F 0)) M v' F' k F (k + 1) ∧ Ks [H, DB] G wr (set2 w' NB 0 (F 0)) := by
  obtain ⟨v', F', h1, h2, h3, h4, h5⟩ := tp
  have hNH : NB ≠ H := by have h6 := h.hp.lt; have h7 := h.nb; omega
  have hbx := h5.blk h.box hNH h.ne
  have hne := h5.nw _ h.box.lt h.ne
  have hrow := h5.row h.row hD h.hp.own
  have hkeep : ∀ k, k ≠ NB → (set2 w' NB 0 (F 0)).heap[k]? = w'.heap[k]? := fun k hk => (Below.heap_setCell _ _ _ _ hk).trans (Below.heap_setCell _ _ _ _ hk)
  refine ⟨hbx, v', F', ⟨hrow.of_block (hkeep DB (by have := h.nb; omega)), ⟨(hkeep H (fun e => hNH e.symm)).trans h1.box, ?_, h1.lt⟩, h2, h.dj, fun _ => ⟨⟨0, by omega, rfl⟩, fun y hy => ?_, h3, h4⟩, (fun e => by cases e), by rw [if_pos rfl]; exact hg, (hbx.set 0 _).set 1 _, h.nb, hne, ?_⟩, (Ks.of_kh h5 h.hp.own h.sz (by simp)).trans ((Ks.setAbove h.nb).trans (Ks.setAbove h.nb))⟩
  · exact World.ownsRow.kept h1.own (row := some NB) (World.grownBy.trans (grown_set w' NB 0 (.int .i64 (F 0).c)) (grown_set _ NB 1 (.int .i64 (F 0).l))) (.inr hne)
  · obtain ⟨i, hi, rfl⟩ := hy
    exact h.hh.min i hi
  · unfold set2
    rw [World.size_setCell, World.size_setCell]
    exact Nat.le_trans h.sz h5.size
/-- Nothing was left. -/
theorem DjW.spent {n : Nat} {E : List Ed} {s DB H G NB : Nat} {x : Tr} {wr w' : World} {M : Nat → Int} {v : Value} {F : Nat → Tr} {gg : Nat} (h : DjW n E s DB H G NB x wr M v F 0 (fun _ => True)) (hDG : DB < G) (hg : 6401 * cntN M n ≤ gg) (hb : Below wr.heap.size wr w') :
    Blk w' NB 59 #[.int .i64 x.c, .int .i64 x.l] ∧ DjS n E s DB H G NB ⟨0, 0⟩ false gg (set2 w' NB 0 ⟨0, 0⟩) M v F 0 F 0 ∧ Ks [H, DB] G wr (set2 w' NB 0 ⟨0, 0⟩) := by
  have hNH : NB ≠ H := by have h6 := h.hp.lt; have h7 := h.nb; omega
  have hbx := h.box.below hb
  have hhp := h.hp.below hb
  have hkeep : ∀ k, k ≠ NB → (set2 w' NB 0 ⟨0, 0⟩).heap[k]? = w'.heap[k]? := fun k hk => (Below.heap_setCell _ _ _ _ hk).trans (Below.heap_setCell _ _ _ _ hk)
  refine ⟨hbx, ⟨(row_kept h.row hb).of_block (hkeep DB (by have := h.nb; omega)), ⟨(hkeep H (fun e => hNH e.symm)).trans hhp.box, ?_, hhp.lt⟩, h.hh, h.dj, (fun e => by cases e), fun _ => rfl, by rw [if_neg (by decide)]; omega, (hbx.set 0 _).set 1 _, h.nb, h.ne, ?_⟩, (Ks.of_below hb h.sz).trans ((Ks.setAbove h.nb).trans (Ks.setAbove h.nb))⟩
  · exact World.ownsRow.kept hhp.own (row := some NB) (World.grownBy.trans (grown_set w' NB 0 (.int .i64 0)) (grown_set _ NB 1 (.int .i64 0))) (.inr h.ne)
  · unfold set2
    rw [World.size_setCell, World.size_setCell]
    exact Nat.le_trans h.sz hb.size
/-- It goes on where the trip's cell had a length. -/
theorem DjS.skip {n : Nat} {E : List Ed} {s DB H G NB : Nat} {x : Tr} {gg : Nat} {wr : World} {M : Nat → Int} {v : Value} {F : Nat → Tr} {k : Nat} {Fo : Nat → Tr} {ko : Nat} (h : DjS n E s DB H G NB x true gg wr M v F k Fo ko) (hx : 0 ≤ M x.c.toNat) : DjW n E s DB H G NB x wr M v F k (fun _ => True) := by
  obtain ⟨_, _, h1, h2⟩ := h.yes rfl
  exact ⟨h.row, h.hp, h.hh, h.dj.skip hx h1 h2, h.box, h.nb, h.ne, h.sz⟩
/-- .. and where it had none. -/
theorem DjS.met {n : Nat} {E : List Ed} {s DB H G NB c : Nat} {x : Tr} {gg : Nat} {wr : World} {M : Nat → Int} {v : Value} {F : Nat → Tr} {k : Nat} {Fo : Nat → Tr} {ko : Nat} (hE : Ec n E) (hDH : DB ≠ H) (hDG : DB < G) (h : DjS n E s DB H G NB x true gg wr M v F k Fo ko) (hc : x.c = (c : Int)) (hx : M c < 0) : DjW n E s DB H G NB x (wr.setCell ⟨DB, c, none⟩ (.int .i64 x.l)) (updI M c x.l) v F k (Kn E c 0) := by
  obtain ⟨h0, hmin, h1, h2⟩ := h.yes rfl
  have hct : x.c.toNat = c := by omega
  have hd := h.dj.met hE h0 hmin (by rw [hct]; exact hx) h1 h2
  rw [hct] at hd
  have hDo : v.ownBlock ≠ some DB := by
    obtain ⟨cs, hcs, _⟩ := h.row
    exact h.hp.own.ne (cs := cs) hcs (by decide)
  refine ⟨row_setI h.row, ⟨h.hp.box.other _ _ (fun e => hDH e.symm), World.ownsRow.kept h.hp.own (row := some DB) (grown_set wr DB c _) (.inr hDo), h.hp.lt⟩, h.hh, hd.more (fun e _ hr => ?_), h.box.other _ _ (by have := h.nb; omega), h.nb, h.ne, by rw [World.size_setCell]; exact h.sz⟩
  rcases hr with hr | ⟨i, hi, _⟩
  · exact hr
  · omega
theorem DjS.rng {n : Nat} {E : List Ed} {s DB H G NB : Nat} {x : Tr} {gg : Nat} {wr : World} {M : Nat → Int} {v : Value} {F : Nat → Tr} {k : Nat} {Fo : Nat → Tr} {ko : Nat} (hE : Ec n E) (h : DjS n E s DB H G NB x true gg wr M v F k Fo ko) : 0 ≤ x.c ∧ x.c < n ∧ 0 ≤ x.l ∧ x.l ≤ 9 * (n : Int) := by
  obtain ⟨g0, g1, g2, g3⟩ := h.dj.way x (h.yes rfl).1
  have := cntN_le M n
  exact ⟨g0, g1, g2.nn hE, by omega⟩
end Go.Proofs.Ytochfhoaiekioaa
