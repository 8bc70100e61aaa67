/-
  Plainly: targets on walls, as they are looked for declaration by declaration.
  A layout whose targets' names lie in converted rows, with its blocks.
-/
import Derived.Test.YtijdlbanfdhfnaaGreatDoorJDnIMK
import Derived.Test.YtijdlbanfdhfnaaGreatDoorJDnIMY
import Derived.Test.YtijdlbanfdhfnaaGreatDoorJDnTgS2
namespace Go.Proofs.YtijdlbanfdhfnaaGreatDoor

theorem tgI_mem (w : Nat) : ∀ (L : List Dc) (i : Nat) (d : Dc), d ∈ L → nmK d.kind = true → ∃ t ∈ (tgI w i L).map Prod.fst, t.cell = loI d.y1 d.y2 * w + loI d.x1 d.x2
  | [], _, _, h, _ => by cases h
  | a :: r, i, d, h, hk => by
    unfold tgI
    rcases List.mem_cons.1 h with rfl | h
    · rw [if_pos hk]
      exact ⟨_, List.mem_cons_self .., rfl⟩
    · obtain ⟨t, h1, h2⟩ := tgI_mem w r (i + 1) d h hk
      split
      · exact ⟨t, List.mem_cons_of_mem _ h1, h2⟩
      · exact ⟨t, h1, h2⟩
theorem getD_mem {L : List Dc} {j : Nat} (h : j < L.length) : L.getD j .zero ∈ L := by
  rw [List.getD_eq_getElem?_getD, List.getElem?_eq_getElem h]; exact List.getElem_mem h
theorem dn_f {L : List Dc} (h1 : dcsOk L) (h2 : 0 < L.length ∧ grd0 (L.getD 0 .zero)) {f : Flo} (hr : dnR (flo0 (L.getD 0 .zero).x1.toNat (L.getD 0 .zero).y1.toNat) 1 (L.drop 1) = (f, 0, 0)) :
    f.tgs = (tgI f.w 1 (L.drop 1)).map Prod.fst ∧ f.frs = (tgI f.w 1 (L.drop 1)).map Prod.snd := by
  obtain ⟨_, _, g1, g2, g3, g4⟩ := id h2
  have hd : ∀ d ∈ L.drop 1, DcOk d := fun d hd => by
    obtain ⟨i, hi, rfl⟩ := List.mem_iff_getElem.1 (List.mem_of_mem_drop hd)
    have := h1.2 i hi
    rwa [List.getD_eq_getElem?_getD, List.getElem?_eq_getElem hi] at this
  have hk := dnR_ok (i := 1) (flo0_okI (p := (L.getD 0 .zero).x1.toNat) (q := (L.getD 0 .zero).y1.toNat) (by omega) (by omega)) hd (by rw [hr])
  rw [hr] at hk
  obtain ⟨_, k2, _, k4, k5⟩ := hk
  have k2' : f.w = (flo0 (L.getD 0 .zero).x1.toNat (L.getD 0 .zero).y1.toNat).w := k2
  rw [← k2'] at k4 k5
  exact ⟨k4, k5⟩
open Classical in
theorem dnA_wl {L : List Dc} (h1 : dcsOk L) (h2 : 0 < L.length ∧ grd0 (L.getD 0 .zero)) {f : Flo} (hr : dnR (flo0 (L.getD 0 .zero).x1.toNat (L.getD 0 .zero).y1.toNat) 1 (L.drop 1) = (f, 0, 0)) :
    dnA L = if 0 ≤ wlD f 0 L then (.zero, 8, wlD f 0 L) else (lyOf f, 0, 0) := by
  obtain ⟨e1, e2⟩ := dn_f h1 h2 hr
  have hw : wlT f f.tgs f.frs = wlD f 0 L := by
    rw [e1, e2, wlT_wlD f (L.drop 1) 1]
    have hL : L = L.getD 0 .zero :: L.drop 1 := by have := drop_cons h2.1; rwa [List.drop_zero] at this
    conv => rhs; rw [hL]
    show _ = if _ then _ else wlD f (0 + 1) (L.drop 1)
    rw [if_neg (fun g => by have := g.1; rw [h2.2.1] at this; cases this)]
  unfold dnA
  rw [if_neg (fun g => g h1), if_neg (fun g => g h2)]
  simp only [hr]
  rw [if_neg (by decide), hw]
theorem dn_tc {L : List Dc} (h1 : dcsOk L) (h2 : 0 < L.length ∧ grd0 (L.getD 0 .zero)) {f : Flo} (hf : FloOk f) (hr : dnR (flo0 (L.getD 0 .zero).x1.toNat (L.getD 0 .zero).y1.toNat) 1 (L.drop 1) = (f, 0, 0)) :
    ∀ j, j < L.length → nmK (L.getD j .zero).kind = true → ∃ c : Nat, (L.getD j .zero).y1 * f.w + (L.getD j .zero).x1 = (c : Int) ∧ c < f.w * f.h ∧ (loI (L.getD j .zero).y1 (L.getD j .zero).y2 * f.w + loI (L.getD j .zero).x1 (L.getD j .zero).x2).toNat = c := fun j hj hk => by
  obtain ⟨e1, _⟩ := dn_f h1 h2 hr
  have hd := h1.2 j hj
  have hm : L.getD j .zero ∈ L.drop 1 := by
    have hj0 : j ≠ 0 := fun e => by subst e; rw [h2.2.1] at hk; cases hk
    obtain ⟨i, rfl⟩ : ∃ i, j = i + 1 := ⟨j - 1, by omega⟩
    have : L.getD (i + 1) .zero = (L.drop 1).getD i .zero := by simp [List.getD]
    rw [this]
    exact getD_mem (by rw [List.length_drop]; omega)
  obtain ⟨t, ht, hc⟩ := tgI_mem f.w (L.drop 1) 1 _ hm hk
  rw [← e1] at ht
  have hb := hf.tc t ht
  have ha : arK (L.getD j .zero).kind = false := by
    unfold nmK at hk
    rcases Bool.or_eq_true _ _ ▸ hk with q | q <;> rw [beq_iff_eq.1 q] <;> rfl
  have ex := hd.ax ha
  have ey := hd.ay ha
  have lx : ∀ a b : Int, a = b → loI a b = a := fun a b e => by unfold loI; rw [if_pos (by omega)]
  rw [lx _ _ ex, lx _ _ ey] at hc ⊢
  rw [hc] at hb
  exact ⟨((L.getD j .zero).y1 * f.w + (L.getD j .zero).x1).toNat, by omega, by omega, rfl⟩
theorem wlD_step {L : List Dc} {f : Flo} {k : Nat} (h : k < L.length) : wlD f k (L.drop k) = if nmK (L.getD k .zero).kind = true ∧ f.wall (loI (L.getD k .zero).y1 (L.getD k .zero).y2 * f.w + loI (L.getD k .zero).x1 (L.getD k .zero).x2).toNat = true then (k : Int) else wlD f (k + 1) (L.drop (k + 1)) := by
  rw [drop_cons h]; rfl
end Go.Proofs.YtijdlbanfdhfnaaGreatDoor

namespace Go.Proofs.YtijdlbanfdhfnaaGreatDoor
open Go.RowKit

/-- A name's block. -/
def gnb (p : Tg × Value) : List Nat := if 0 < p.1.name.size then p.2.ownBlock.toList else []
theorem gnb_mem {p : Tg × Value} {g : Nat} (h : g ∈ gnb p) : p.2.ownBlock = some g := by
  unfold gnb at h
  split at h
  · exact Option.mem_toList.1 h
  · cases h
theorem tgnf_bf {w : World} {p : Tg × Value} (h : TgNf w p) : BF w p.2 p.1.name (gnb p) := by
  obtain ⟨g, c, cs, fr, e1, e2, e3, e4⟩ := h
  refine ⟨some ⟨g, 0, none⟩, g, 0, c, e1, fun _ => rfl, ?_, fun j hj => ⟨?_, ?_⟩⟩
  · unfold gnb; rw [e1]; rfl
  · rw [Nat.zero_add]
    simp only [World.cell?, e2]
    simp only [Option.isSome_none, Bool.false_eq_true, if_false]
    exact e3 j hj
  · rw [Nat.zero_add]
    simp only [World.frozen?, e2]
    simp
    omega
theorem gnb_nd : ∀ L : List (Tg × Value), (L.map fun p => p.2.ownBlock).Nodup → (∀ p ∈ L, ∃ g, p.2.ownBlock = some g) → (L.flatMap gnb).Nodup
  | [], _, _ => List.nodup_nil
  | p :: L, h, hs => by
    rw [List.map_cons, List.nodup_cons] at h
    rw [List.flatMap_cons]
    refine List.nodup_append.2 ⟨?_, gnb_nd L h.2 (fun q hq => hs q (List.mem_cons_of_mem _ hq)), fun a ha b hb e => ?_⟩
    · unfold gnb
      split
      · cases p.2.ownBlock with
        | none => exact List.nodup_nil
        | some g => exact List.nodup_cons.2 ⟨List.not_mem_nil, List.nodup_nil⟩
      · exact List.nodup_nil
    · subst e
      obtain ⟨q, hq, hb⟩ := List.mem_flatMap.1 hb
      refine h.1 (List.mem_map.2 ⟨q, hq, ?_⟩)
      rw [gnb_mem ha, gnb_mem hb]
theorem map_getDT {α β : Type} (L : List α) (d : α) (f : α → β) : (List.range L.length).map (fun j => f (L.getD j d)) = L.map f := by
  refine List.ext_getElem (by simp) fun i h1 h2 => ?_
  simp only [List.length_map] at h2
  simp [List.getD, h2]
theorem tgSF_ofN {w : World} {B : Nat} {v : Value} {L : List (Tg × Value)} (h : TgOw w B v L) (hn : ∀ p ∈ L, TgNf w p) :
    ∃ rl, TgSF w v (L.map (·.1)) (rl ++ L.flatMap gnb) ∧ rl.Nodup ∧ ∀ k ∈ rl, B ≤ k ∧ ∃ cur, Blk w k 50 cur := by
  obtain ⟨a, b, c, h1, h2, h3, h4, _⟩ := h.view
  have hg : ∀ j, j < L.length → ∃ p, L[j]? = some p ∧ p ∈ L ∧ (L.map (·.1)).getD j .zero = p.1 ∧ L.getD j (.zero, .slice none 0 0) = p := fun j hj => by
    refine ⟨L[j], List.getElem?_eq_getElem hj, List.getElem_mem hj, ?_, ?_⟩
    · rw [List.getD_eq_getElem?_getD, List.getElem?_map, List.getElem?_eq_getElem hj]; rfl
    · rw [List.getD_eq_getElem?_getD, List.getElem?_eq_getElem hj]; rfl
  refine ⟨if 0 < L.length then [b] else [], ⟨a, b, 0, c, fun j => (L.getD j (.zero, .slice none 0 0)).2, fun j => gnb (L.getD j (.zero, .slice none 0 0)), by rw [List.length_map]; exact h1, fun hz => (h2 (by rw [List.length_map] at hz; exact hz)).1, ?_, fun j hj => ?_, fun j hj => ?_⟩, ?_, fun k hk => ?_⟩
  · rw [List.length_map]
    congr 1
    rw [map_getDT L (.zero, .slice none 0 0) gnb]
    rfl
  · rw [List.length_map] at hj
    exact h4 (by omega) _
  · rw [List.length_map] at hj
    obtain ⟨p, p1, p2, p3, p4⟩ := hg j hj
    have hc := h3 j hj p p1
    simp only [p3, p4, Nat.zero_add]
    exact ⟨⟨by have := hc 0 (by omega); rw [Nat.add_zero] at this; exact this, by have := hc 1 (by omega); exact this, by have := hc 2 (by omega); exact this⟩, tgnf_bf (hn p p2)⟩
  · split
    · exact List.nodup_cons.2 ⟨List.not_mem_nil, List.nodup_nil⟩
    · exact List.nodup_nil
  · split at hk
    · rename_i hz
      rw [List.mem_singleton.1 hk]
      exact (h2 hz).2
    · cases hk
theorem cel_ne {w : World} {k k' : Nat} {t t' : TypeId} {c c' : Array Value} {fr fr' : Nat × Nat} (h : w.heap[k]? = some (.cells c t fr)) (h' : w.heap[k']? = some (.cells c' t' fr')) (ht : t ≠ t') : k ≠ k' := fun e => by
  subst e
  rw [h] at h'
  injection h' with h'
  injection h' with _ h'
  exact ht h'
theorem Ow.ty {W : World} {B : Nat} {v : Value} {L : List Int} (h : Ow W B v L) {g : Nat} (hg : v.ownBlock = some g) : ∃ cur, W.heap[g]? = some (.cells cur 3 (0, 0)) := by
  rcases h.2 with ⟨h1, _⟩ | ⟨g', c, cur, h1, _, h3, _⟩
  · subst h1; cases hg
  · subst h1
    injection hg with hg
    subst hg
    exact ⟨cur, h3⟩
/-- What layout leaves, with its blocks. -/
theorem lyF_of {w0 w : World} {F B : Nat} {f : Flo} {v2 v3 vt : Value} {ns : List (Tg × Value)} (hN : ns.map Prod.fst = srtT [] f.tgs) (tg : TgOw w (F + 1) vt ns) (tn : ∀ p ∈ ns, TgNf w p) (nd : (ns.map fun p => p.2.ownBlock).Nodup) (nf : ∀ p ∈ ns, ∀ g, p.2.ownBlock = some g → F < g)
    (o2 : Ow w B v2 (lyOf f).cost) (o3 : Ow w B v3 (lyOf f).exits) (ap : Apt v2 v3) (hF : w0.heap.size ≤ F) (hB : w0.heap.size ≤ B) : ∃ bl, LyF w (lyOf f) v2 v3 vt bl ∧ Fr w0 w bl := by
  obtain ⟨b2, f2, k2⟩ := o2.fr
  obtain ⟨b3, f3, k3⟩ := o3.fr
  obtain ⟨rl, t1, t2, t3⟩ := tgSF_ofN tg tn
  have hT : (lyOf f).targets = ns.map (·.1) := hN.symm
  have nd' : ∀ {v : Value} {b : List Nat}, (∀ g ∈ b, v.ownBlock = some g ∧ b = [g]) → b.Nodup := fun {v b} hb => by
    cases b with
    | nil => exact List.nodup_nil
    | cons g t => rw [(hb g (List.mem_cons_self ..)).2]; simp
  have hs : ∀ p ∈ ns, ∃ g, p.2.ownBlock = some g ∧ g < w.heap.size ∧ ∃ cs fr, w.heap[g]? = some (.cells cs 5 fr) := fun p hp => by
    obtain ⟨g, c, cs, fr, e1, e2, _⟩ := tn p hp
    exact ⟨g, by rw [e1]; rfl, lt_heap e2, cs, fr, e2⟩
  have hgn : ∀ g ∈ ns.flatMap gnb, F < g ∧ g < w.heap.size ∧ ∃ cs fr, w.heap[g]? = some (.cells cs 5 fr) := fun g hg => by
    obtain ⟨p, hp, hg⟩ := List.mem_flatMap.1 hg
    obtain ⟨g', e1, e2, e3⟩ := hs p hp
    have := gnb_mem hg
    rw [e1] at this
    injection this with this
    subst this
    exact ⟨nf p hp _ e1, e2, e3⟩
  have h23 : ∀ v : Value, ∀ L : List Int, Ow w B v L → ∀ b : List Nat, (∀ g ∈ b, v.ownBlock = some g ∧ b = [g]) → ∀ p ∈ b, ∀ q ∈ rl ++ ns.flatMap gnb, p ≠ q := fun v L ho b hb p hp q hq => by
    obtain ⟨cur, hc⟩ := ho.ty (hb p hp).1
    rcases List.mem_append.1 hq with hq | hq
    · obtain ⟨_, cur', hc'⟩ := t3 q hq
      exact cel_ne hc hc' (by decide)
    · obtain ⟨_, _, cs, fr, hc'⟩ := hgn q hq
      exact cel_ne hc hc' (by decide)
  refine ⟨b2 ++ (b3 ++ (rl ++ ns.flatMap gnb)), ⟨b2, b3, _, rfl, f2, f3, by rw [hT]; exact t1⟩, ?_, ?_, ?_⟩
  · refine List.nodup_append.2 ⟨nd' k2, List.nodup_append.2 ⟨nd' k3, List.nodup_append.2 ⟨t2, gnb_nd ns nd (fun p hp => by obtain ⟨g, e, _⟩ := hs p hp; exact ⟨g, e⟩), fun p hp q hq => ?_⟩, h23 _ _ o3 _ k3⟩, fun p hp q hq => ?_⟩
    · obtain ⟨_, cur', hc'⟩ := t3 p hp
      obtain ⟨_, _, cs, fr, hc⟩ := hgn q hq
      exact cel_ne hc' hc (by decide)
    · rcases List.mem_append.1 hq with hq | hq
      · intro e
        subst e
        have h1 := (k2 p hp).1
        have h2 := (k3 p hq).1
        rcases ap with ha | ha
        · rw [ha] at h1; cases h1
        · exact ha (h1.trans h2.symm)
      · exact h23 _ _ o2 _ k2 p hp q hq
  all_goals
    intro g hg
    simp only [List.mem_append] at hg
    rcases hg with hg | hg | hg | hg
    · have := o2.lt g (k2 g hg).1; omega
    · have := o3.lt g (k3 g hg).1; omega
    · obtain ⟨q1, cur, q2⟩ := t3 g hg
      have := q2.lt
      omega
    · have := hgn g (by simpa using hg); omega
end Go.Proofs.YtijdlbanfdhfnaaGreatDoor
