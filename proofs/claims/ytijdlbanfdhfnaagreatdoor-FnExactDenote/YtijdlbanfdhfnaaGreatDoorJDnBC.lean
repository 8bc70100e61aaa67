/-
  The walk of bytes.Compare.
  DERIVED: THE SHELF's CONTRACTS AT THIS DUMP, IN PLAIN WORDS (tools/lay-plain.mjs out of 'TryzShelfF.lean', which tools/lay-shelf.mjs wrote): THE SAME DECLARATIONS UNDER THE SAME NAMES: 'import', 'namespace', 'open', 'def', 'theorem' AND NOTHING ELSE: no command of the shelf's: FOR A HAND-IN. Each laying: the table of numbers ('.._ren') and one theorem, a field a fact of the dump's own or the kernel's comparison; each contract: ONE APPLICATION.
  Targets put in order by the library's SortFunc.
-/
import Derived.Test.YtijdlbanfdhfnaaGreatDoorJDnSD5
import Derived.Test.YtijdlbanfdhfnaaGreatDoorJDnT
import Derived.Lib.BytesEntry
import Derived.Lib.Bytealg
import Derived.Laws.Externs
import Derived.Shelf.SlSortCmp.NoneTotal
import Derived.Ground.SlsfProg
import Derived.Test.YtijdlbanfdhfnaaGreatDoorProg
import Derived.Test.YtijdlbanfdhfnaaGreatDoorJDnIMY
namespace Go.Proofs.YtijdlbanfdhfnaaGreatDoor
open Go.RowKit

theorem bytesOf_bs {w : World} {v : Value} {s : ByteArray} (h : BS w v s) : (Extern.Bytes.bytesOf v).run Tryz.prog w = .ok s w := by
  obtain ⟨a, b, o, c, rfl, ha, hc⟩ := h
  by_cases h0 : 0 < s.size
  · obtain rfl := ha h0
    have hl := Lib.run_loadBytesX (P := Tryz.prog) w (nums s) ⟨b, o, none⟩ .empty (fun j x hj => by
      have hjl : j < (nums s).length := (List.getElem?_eq_some_iff.1 hj).1
      rw [nums_length] at hjl
      have e : (⟨b, o, none⟩ : Addr).add j = ⟨b, o + j, none⟩ := by unfold Addr.add; split <;> simp_all
      rw [e, hc j hjl, ← nums_getD s j hjl, List.getD_eq_getElem?_getD, hj]
      rfl)
    rw [nums_length] at hl
    refine (show (Extern.Bytes.bytesOf (.slice (some ⟨b, o, none⟩) s.size c)).run Tryz.prog w = (Extern.Bytes.loadBytes ⟨b, o, none⟩ s.size .empty).run Tryz.prog w from rfl).trans (hl.trans ?_)
    have hs := strOf_nums s
    congr 1
    refine Eq.trans ?_ hs
    unfold strOfNums
    congr 1
    exact Array.empty_append.trans rfl
  · have hz : s.size = 0 := by omega
    have e : s = ByteArray.empty := ext_bytes hz (fun j hj => by omega)
    subst e
    cases a <;> rfl

theorem cmp_less : ∀ (a b : List UInt8), decide (0 ≤ Lib.compareBytes a b) = !Go.Op.bytesLess a b
  | [], [] => rfl
  | [], _ :: _ => rfl
  | _ :: _, [] => rfl
  | a :: xs, b :: ys => by
    unfold Lib.compareBytes Go.Op.bytesLess
    by_cases h1 : a < b
    · simp [h1]
    · by_cases h2 : b < a
      · have h3 : (a == b) = false := by
          rw [beq_eq_false_iff_ne]; intro e; subst e; exact h1 h2
        simp [h1, h2, h3]
      · have h3 : a = b := by
          apply UInt8.toNat_inj.1
          rw [UInt8.lt_iff_toNat_lt] at h1 h2
          omega
        subst h3
        simp [h1, cmp_less xs ys]

set_option maxHeartbeats 1000000 in
set_option maxRecDepth 1000000 in
theorem bcmp_any (va vb : Value) (a b : ByteArray) (w : World) (ha : BS w va a) (hb : BS w vb b) :
    Calls Tryz.prog 61 #[va, vb] w fun e w' => e = .returned (.int .i64 (Lib.compareBytes a.data.toList b.data.toList)) ∧ w' = w := by
  have HR : Hid ((Extern.BytealgCompare.compare #[va, vb]).run Tryz.prog w = .ok (.int .i64 (Lib.compareBytes a.data.toList b.data.toList)) w) := by
    show _ = _
    change Sem.run _ (do pure (goInt (Extern.BytealgCompare.cmp (← Extern.Bytes.bytesOf va) (← Extern.Bytes.bytesOf vb)))) w = _
    simp only [Sem.run_bind, Sem.run_pure, bytesOf_bs ha, bytesOf_bs hb, Result.andThen]
    rw [Lib.cmp_eq]
    rfl
  clear ha hb
  go_enter Tryz.func61, Tryz.ntmps61
  go_wp2
  rw [run_callFunc_extern Tryz.func77 (by kernel_rfl) (by kernel_rfl) (by kernel_rfl) (e := Extern.BytealgCompare.compare) (by kernel_rfl), HR.out]
  simp only [Result.andThen]
  rw [Oper.upon_value]
  go_wp2
  go_ret
  exact ⟨rfl, rfl⟩
end Go.Proofs.YtijdlbanfdhfnaaGreatDoor

namespace Go.Proofs
open Go.Shelf
def Tryz.sortT_ren : Go.Shelf.Ren := ⟨fun | 6 => 59 | 15 => 76 | 14 => 75 | 28 => 92 | 29 => 93 | 20 => 84 | 21 => 85 | 22 => 86 | 23 => 87 | 24 => 88 | 25 => 89 | 26 => 90 | 27 => 91 | 46 => 97 | 47 => 98 | 48 => 99 | 49 => 100 | 50 => 101 | 57 => 103 | n => n, fun | 22 => 25 | 24 => 50 | 25 => 84 | 3 => 3 | 39 => 92 | 0 => 0 | 53 => 105 | 55 => 108 | 4 => 4 | 46 => 115 | 45 => 114 | 50 => 100 | 5 => 5 | 9 => 9 | 66 => 124 | 70 => 128 | 76 => 132 | 77 => 87 | n => n, fun | n => n⟩
theorem Tryz.sortT : Go.Proofs.SlLaysF0.n6 Tryz.prog Tryz.sortT_ren := {
  mixed := by kernel_rfl
  f6 := ⟨Tryz.f59.name, by decide, Tryz.func59.trans (congrArg some (by kernel_rfl))⟩
  f14 := ⟨Tryz.f75.name, by decide, Tryz.func75.trans (congrArg some (by kernel_rfl))⟩
  f15 := Tryz.func76.trans (congrArg some (by kernel_rfl))
  f20 := ⟨Tryz.f84.name, by decide, Tryz.func84.trans (congrArg some (by kernel_rfl))⟩
  f21 := ⟨Tryz.f85.name, by decide, Tryz.func85.trans (congrArg some (by kernel_rfl))⟩
  f22 := ⟨Tryz.f86.name, by decide, Tryz.func86.trans (congrArg some (by kernel_rfl))⟩
  f23 := ⟨Tryz.f87.name, by decide, Tryz.func87.trans (congrArg some (by kernel_rfl))⟩
  f24 := ⟨Tryz.f88.name, by decide, Tryz.func88.trans (congrArg some (by kernel_rfl))⟩
  f25 := ⟨Tryz.f89.name, by decide, Tryz.func89.trans (congrArg some (by kernel_rfl))⟩
  f26 := ⟨Tryz.f90.name, by decide, Tryz.func90.trans (congrArg some (by kernel_rfl))⟩
  f27 := ⟨Tryz.f91.name, by decide, Tryz.func91.trans (congrArg some (by kernel_rfl))⟩
  f28 := Tryz.func92.trans (congrArg some (by kernel_rfl))
  f29 := Tryz.func93.trans (congrArg some (by kernel_rfl))
  f46 := ⟨Tryz.f97.name, by decide, Tryz.func97.trans (congrArg some (by kernel_rfl))⟩
  f47 := Tryz.func98.trans (congrArg some (by kernel_rfl))
  f48 := Tryz.func99.trans (congrArg some (by kernel_rfl))
  f49 := ⟨Tryz.f100.name, by decide, Tryz.func100.trans (congrArg some (by kernel_rfl))⟩
  f50 := ⟨Tryz.f101.name, by decide, Tryz.func101.trans (congrArg some (by kernel_rfl))⟩
  f57 := ⟨Tryz.f103.name, by decide, Tryz.func103.trans (congrArg some (by kernel_rfl))⟩
  t0 := Tryz.underlying0
  a0 := Tryz.isAgg0
  z0 := Tryz.sizeOf0
  v0 := Tryz.zeroValue0
  t3 := Tryz.underlying3
  a3 := Tryz.isAgg3
  z3 := Tryz.sizeOf3
  v3 := Tryz.zeroValue3
  t4 := Tryz.underlying4
  a4 := Tryz.isAgg4
  z4 := Tryz.sizeOf4
  v4 := Tryz.zeroValue4
  t5 := Tryz.underlying5
  a5 := Tryz.isAgg5
  z5 := Tryz.sizeOf5
  v5 := Tryz.zeroValue5
  t9 := Tryz.underlying9
  a9 := Tryz.isAgg9
  z9 := Tryz.sizeOf9
  v9 := Tryz.zeroValue9
  t22 := Tryz.underlying25
  a22 := Tryz.isAgg25
  z22 := Tryz.sizeOf25
  v22 := Tryz.zeroValue25
  t25 := Tryz.underlying84
  a25 := Tryz.isAgg84
  z25 := Tryz.sizeOf84
  v25 := Tryz.zeroValue84
  t39 := Tryz.underlying92
  a39 := Tryz.isAgg92
  z39 := Tryz.sizeOf92
  v39 := Tryz.zeroValue92
  t45 := Tryz.underlying114
  a45 := Tryz.isAgg114
  z45 := Tryz.sizeOf114
  v45 := Tryz.zeroValue114
  t46 := Tryz.underlying115
  a46 := Tryz.isAgg115
  z46 := Tryz.sizeOf115
  v46 := Tryz.zeroValue115
  t50 := Tryz.underlying100
  a50 := Tryz.isAgg100
  z50 := Tryz.sizeOf100
  v50 := Tryz.zeroValue100
  t53 := Tryz.underlying105
  a53 := Tryz.isAgg105
  z53 := Tryz.sizeOf105
  v53 := Tryz.zeroValue105
  t55 := Tryz.underlying108
  a55 := Tryz.isAgg108
  z55 := Tryz.sizeOf108
  v55 := Tryz.zeroValue108
  t66 := Tryz.underlying124
  a66 := Tryz.isAgg124
  z66 := Tryz.sizeOf124
  v66 := Tryz.zeroValue124
  t70 := Tryz.underlying128
  a70 := Tryz.isAgg128
  z70 := Tryz.sizeOf128
  v70 := Tryz.zeroValue128
  t76 := Tryz.underlying132
  a76 := Tryz.isAgg132
  z76 := Tryz.sizeOf132
  v76 := Tryz.zeroValue132
  t77 := Tryz.underlying87
  a77 := Tryz.isAgg87
  z77 := Tryz.sizeOf87
  v77 := Tryz.zeroValue87 }
end Go.Proofs

namespace Go.Proofs.YtijdlbanfdhfnaaGreatDoor
open Go.RowKit Go.Sort

/-- A target of a list, its cells, and how two are held against each other. -/
def TgE (ns : List (Tg × Value)) : Type := { p : Tg × Value // p ∈ ns }
def encT {ns : List (Tg × Value)} (p : TgE ns) : List Value := tgc p.1.1 p.1.2
def cfT {ns : List (Tg × Value)} (x y : TgE ns) : Int := Lib.compareBytes x.1.1.name.data.toList y.1.1.name.data.toList
theorem cmp_lt (a b : List UInt8) : decide (Lib.compareBytes a b < 0) = Go.Op.bytesLess a b := by
  have h := cmp_less a b
  cases hb : Go.Op.bytesLess a b with
  | true => rw [hb] at h; simp at h ⊢; omega
  | false => rw [hb] at h; simp at h ⊢; omega
theorem lt_cfT {ns : List (Tg × Value)} (x y : TgE ns) : ltOf cfT x y = Go.Op.bytesLess x.1.1.name.data.toList y.1.1.name.data.toList := cmp_lt _ _
theorem swoT (ns : List (Tg × Value)) : SWO (ltOf (cfT (ns := ns))) where
  irrefl x := by rw [lt_cfT]; exact bl_irr _
  trans x y z h1 h2 := by rw [lt_cfT] at *; exact bl_trans _ _ _ h1 h2
  ntrans x y z h1 h2 := by
    rw [lt_cfT] at *
    cases h : Go.Op.bytesLess x.1.1.name.data.toList z.1.1.name.data.toList with
    | false => rfl
    | true =>
      exfalso
      rcases bl_tri x.1.1.name.data.toList y.1.1.name.data.toList with g | g | g
      · rw [h1] at g; cases g
      · rw [g, h2] at h; cases h
      · have := bl_trans _ _ _ g h
        rw [h2] at this; cases this
theorem tgnf_bs {w : World} {p : Tg × Value} (h : TgNf w p) : BS w p.2 p.1.name := by
  obtain ⟨g, c, cs, fr, e1, e2, e3, e4⟩ := h
  refine ⟨some ⟨g, 0, none⟩, g, 0, c, e1, fun _ => rfl, fun j hj => ?_⟩
  rw [Nat.zero_add]
  simp only [World.cell?, e2]
  simp only [Option.isSome_none, Bool.false_eq_true, if_false]
  exact e3 j hj
set_option maxHeartbeats 2000000 in
set_option maxRecDepth 1000000 in
/-- How layout holds two targets against each other. -/
theorem layCmp_any (x y : Tg) (vx vy : Value) (W : World) (hx : BS W vx x.name) (hy : BS W vy y.name) :
    Calls Tryz.prog 60 #[.agg #[vx, .int .i64 x.kind, .int .i64 x.cell], .agg #[vy, .int .i64 y.kind, .int .i64 y.cell]] W fun e w' => e = .returned (.int .i64 (Lib.compareBytes x.name.data.toList y.name.data.toList)) ∧ ∃ q os', w' = grow (W.drewN q) os' := by
  have HC := hide (fun V (hV : Below W.heap.size W V) => bcmp_any vx vy x.name y.name V (hx.below hV) (hy.below hV))
  obtain ⟨ax, cx, rfl⟩ := hx.slice
  obtain ⟨ay, cy, rfl⟩ := hy.slice
  generalize Lib.compareBytes x.name.data.toList y.name.data.toList = r at HC ⊢
  obtain ⟨nx, hnx⟩ : ∃ n, x.name.size = n := ⟨_, rfl⟩
  obtain ⟨ny, hny⟩ : ∃ n, y.name.size = n := ⟨_, rfl⟩
  rw [hnx] at HC ⊢
  rw [hny] at HC ⊢
  clear hx hy hnx hny
  go_enter Tryz.func60, Tryz.ntmps60
  go_wp2_with fail
  refine (HC.out _ (((Below.refl _ _).alloc (Nat.le_refl _) _).alloc (by simp) _)).mono ?_
  rintro e w' ⟨rfl, rfl⟩
  go_wp2
  go_ret
  exact ⟨rfl, 0, _, by rw [alloc_eq_grow, alloc_eq_grow, grow_grow]; rfl⟩
theorem heap_sortK {α : Type} [Inhabited α] (enc : α → List Value) (k : Nat) {w : World} {b m g : Nat} {d : Array α} {os : Array Obj} (hg : g < w.heap.size) (hb : g ≠ b) : (sortWorldK enc k w b 0 m d os).heap[g]? = w.heap[g]? := by
  unfold sortWorldK
  rw [heap_grow_old _ _ (by simpa [putRowK, putRow, mapBlock, Sort.ahead] using hg)]
  have : b ≠ g := fun e => hb e.symm
  simp [putRowK, putRow, mapBlock, Sort.ahead, Array.getElem?_modify, this]
theorem heap_sortS {α : Type} [Inhabited α] (enc : α → List Value) (k : Nat) {w : World} {b m : Nat} {d : Array α} {os : Array Obj} {cur : Array Value} {e : TypeId} {fr : Nat × Nat} (hb : w.heap[b]? = some (.cells cur e fr)) : (sortWorldK enc k w b 0 m d os).heap[b]? = some (.cells (putCells id 0 (flatK enc k d) cur) e fr) := by
  have hg : b < w.heap.size := (Array.getElem?_eq_some_iff.1 hb).1
  unfold sortWorldK
  rw [heap_grow_old _ _ (by simpa [putRowK, putRow, mapBlock, Sort.ahead] using hg)]
  simp [putRowK, putRow, mapBlock, Sort.ahead, Array.getElem?_modify, hb, onCells]
theorem sortK_grown {α : Type} [Inhabited α] (enc : α → List Value) (k : Nat) (w : World) (b m : Nat) (d : Array α) (os : Array Obj) : w.grownBy (sortWorldK enc k w b 0 m d os) (some b) := by
  refine ⟨rfl, rfl, rfl, by simp [sortWorldK, putRowK, putRow, mapBlock, Sort.ahead], fun g hg hne => ?_⟩
  exact heap_sortK enc k hg (fun e => hne (by rw [e]))
theorem get_bang {α : Type} [Inhabited α] {d : Array α} {j : Nat} {x : α} (h : d.toList[j]? = some x) : d[j]! = x := by
  rw [Array.getElem?_toList] at h
  rw [getElem!_def, h]
theorem flat_tgcs {ns : List (Tg × Value)} [Inhabited (TgE ns)] (d : Array (TgE ns)) : (flatK encT 3 d).toList = tgcs (d.toList.map (·.1)) := by
  apply List.ext_getElem?
  intro t
  by_cases ht : t < d.size * 3
  · have h1 := get_flatK encT 3 d t ht
    have hj : t / 3 < d.toList.length := by rw [Array.length_toList]; omega
    have h2 : (d.toList.map (·.1))[t / 3]? = some (d.toList[t / 3]'hj).1 := by rw [List.getElem?_map, List.getElem?_eq_getElem hj]; rfl
    have h3 := tgcs_at _ _ _ h2 (t % 3) (by omega)
    rw [show t / 3 * 3 + t % 3 = t by omega] at h3
    rw [h3, Array.getElem?_toList]
    have h4 : d[t / 3]! = d.toList[t / 3]'hj := get_bang (List.getElem?_eq_getElem hj)
    rw [h4] at h1
    have hs : t < (flatK encT 3 d).size := by rw [size_flatK]; exact ht
    rw [getElem!_pos (flatK encT 3 d) t hs] at h1
    rw [Array.getElem?_eq_getElem hs, h1]
    show some (tgc _ _)[t % 3]! = _
    have hl : t % 3 < (tgc (d.toList[t / 3]'hj).1.1 (d.toList[t / 3]'hj).1.2).length := by show t % 3 < 3; omega
    rw [getElem!_pos (tgc (d.toList[t / 3]'hj).1.1 (d.toList[t / 3]'hj).1.2) (t % 3) hl, List.getElem?_eq_getElem hl]
  · rw [List.getElem?_eq_none (by rw [Array.length_toList, size_flatK]; omega), List.getElem?_eq_none (by rw [tgcs_length, List.length_map, Array.length_toList]; omega)]
theorem take_put (cur F : Array Value) (h : F.size ≤ cur.size) : (putCells id 0 F cur).toList.take F.size = F.toList := by
  apply List.ext_getElem?
  intro j
  by_cases hj : j < F.size
  · rw [List.getElem?_take_of_lt hj, Array.getElem?_toList, Array.getElem?_toList]
    simp [putCells, hj, show j < cur.size by omega]
  · rw [List.getElem?_take_eq_none (by omega), List.getElem?_eq_none (by simp; omega)]
theorem grown_self (w : World) (r : Option Nat) : w.grownBy w r := ⟨rfl, rfl, rfl, Nat.le_refl _, fun _ _ _ => rfl⟩
set_option maxHeartbeats 2000000 in
theorem sort_any (F : Nat) (f : Flo) (vt : Value) (ns : List (Tg × Value)) (V : World) (hf : FloOk f) (hO : TgOw V (F + 1) vt ns) (hN : ∀ p ∈ ns, TgNf V p) (hts : ns.map Prod.fst = f.tgs) : Calls Tryz.prog 59 #[vt, .func (.func 60) #[] #[]] V (SrtQ F f vt ns V) := by
  by_cases h0 : ns = []
  · subst h0
    obtain ⟨a, c, rfl⟩ := hO.slice
    have h := AnyF.slices_SortFunc_none Tryz.sortT a c (.func (.func 60) #[] #[]) V
    change Calls Tryz.prog 59 _ _ _ at h
    refine h.mono ?_
    rintro e w' ⟨rfl, rfl⟩
    refine ⟨rfl, [], List.Perm.refl _, ?_, hO, grown_self _ _⟩
    rw [← hts]
    rfl
  obtain ⟨hl, ho⟩ := id hO
  rcases ho with ⟨rfl, hz⟩ | ⟨b, c, cur, rfl, hb, hg, hn, hmx, hcz, ht⟩
  · exact absurd (List.length_eq_zero_iff.1 hz) h0
  obtain ⟨p0, hp0⟩ : ∃ p, p ∈ ns := List.exists_mem_of_ne_nil _ h0
  letI : Inhabited (TgE ns) := ⟨⟨p0, hp0⟩⟩
  have hblk : b < V.heap.size := (Array.getElem?_eq_some_iff.1 hg).1
  let d : Array (TgE ns) := (ns.attach : List { p // p ∈ ns }).toArray
  have hdl : d.toList.map (·.1) = ns := by
    show (ns.attach).map Subtype.val = ns
    exact List.attach_map_subtype_val ns
  have hds : d.size = ns.length := by
    have := congrArg List.length hdl
    rw [List.length_map, Array.length_toList] at this
    exact this
  have hbs : ∀ (m : Nat) (os : Array Obj) (dk : Array (TgE ns)) (x : TgE ns), BS (sortWorldK encT 3 V b 0 m dk os) x.1.2 x.1.1.name := fun m os dk x => by
    refine tgnf_bs ((hN x.1 x.2).keep fun {g cs fr} q => ?_)
    rw [heap_sortK encT 3 (lt_heap q) (fun e => ?_)]
    · exact q
    · subst e
      rw [hg] at q
      injection q with q
      injection q with _ q
      cases q
  have hcmp : CmpLays Tryz.prog 60 #[] encT 3 cfT b 0 d.size V := fun m os dk _ x y => layCmp_any x.1.1 y.1.1 x.1.2 y.1.2 _ (hbs m os dk x) (hbs m os dk y)
  have hH : HoldsK encT 3 V b 0 d := fun j hj => by
    have hfz : V.frozen? ⟨b, 0 + j, none⟩ = false := by simp [World.frozen?, hg]
    refine ⟨?_, hfz⟩
    have hj' : j < ns.length * 3 := by rw [← hds]; simpa using hj
    have h1 : (cur.toList.take (ns.length * 3))[j]? = (flatK encT 3 d).toList[j]? := by rw [ht, flat_tgcs, hdl]
    rw [List.getElem?_take_of_lt hj'] at h1
    simp only [World.cell?, hg, Nat.zero_add]
    simp only [Option.isSome_none, Bool.false_eq_true, if_false]
    rw [← Array.getElem?_toList, h1, Array.getElem?_toList, Array.getElem?_eq_getElem hj]
    rw [getElem!_pos (flatK encT 3 d) j hj]
    rfl
  have eg : ∀ args w, (callFunc 60 args).run Tryz.prog w = .ok (.enter 60 args) w := enters_of Tryz.func60 (by kernel_rfl) rfl
  have h := AnyQ.slices_SortFunc Tryz.sortT 3 Tryz.isAgg50 Tryz.sizeOf50 encT (fun _ => rfl) (fun x v hv => by
    have hv' : v ∈ tgcs [x.1] := by show v ∈ tgc x.1.1 x.1.2 ++ []; rw [List.append_nil]; exact hv
    refine tgcs_one (fun p hp => ?_) v hv'
    obtain rfl := List.mem_singleton.1 hp
    obtain ⟨g, c, cs, fr, e1, _⟩ := hN x.1 x.2
    rw [e1]; rfl) cfT (swoT ns) 60 #[] b 0 c d V eg hcmp hH hblk (by
      have : ns.length ≤ 30 := by rw [← List.length_map (f := Prod.fst), hts]; exact hf.tl
      omega)
  change Calls Tryz.prog 59 _ _ _ at h
  rw [hds] at h
  refine h.mono ?_
  rintro e w' ⟨rfl, d', n, os, hp, hs, rfl⟩
  obtain ⟨hp1, _, hp2⟩ := hp
  rw [hds] at hp1
  have hx1 : (d'.extract 0 ns.length).toList = d'.toList := by rw [← hp1]; simp
  have hx2 : (d.extract 0 ns.length).toList = d.toList := by rw [← hds]; simp
  rw [hx1, hx2] at hp2
  have hpm : (d'.toList.map (·.1)).Perm ns := by
    have h := hp2.map (fun x : TgE ns => x.1)
    rw [hdl] at h
    exact h
  refine ⟨rfl, d'.toList.map (·.1), hpm, ?_, ?_, sortK_grown encT 3 V b n d' os⟩
  · refine srt_one hf.tn (by rw [← hts]; exact hpm.map _) ?_
    rw [List.map_map, List.pairwise_map, List.pairwise_iff_getElem]
    intro i j hi hj hij
    have h1 := hs i j (Nat.zero_le _) hij (by rw [Array.length_toList, hp1] at hj; exact hj)
    rw [lt_cfT, get_bang (List.getElem?_eq_getElem hi), get_bang (List.getElem?_eq_getElem hj)] at h1
    show Go.Op.bytesLess (d'.toList[j]).1.1.name.toList (d'.toList[i]).1.1.name.toList = false
    rw [ByteArray.toList_eq, ByteArray.toList_eq]
    exact h1
  · have hdl' : (d'.toList.map (·.1)).length = ns.length := by rw [List.length_map, Array.length_toList, hp1]
    unfold TgOw
    rw [hdl']
    refine ⟨by rw [tgcs_length, hdl'], .inr ⟨b, c, _, rfl, hb, heap_sortS encT 3 hg, hn, hmx, by simp [putCells, hcz], ?_⟩⟩
    rw [← flat_tgcs, show ns.length * 3 = (flatK encT 3 d').size by rw [size_flatK, hp1]]
    exact take_put _ _ (by rw [size_flatK, hp1, hcz]; exact Nat.mul_le_mul_right 3 hn)
end Go.Proofs.YtijdlbanfdhfnaaGreatDoor
