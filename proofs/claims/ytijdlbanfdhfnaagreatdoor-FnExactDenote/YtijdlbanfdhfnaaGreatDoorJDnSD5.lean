/-
  The walk of l4apply at a second grid.
  A slice of bytes as a text: the numbers of its bytes; its conversion to a string.
  A slice of bytes as a string.
  The walk of l4target where a name or a cell is taken.
-/
import Derived.Test.YtijdlbanfdhfnaaGreatDoorJDnSD4
import Derived.Test.YtijdlbanfdhfnaaGreatDoorJDnT
import Derived.Laws.BytesArg
import Derived.Shelf.Unicode.DecodeSlow
import Derived.Laws.BytesString
import Derived.BigQuiet
import Derived.Deep.QuietTactic
namespace Go.Proofs.YtijdlbanfdhfnaaGreatDoor
open Go.RowKit

set_option maxHeartbeats 1000000 in
set_option maxRecDepth 1000000 in
theorem l4apply_7 (F : Nat) (f : Flo) (d : Dc) (v7 : Value) (i : Int) (w : World) (hk : d.kind = 7) (h7 : ∃ a n c, v7 = .slice a n c) :
    Calls Tryz.prog 15 #[.pointer (some ⟨F, 0, none⟩), dcagg d v7, .int .i64 i] w fun e w' => e = .returned (.int .i64 (apC f d)) ∧ Below w.heap.size w w' := by
  obtain ⟨a7, n7, c7, rfl⟩ := h7
  have HE : Hid (apC f d = 8) := by show _ = _; unfold apC; rw [if_pos hk]
  unfold dcagg
  rw [hk]
  have hBk := (Blk.new w 42 #[.int .i64 7, .int .i64 d.x1, .int .i64 d.y1, .int .i64 d.x2, .int .i64 d.y2, .int .i64 d.dir, .int .i64 d.cost, .slice a7 n7 c7, .int .i64 d.node])
  have z0 := hBk.cell 0
  simp only [List.getElem?_toArray, List.getElem?_cons_zero] at z0
  clear hk hBk
  go_enter Tryz.func15, Tryz.ntmps15
  go_wp2
  go_ret
  exact ⟨by rw [HE.out]; rfl, (Below.refl _ _).alloc (Nat.le_refl _) _⟩
end Go.Proofs.YtijdlbanfdhfnaaGreatDoor

namespace Go.Proofs.YtijdlbanfdhfnaaGreatDoor
open Go.RowKit

theorem get!_beyond (s : ByteArray) (j : Nat) (h : s.size ≤ j) : s.get! j = 0 := by
  cases s with | mk a =>
  simp only [ByteArray.get!]
  rw [getElem!_neg a j (by have h' : a.size ≤ j := h; omega)]; rfl
theorem get!_extract (s : ByteArray) (i k : Nat) : (s.extract i s.size).get! k = s.get! (i + k) := by
  by_cases h : i + k < s.size
  · have h1 : k < (s.extract i s.size).size := by rw [ByteArray.size_extract]; omega
    rw [Utf8W.get!_of_lt _ k h1, Utf8W.get!_of_lt _ (i + k) h]
    exact ByteArray.getElem_extract h1
  · rw [get!_beyond s _ (by omega), get!_beyond _ k (by rw [ByteArray.size_extract]; omega)]

/-- The numbers of a text's bytes. -/
def nums (s : ByteArray) : List Int := s.data.toList.map fun c => (c.toNat : Int)
theorem nums_length (s : ByteArray) : (nums s).length = s.size := by unfold nums; rw [List.length_map, Array.length_toList]; rfl
theorem strOf_nums (s : ByteArray) : strOfNums (nums s) = s := by
  cases s with | mk a =>
  unfold strOfNums nums
  congr 1
  apply Array.ext'
  rw [List.map_map, List.toList_toArray]
  refine (List.map_congr_left (g := id) (fun c _ => ?_)).trans (List.map_id _)
  show UInt8.ofNat ((c.toNat : Int).toNat) = c
  rw [Int.toNat_natCast]
  exact UInt8.ofNat_toNat
theorem nums_getD (s : ByteArray) (j : Nat) (h : j < s.size) : Value.int .u8 ((nums s).getD j 0) = bts s j := by
  unfold bts
  rw [Utf8W.get!_of_lt s j h]
  cases s with | mk a =>
  have h' : j < a.size := h
  show Value.int .u8 (((a.toList.map fun c => (c.toNat : Int))[j]?).getD 0) = Value.int .u8 ((a[j]).toNat : Int)
  rw [List.getElem?_map, Array.getElem?_toList, Array.getElem?_eq_getElem h']
  rfl
theorem toStr_run (s : ByteArray) (w : World) (b off cap : Nat) (hc : ∀ j, j < s.size → w.cell? ⟨b, off + j, none⟩ = some (bts s j)) :
    (convert 38 9 (.slice (some ⟨b, off, none⟩) s.size cap)).run Tryz.prog w = .ok (.string s) w := by
  have := run_convert_bytes_arg (P := Tryz.prog) w 38 5 Tryz.underlying38 Tryz.underlying5 b off s.size cap (nums s) (nums_length s) (fun i hi => by rw [nums_getD s i hi]; exact hc i hi) 9 Tryz.underlying9
  rw [strOf_nums] at this
  exact this

end Go.Proofs.YtijdlbanfdhfnaaGreatDoor

namespace Go.Proofs.YtijdlbanfdhfnaaGreatDoor
open Go.RowKit

theorem toStr_bs {w : World} {v : Value} {s : ByteArray} (h : BS w v s) : (convert 38 9 v).run Tryz.prog w = .ok (.string s) w := by
  obtain ⟨a, b, o, c, rfl, ha, hc⟩ := h
  by_cases h0 : 0 < s.size
  · obtain rfl := ha h0
    exact toStr_run s w b o c hc
  · have hz : s.size = 0 := by omega
    have e : s = ByteArray.empty := ext_bytes hz (fun j hj => by omega)
    subst e
    show (convert 38 9 (.slice a 0 c)).run Tryz.prog w = _
    rw [run_convert_bytes_string w 38 9 5 a 0 c Tryz.underlying38 Tryz.underlying5 Tryz.underlying9]
    cases a <;> simp [Conv.bytesToString, loadCells]
    all_goals rfl
end Go.Proofs.YtijdlbanfdhfnaaGreatDoor

namespace Go.Proofs.YtijdlbanfdhfnaaGreatDoor
open Go.RowKit

set_option maxHeartbeats 4000000 in
set_option maxRecDepth 1000000 in
theorem l4target_8 (F bw bc bd cw cc cd : Nat) (G : Nat → Nat) (f : Flo) (vt vf : Value) (ns : List (Tg × Value)) (d : Dc) (v7 : Value) (i : Int) (w : World) (hf : FloOk f) (h7 : BS w v7 d.name) (hm : FlM w F bw bc bd cw cc cd G f vt vf ns) (hn : d.name.size ≠ 0) (ht : tkn2 f.tgs (tgOf f d)) :
    Calls Tryz.prog 43 #[.pointer (some ⟨F, 0, none⟩), dcagg d v7, .int .i64 (tgOf f d).cell, .int .i64 i] w fun e w' => e = .returned (.int .i64 8) ∧ Below w.heap.size w w' := by
  have HNS : Hid (ns.length ≤ 30) := by have := hf.tl; rw [← hm.ts, List.length_map] at this; exact this
  obtain ⟨at_, ct, hvt⟩ := hm.tg.slice
  obtain ⟨a0, b0, c0, hv0, ha0, hc0, _⟩ := hm.tg.view
  have HTK : Hid (∃ m, m < ns.length ∧ ∃ p, ns[m]? = some p ∧ (p.1.name = d.name ∨ p.1.cell = (tgOf f d).cell)) := by
    obtain ⟨x, hx, hor⟩ := ht
    rw [← hm.ts] at hx
    obtain ⟨p, hp, rfl⟩ := List.mem_map.1 hx
    obtain ⟨m, hm1, hm2⟩ := List.getElem_of_mem hp
    exact ⟨m, hm1, p, by rw [List.getElem?_eq_getElem hm1, hm2], hor⟩
  have HCE : Hid (∀ V, Below w.heap.size w V → ∀ j, j < ns.length → ∀ p, ns[j]? = some p → V.cell? ⟨b0, j * 3, none⟩ = some p.2 ∧ V.cell? ⟨b0, j * 3 + 2, none⟩ = some (.int .i64 p.1.cell) ∧ BS V p.2 p.1.name) := fun V hV j hj p hp => by
    have h0 := hc0 j hj p hp 0 (by omega)
    have h2 := hc0 j hj p hp 2 (by omega)
    obtain ⟨g, c, e1, e2⟩ := hm.tn p (List.mem_of_getElem? hp)
    refine ⟨cell_kept h0 hV, cell_kept h2 hV, ?_⟩
    rw [e1]
    exact ⟨_, g, 0, c, rfl, fun _ => rfl, fun j hj => by rw [Nat.zero_add]; exact (e2.below hV).cell hj⟩
  have x5 := hm.blk.cell 5
  simp only [List.getElem?_toArray, List.getElem?_cons_succ, List.getElem?_cons_zero] at x5
  have HX5 : Hid (∀ V, Below w.heap.size w V → V.cell? ⟨F, 5, none⟩ = some (.slice a0 ns.length c0)) := fun V hV => by rw [← hv0]; exact cell_kept x5 hV
  have HA0 : Hid (0 < ns.length → a0 = some ⟨b0, 0, none⟩) := fun h => (ha0 h).1
  have HN7 := hide h7
  obtain ⟨a7, c7, rfl⟩ := h7.slice
  unfold dcagg
  obtain ⟨cell, hcell⟩ : ∃ c, (tgOf f d).cell = c := ⟨_, rfl⟩
  rw [hcell] at HTK ⊢
  obtain ⟨W1, hW1⟩ : ∃ W, w.alloc (.cells #[.int .i64 d.kind, .int .i64 d.x1, .int .i64 d.y1, .int .i64 d.x2, .int .i64 d.y2, .int .i64 d.dir, .int .i64 d.cost, .slice a7 d.name.size c7, .int .i64 d.node] 42) = W := ⟨_, rfl⟩
  have hB1 : Below w.heap.size w W1 := by rw [← hW1]; exact (Below.refl _ _).alloc (Nat.le_refl _) _
  have HB1 := hide hB1
  have HBK : Hid (Blk W1 w.heap.size 42 #[.int .i64 d.kind, .int .i64 d.x1, .int .i64 d.y1, .int .i64 d.x2, .int .i64 d.y2, .int .i64 d.dir, .int .i64 d.cost, .slice a7 d.name.size c7, .int .i64 d.node]) := by rw [← hW1]; exact Blk.new _ _ _
  have z7 := HBK.out.cell 7
  simp only [List.getElem?_toArray, List.getElem?_cons_succ, List.getElem?_cons_zero] at z7
  have t0 : (((d.name.size : Nat) : Int) == 0) = false := by rw [beq_eq_false_iff_ne]; omega
  have x1 := HX5.out W1 hB1
  have hns := HNS.out
  have hW := hW1
  clear hf h7 hm ht hvt hv0 ha0 hc0 x5 hcell hW1 hB1 hn
  go_enter Tryz.func43, Tryz.ntmps43
  go_wp2
  clear x1 z7 hW t0
  go_loopw [9] (fun ix wr => ∃ k : Nat, k ≤ ns.length ∧ ix = .int .i64 k ∧ (∃ m, k ≤ m ∧ m < ns.length ∧ ∃ p, ns[m]? = some p ∧ (p.1.name = d.name ∨ p.1.cell = cell)) ∧ Below W1.heap.size W1 wr) (fun ix _ => ns.length - (intOf ix).toNat)
  case atStart =>
    obtain ⟨m, h1, h2⟩ := HTK.out
    exact ⟨0, Nat.zero_le _, rfl, ⟨m, Nat.zero_le _, h1, h2⟩, Below.refl _ _⟩
  case round =>
    clear HTK
    obtain ⟨k, hk, rfl, hex, hbl⟩ := hrel
    rename World => V
    have HEX := hide hex
    have HBE : Hid (Below w.heap.size w V) := HB1.out.trans (hbl.mono HB1.out.size)
    have HBW := hide hbl
    have z7 := (HBK.out.below hbl).cell 7
    simp only [List.getElem?_toArray, List.getElem?_cons_succ, List.getElem?_cons_zero] at z7
    have x1 := HX5.out V HBE.out
    have hlt : k < ns.length := by obtain ⟨m, h1, h2, _⟩ := hex; omega
    have hlti : (k : Int) < (ns.length : Int) := by omega
    obtain rfl := HA0.out (by omega)
    obtain ⟨p, hp⟩ : ∃ p, ns[k]? = some p := ⟨_, List.getElem?_eq_getElem hlt⟩
    obtain ⟨g0, g2, hbs⟩ := HCE.out V HBE.out k hlt p hp
    obtain ⟨nm, hnm⟩ : ∃ m, p.1.name = m := ⟨_, rfl⟩
    obtain ⟨ce, hce⟩ : ∃ m, p.1.cell = m := ⟨_, rfl⟩
    obtain ⟨pv, hpv⟩ : ∃ m, p.2 = m := ⟨_, rfl⟩
    rw [hpv] at g0 hbs
    rw [hnm] at hbs
    rw [hce] at g2
    have HSTEP : Hid (nm ≠ d.name → ce ≠ cell → ∃ m, k + 1 ≤ m ∧ m < ns.length ∧ ∃ p, ns[m]? = some p ∧ (p.1.name = d.name ∨ p.1.cell = cell)) := fun n1 n2 => by
      obtain ⟨m, h1, h2, p', h3, h4⟩ := HEX.out
      refine ⟨m, ?_, h2, p', h3, h4⟩
      by_cases e : m = k
      · rw [e, hp] at h3
        cases h3
        rw [hnm, hce] at h4
        rcases h4 with h4 | h4
        · exact absurd h4 n1
        · exact absurd h4 n2
      · omega
    obtain ⟨an, cn, rfl⟩ := hbs.slice
    have c5 : ∀ n, (convert 38 9 (.slice an nm.size cn)).run Tryz.prog (V.drewN n) = .ok (.string nm) (V.drewN n) := fun n => toStr_bs (w := V.drewN n) hbs
    have c6 : ∀ n, (convert 38 9 (.slice a7 d.name.size c7)).run Tryz.prog (V.drewN n) = .ok (.string d.name) (V.drewN n) := fun n => toStr_bs (w := V.drewN n) (HN7.out.below (below_drewN HBE.out n))
    obtain ⟨s, hs⟩ : ∃ s, d.name = s := ⟨_, rfl⟩
    rw [hs] at c6 z7 HSTEP
    clear hex hbl hp hnm hce hpv hbs
    by_cases q : nm = s
    · subst q
      clear HSTEP hs
      go_wp2_with fail
      go_quiet (fail)
      go_wp2
      go_ret
      exact ⟨rfl, below_drewN HBE.out _⟩
    · have s6 : (nm.toList == s.toList) = false := by
        rw [beq_eq_false_iff_ne]
        intro h
        exact q (tl_inj h)
      by_cases q2 : ce = cell
      · subst q2
        clear HSTEP q hs
        go_wp2_with fail
        go_quiet (fail)
        go_wp2
        go_ret
        exact ⟨rfl, below_drewN HBE.out _⟩
      · have s7 : (ce == cell) = false := by rw [beq_eq_false_iff_ne]; exact q2
        have HS2 := hide (HSTEP.out q q2)
        clear HSTEP q q2
        rw [← hs] at HS2
        clear hs
        go_wp2_with fail
        go_quiet (fail)
        go_wp2
        go_roundw
        case rel => exact ⟨k + 1, by omega, by go_num, HS2.out, below_drewN HBW.out _⟩
        case measure => simp [intOf]; omega
end Go.Proofs.YtijdlbanfdhfnaaGreatDoor
