/-
  impl.Denote.
-/
import Derived.Test.YtijdlbanfdhfnaaGreatDoorJDnIMK
import Derived.Test.YtijdlbanfdhfnaaGreatDoorJDnIMY
import Derived.Test.YtijdlbanfdhfnaaGreatDoorJDnIDV
import Derived.Test.YtijdlbanfdhfnaaGreatDoorJDnTgS2
import Derived.Test.YtijdlbanfdhfnaaGreatDoorJDnDNW
import Derived.Test.YtijdlbanfdhfnaaGreatDoorJDnDNW
import Derived.Deep.MidRow
import Derived.BigQuiet
import Derived.Deep.QuietTactic
namespace Go.Proofs.YtijdlbanfdhfnaaGreatDoor
open Go.RowKit

/-- The order of targets, by the library's SortFunc. -/
def SortOk : Prop := ∀ (F : Nat) (f : Flo) (vt : Value) (ns : List (Tg × Value)) (V : World), FloOk f → TgOw V (F + 1) vt ns → (∀ p ∈ ns, TgNf V p) → ns.map Prod.fst = f.tgs → Calls Tryz.prog 59 #[vt, .func (.func 60) #[] #[]] V (SrtQ F f vt ns V)
/-- What Denote leaves. -/
def DenQ (L : List Dc) (w : World) (e : Ending) (w' : World) : Prop := ∃ v2 v3 v4 bl, e = .returned (.tuple #[lyagg (dnA L).1 v2 v3 v4, .int .i64 (dnA L).2.1, .int .i64 (dnA L).2.2]) ∧ LyF w' (dnA L).1 v2 v3 v4 bl ∧ Fr w w' bl ∧ Below w.heap.size w w'

theorem five_other {w : World} {M g : Nat} (h : g ≠ M) (a0 a1 a2 a3 a4 : Value) : (((((w.setCell ⟨M, 0, none⟩ a0).setCell ⟨M, 1, none⟩ a1).setCell ⟨M, 2, none⟩ a2).setCell ⟨M, 3, none⟩ a3).setCell ⟨M, 4, none⟩ a4).heap[g]? = w.heap[g]? := by
  have k : ∀ (u : World) (i : Nat) (v : Value), (u.setCell ⟨M, i, none⟩ v).heap[g]? = u.heap[g]? := fun u i v => Below.heap_setCell _ _ _ _ h
  rw [k, k, k, k, k]
theorem five_size (w : World) (M : Nat) (a0 a1 a2 a3 a4 : Value) : (((((w.setCell ⟨M, 0, none⟩ a0).setCell ⟨M, 1, none⟩ a1).setCell ⟨M, 2, none⟩ a2).setCell ⟨M, 3, none⟩ a3).setCell ⟨M, 4, none⟩ a4).heap.size = w.heap.size := by simp
theorem setCells_other {b g : Nat} (hg : g ≠ b) : ∀ (vs : List Value) (o : Nat) (w : World), (w.setCells b o vs).heap[g]? = w.heap[g]?
  | [], _, _ => rfl
  | v :: r, o, w => by rw [World.setCells, setCells_other hg r (o + 1)]; exact Below.heap_setCell _ _ _ _ hg
theorem setCells_blk {b : Nat} {t : TypeId} : ∀ (vs : List Value) (o : Nat) (w : World) (cs : Array Value), Blk w b t cs → ∃ cs', Blk (w.setCells b o vs) b t cs'
  | [], _, _, cs, h => ⟨cs, h⟩
  | v :: r, o, w, cs, h => by rw [World.setCells]; exact setCells_blk r (o + 1) _ _ (h.set o v)
theorem setCells_below {b B : Nat} (hb : B ≤ b) : ∀ (vs : List Value) (o : Nat) (w0 w : World), Below B w0 w → Below B w0 (w.setCells b o vs)
  | [], _, _, _, h => h
  | v :: r, o, w0, w, h => by rw [World.setCells]; exact setCells_below hb r (o + 1) w0 _ (h.setCell (p := ⟨b, o, none⟩) hb v)
theorem oc_f (g : Nat) (x : Array Value) : (Value.func (.func g) x #[]).oneCell' = true := by rfl
theorem oc_n : Value.nilFunc.oneCell' = true := by rfl
theorem all16 (a b c d e f g h i : Value) (p : a.oneCell' = true) (q : b.oneCell' = true) (r : c.oneCell' = true) (s : d.oneCell' = true) (t : e.oneCell' = true) (u : f.oneCell' = true) (v : g.oneCell' = true) (w : h.oneCell' = true) (x : i.oneCell' = true) : (#[.nilFunc, .nilFunc, .nilFunc, .nilFunc, .nilFunc, .nilFunc, .nilFunc, a, b, c, d, e, f, g, h, i] : Array Value).all (·.oneCell') = true := by
  simp [oc_n, p, q, r, s, t, u, v, w, x]
theorem Tryz.infoA : (Tryz.prog.info? 60).map (·.size) = some 16 := by kernel_rfl
theorem blk_three (W : World) (o1 o2 : Obj) (t : TypeId) (cs : Array Value) : Blk (((W.alloc o1).alloc o2).alloc (.cells cs t)) (W.heap.size + 1 + 1) t cs := by
  have h := Blk.new ((W.alloc o1).alloc o2) t cs
  rwa [World.size_alloc, World.size_alloc] at h
/-- The world in which Denote's first loop begins. -/
def den5 (W : World) (z : Array Value) (vs : List Value) : World := (((W.alloc (.map #[] 0)).alloc (.cells #[.int .i64 0, .int .i64 0, .slice none 0 0, .slice none 0 0, .map (some W.heap.size)] 58)).alloc (.cells z 60)).setCells (W.heap.size + 1 + 1) 0 vs
theorem there_blk {w : World} {b n : Nat} {t : TypeId} {cs : Array Value} (h : Blk w b t cs) (hn : n ≤ cs.size) : w.there b 0 n := fun j hj => by
  rw [h.cell, h.frozen]
  refine ⟨?_, rfl⟩
  rw [Nat.zero_add, Array.getElem?_eq_getElem (by omega)]
  rfl
theorem den_mem (W : World) (z : Array Value) (vs : List Value) (hz : vs.length ≤ z.size) : (∃ cs, Blk (den5 W z vs) (W.heap.size + 1 + 1) 60 cs) ∧ (den5 W z vs).rangeAt (W.heap.size + 1 + 1) 0 vs ∧ Fl0 (den5 W z vs) (W.heap.size + 1) W.heap.size ∧ MapN (den5 W z vs) W.heap.size 0 (fun _ => 0) ∧ Below W.heap.size W (den5 W z vs) := by
  have hA := blk_three W (.map #[] 0) (.cells #[.int .i64 0, .int .i64 0, .slice none 0 0, .slice none 0 0, .map (some W.heap.size)] 58) 60 z
  have hF := (blk_two W (.map #[] 0) 58 #[.int .i64 0, .int .i64 0, .slice none 0 0, .slice none 0 0, .map (some W.heap.size)]).alloc (.cells z 60)
  have hM := MapN.made W
  have b2 : Below (W.alloc (.map #[] 0)).heap.size (W.alloc (.map #[] 0)) (((W.alloc (.map #[] 0)).alloc (.cells #[.int .i64 0, .int .i64 0, .slice none 0 0, .slice none 0 0, .map (some W.heap.size)] 58)).alloc (.cells z 60)) := ((Below.refl _ _).alloc (Nat.le_refl _) _).alloc (by simp) _
  have hM2 := hM.keep (b2.block _ hM.lt)
  have b1 : Below W.heap.size W (((W.alloc (.map #[] 0)).alloc (.cells #[.int .i64 0, .int .i64 0, .slice none 0 0, .slice none 0 0, .map (some W.heap.size)] 58)).alloc (.cells z 60)) := ((Below.refl _ W).alloc (Nat.le_refl _) _).trans (b2.mono (by simp))
  unfold den5
  refine ⟨setCells_blk vs 0 _ _ hA, World.rangeAt_setCells_same _ _ _ _ (there_blk hA hz), ?_, ?_, setCells_below (by omega) vs 0 _ _ b1⟩
  · exact (setCells_other (by omega) vs 0 _).trans hF
  · exact hM2.keep (setCells_other (by omega) vs 0 _)
theorem lyf_zero (w : World) : LyF w .zero (.slice none 0 0) (.slice none 0 0) (.slice none 0 0) [] :=
  ⟨[], [], [], rfl, ⟨none, 0, 0, 0, rfl, fun h => (by cases h), rfl, fun j hj => (by cases hj)⟩, ⟨none, 0, 0, 0, rfl, fun h => (by cases h), rfl, fun j hj => (by cases hj)⟩, ⟨none, 0, 0, 0, fun _ => .slice none 0 0, fun _ => [], rfl, fun h => (by cases h), rfl, fun j hj => (by cases hj), fun j hj => (by cases hj)⟩⟩
theorem den_zero {L : List Dc} {w w' : World} {b i : Int} (h : dnA L = (.zero, b, i)) (hb : Below w.heap.size w w') : DenQ L w (.returned (.tuple #[.agg #[.int .i64 0, .int .i64 0, .slice none 0 0, .slice none 0 0, .slice none 0 0], .int .i64 b, .int .i64 i])) w' := by
  refine ⟨.slice none 0 0, .slice none 0 0, .slice none 0 0, [], ?_, ?_, Fr.nil _ _, hb⟩
  · rw [h]; rfl
  · rw [h]; exact lyf_zero w'
set_option maxHeartbeats 8000000 in
set_option maxRecDepth 1000000 in
theorem implDenote_any (L : List Dc) (v : Value) (w : World) (hso : SortOk) (hT : Lib.Utf8Tabs 2 3 w) (hmv : MvOk w) (hl : L.length ≤ 1048576) (hB : ∀ j, j < L.length → DcB (L.getD j .zero)) (h : DcS w v L) :
    Calls Tryz.prog 7 #[v] w (DenQ L w) := by
  have HVD := hide (fun V (hV : Below w.heap.size w V) (ht : Lib.Utf8Tabs 2 3 V) => validDecls_any L v V ht hl hB (h.below hV))
  obtain ⟨a0, b0, o0, c0, rfl, ha0, hc0⟩ := h
  have HD : Hid (∀ V, Below w.heap.size w V → ∀ j, j < L.length → ∃ v7, DcC V b0 (o0 + j * 9) (L.getD j .zero) v7 ∧ DcV V (L.getD j .zero) v7) := fun V hV j hj => by
    obtain ⟨v7, h1, h2⟩ := hc0 j hj
    exact ⟨v7, h1.below hV, h2.below hV⟩
  have HA0 : Hid (0 < L.length → a0 = some ⟨b0, o0, none⟩) := ha0
  obtain ⟨W1, hW1⟩ : ∃ W, w.alloc (.cells #[.int .i64 0, .int .i64 0, .slice none 0 0, .slice none 0 0, .slice none 0 0] 27) = W := ⟨_, rfl⟩
  have hB1 : Below w.heap.size w W1 := by rw [← hW1]; exact (Below.refl _ _).alloc (Nat.le_refl _) _
  have HS1 : Hid (W1.heap.size = w.heap.size + 1) := by show _ = _; rw [← hW1, World.size_alloc]
  have HR1 : Hid (Blk W1 w.heap.size 27 #[.int .i64 0, .int .i64 0, .slice none 0 0, .slice none 0 0, .slice none 0 0]) := by rw [← hW1]; exact Blk.new _ _ _
  have HBW : Hid (∀ V, Below W1.heap.size W1 V → Below w.heap.size w V) := fun V hV => hB1.trans (hV.mono hB1.size)
  have HV1 := hide (HVD.out W1 hB1 (Utf8Tabs_below hT hB1))
  have HMV := hide hmv
  have HSO := hide hso
  have hW := hW1
  clear hc0 ha0 hB hW1 hB1 hso hT hmv HVD
  go_enter Tryz.func7, Tryz.ntmps7
  go_wp2_with fail
  refine HV1.out.mono ?_
  rintro e W2 ⟨⟨b, rfl, hbi⟩, hb2⟩
  have HBI := hide hbi
  have HB2 := hide hb2
  clear hbi HV1 hW hb2
  cases b with
  | false =>
    have HE := hide (dnA_no (L := L) (fun h => by have := HBI.out.2 h; cases this))
    have r0 := (HR1.out.below HB2.out).cell 0
    have r1 := (HR1.out.below HB2.out).cell 1
    have r2 := (HR1.out.below HB2.out).cell 2
    have r3 := (HR1.out.below HB2.out).cell 3
    have r4 := (HR1.out.below HB2.out).cell 4
    simp only [List.getElem?_toArray, List.getElem?_cons_succ, List.getElem?_cons_zero] at r0 r1 r2 r3 r4
    have rf0 := (HR1.out.below HB2.out).frozen 0
    have rf1 := (HR1.out.below HB2.out).frozen 1
    have rf2 := (HR1.out.below HB2.out).frozen 2
    have rf3 := (HR1.out.below HB2.out).frozen 3
    have rf4 := (HR1.out.below HB2.out).frozen 4
    go_wp2
    refine bodyPost_ret (results_row_tmp2 rfl _ _ _ w.heap.size 27 _ (0, 0) rfl (Blk.five (HR1.out.below HB2.out) _ _ _ _ _) Tryz.underlying27 (by kernel_rfl)) rfl ?_
    exact den_zero HE.out (below_five (HBW.out _ HB2.out) (Nat.le_refl _) _ _ _ _ _)
  | true =>
    have HOK := hide (HBI.out.1 rfl)
    clear HBI
    by_cases hl0 : L.length = 0
    · have tl : (((L.length : Nat) : Int) == 0) = true := by rw [hl0]; rfl
      have HE := hide (dnA_8 HOK.out (fun h => by have := h.1; omega))
      have r0 := (HR1.out.below HB2.out).cell 0
      have r1 := (HR1.out.below HB2.out).cell 1
      have r2 := (HR1.out.below HB2.out).cell 2
      have r3 := (HR1.out.below HB2.out).cell 3
      have r4 := (HR1.out.below HB2.out).cell 4
      simp only [List.getElem?_toArray, List.getElem?_cons_succ, List.getElem?_cons_zero] at r0 r1 r2 r3 r4
      have rf0 := (HR1.out.below HB2.out).frozen 0
      have rf1 := (HR1.out.below HB2.out).frozen 1
      have rf2 := (HR1.out.below HB2.out).frozen 2
      have rf3 := (HR1.out.below HB2.out).frozen 3
      have rf4 := (HR1.out.below HB2.out).frozen 4
      go_wp2
      refine bodyPost_ret (results_row_tmp2 rfl _ _ _ w.heap.size 27 _ (0, 0) rfl (Blk.five (HR1.out.below HB2.out) _ _ _ _ _) Tryz.underlying27 (by kernel_rfl)) rfl ?_
      exact den_zero HE.out (below_five (HBW.out _ HB2.out) (Nat.le_refl _) _ _ _ _ _)
    have tl : (((L.length : Nat) : Int) == 0) = false := by rw [beq_eq_false_iff_ne]; omega
    have hmm := @run_makeMap Tryz.prog
    go_wp2_with (refine wpList_store_mid rfl 60 (.tmp 6) (.tmp 41) rfl _ 0 _ rfl rfl ?_ ?_ (all16 _ _ _ _ _ _ _ _ _ (oc_f _ _) (oc_f _ _) (oc_f _ _) (oc_f _ _) (oc_f _ _) (oc_f _ _) (oc_f _ _) (oc_f _ _) (oc_f _ _)) ?_)
    case refine_2 => exact Tryz.infoA
    case refine_1 => exact there_blk (blk_three _ _ _ _ _) (Nat.le_refl 16)
    clear hmm tl
    have hden := den_mem W2 #[.nilFunc, .nilFunc, .nilFunc, .nilFunc, .nilFunc, .nilFunc, .nilFunc, .nilFunc, .nilFunc, .nilFunc, .nilFunc, .nilFunc, .nilFunc, .nilFunc, .nilFunc, .nilFunc] [.nilFunc, .nilFunc, .nilFunc, .nilFunc, .nilFunc, .nilFunc, .nilFunc, .func (.func 19) #[.pointer (some ⟨W2.heap.size + 1, 0, none⟩)] #[], .func (.func 20) #[.pointer (some ⟨W2.heap.size + 1, 0, none⟩)] #[], .func (.func 21) #[.pointer (some ⟨W2.heap.size + 1, 0, none⟩)] #[], .func (.func 22) #[.pointer (some ⟨W2.heap.size + 1, 0, none⟩)] #[], .func (.func 23) #[.pointer (some ⟨W2.heap.size + 1, 0, none⟩)] #[], .func (.func 24) #[.pointer (some ⟨W2.heap.size + 1, 0, none⟩)] #[], .func (.func 25) #[.pointer (some ⟨W2.heap.size + 1, 0, none⟩)] #[], .func (.func 26) #[.pointer (some ⟨W2.heap.size + 1, 0, none⟩)] #[], .func (.func 26) #[.pointer (some ⟨W2.heap.size + 1, 0, none⟩)] #[]] (Nat.le_refl 16)
    obtain ⟨W5, hW5⟩ : ∃ W, den5 W2 #[.nilFunc, .nilFunc, .nilFunc, .nilFunc, .nilFunc, .nilFunc, .nilFunc, .nilFunc, .nilFunc, .nilFunc, .nilFunc, .nilFunc, .nilFunc, .nilFunc, .nilFunc, .nilFunc] [.nilFunc, .nilFunc, .nilFunc, .nilFunc, .nilFunc, .nilFunc, .nilFunc, .func (.func 19) #[.pointer (some ⟨W2.heap.size + 1, 0, none⟩)] #[], .func (.func 20) #[.pointer (some ⟨W2.heap.size + 1, 0, none⟩)] #[], .func (.func 21) #[.pointer (some ⟨W2.heap.size + 1, 0, none⟩)] #[], .func (.func 22) #[.pointer (some ⟨W2.heap.size + 1, 0, none⟩)] #[], .func (.func 23) #[.pointer (some ⟨W2.heap.size + 1, 0, none⟩)] #[], .func (.func 24) #[.pointer (some ⟨W2.heap.size + 1, 0, none⟩)] #[], .func (.func 25) #[.pointer (some ⟨W2.heap.size + 1, 0, none⟩)] #[], .func (.func 26) #[.pointer (some ⟨W2.heap.size + 1, 0, none⟩)] #[], .func (.func 26) #[.pointer (some ⟨W2.heap.size + 1, 0, none⟩)] #[]] = W := ⟨_, rfl⟩
    rw [hW5] at hden
    unfold den5 at hW5
    rw [hW5]
    obtain ⟨⟨ca, hca⟩, hrg, hf0, hmp, hb5⟩ := hden
    have hcK : ∀ k : Nat, 7 ≤ k → k ≤ 15 → W5.cell? ⟨W2.heap.size + 1 + 1, k, none⟩ = some (.func (.func (fnK k)) #[.pointer (some ⟨W2.heap.size + 1, 0, none⟩)] #[]) := fun k h1 h2 => by
      have h : k = 7 ∨ k = 8 ∨ k = 9 ∨ k = 10 ∨ k = 11 ∨ k = 12 ∨ k = 13 ∨ k = 14 ∨ k = 15 := by omega
      rcases h with rfl | rfl | rfl | rfl | rfl | rfl | rfl | rfl | rfl
      · exact hrg 7 _ rfl
      · exact hrg 8 _ rfl
      · exact hrg 9 _ rfl
      · exact hrg 10 _ rfl
      · exact hrg 11 _ rfl
      · exact hrg 12 _ rfl
      · exact hrg 13 _ rfl
      · exact hrg 14 _ rfl
      · exact hrg 15 _ rfl
    have HI0 : Hid (DnI L (W2.heap.size + 1) W2.heap.size 0 W5) := .inl ⟨rfl, hf0, hmp⟩
    clear hW5 hrg hf0 hmp
    have HCA : Hid (∀ k : Nat, 7 ≤ k → k ≤ 15 → ca[k]? = some (.func (.func (fnK k)) #[.pointer (some ⟨W2.heap.size + 1, 0, none⟩)] #[])) := fun k h1 h2 => by rw [← hca.cell k]; exact hcK k h1 h2
    have HR5 : Hid (Blk W5 w.heap.size 27 #[.int .i64 0, .int .i64 0, .slice none 0 0, .slice none 0 0, .slice none 0 0]) := (HR1.out.below HB2.out).below hb5
    have HB5 : Hid (Below w.heap.size w W5) := (HBW.out _ HB2.out).trans (hb5.mono (HBW.out _ HB2.out).size)
    have HAR := hide hca
    have HMR : Hid (w.heap.size < W2.heap.size) := by have h1 := HB2.out.size; have h2 := HS1.out; show _ < _; omega
    obtain ⟨M, hMM⟩ : ∃ m, W2.heap.size = m := ⟨_, rfl⟩
    rw [hMM] at HCA HAR HI0 HMR ⊢
    clear hcK hca hb5 hMM
    go_loopw [44] (fun ix wr => ∃ k : Nat, k ≤ L.length ∧ ix = .int .i64 k ∧ DnI L (M + 1) M k wr ∧ Blk wr (M + 1 + 1) 60 ca ∧ Blk wr w.heap.size 27 #[.int .i64 0, .int .i64 0, .slice none 0 0, .slice none 0 0, .slice none 0 0] ∧ Below w.heap.size w wr) (fun ix _ => L.length - (intOf ix).toNat)
    case atStart => exact ⟨0, Nat.zero_le _, rfl, HI0.out, HAR.out, HR5.out, HB5.out⟩
    case round =>
      clear HI0 HAR HR5 HB5
      obtain ⟨k, hk, rfl, hI, hA, hR, hb⟩ := hrel
      rename World => V
      have HI := hide hI
      have HA := hide hA
      have HR := hide hR
      have HB := hide hb
      by_cases hlt : k < L.length
      · have hlti : (k : Int) < (L.length : Int) := by omega
        obtain rfl := HA0.out (by omega)
        obtain ⟨v7, hdc, hdv⟩ := HD.out V hb k hlt
        have hdk := HOK.out.2 k hlt
        have HST := hide (fun U (hU : Below V.heap.size V U) => step_any L (M + 1) M k v7 U (by omega) HOK.out hlt (HI.out.below hU) (hdv.name.below hU))
        obtain ⟨a7, c7, rfl⟩ := hdv.name.slice
        obtain ⟨d, hd⟩ : ∃ d, L.getD k .zero = d := ⟨_, rfl⟩
        rw [hd] at hdc HST hdk
        have hk0 := hdk.k0
        have hk1 := hdk.k1
        obtain ⟨z0, z1, z2, z3, z4, z5, z6, z7, z8⟩ := hdc
        unfold dcagg at HST
        clear hI hA hR hb hdv hd hdk
        obtain ⟨q, hq⟩ : ∃ q : Nat, d.kind = (q : Int) := ⟨d.kind.toNat, by omega⟩
        rw [hq] at z0 HST hk0 hk1
        have een := enK (q : Int) hk0 hk1
        have eA := HCA.out q (by omega) (by omega)
        have HEA := hide eA
        have hq16 : (q : Int) < 16 := by omega
        clear hq eA
        go_wp2_with fail
        obtain ⟨V1, hV1⟩ : ∃ W, V.alloc (.cells #[.int .i64 (q : Int), .int .i64 d.x1, .int .i64 d.y1, .int .i64 d.x2, .int .i64 d.y2, .int .i64 d.dir, .int .i64 d.cost, .slice a7 d.name.size c7, .int .i64 d.node] 42) = W := ⟨_, rfl⟩
        have hA1 : Below V.heap.size V V1 := by rw [← hV1]; exact (Below.refl _ _).alloc (Nat.le_refl _) _
        have HD1 : Hid (Blk V1 V.heap.size 42 #[.int .i64 (q : Int), .int .i64 d.x1, .int .i64 d.y1, .int .i64 d.x2, .int .i64 d.y2, .int .i64 d.dir, .int .i64 d.cost, .slice a7 d.name.size c7, .int .i64 d.node]) := by rw [← hV1]; exact Blk.new _ _ _
        have HA1 := hide (HA.out.below hA1)
        have HST1 := hide (HST.out V1.drew hA1.drew)
        rw [hV1]
        clear hV1
        refine wp_region_held_drew (S := fun w' => Hid (Blk w' V.heap.size 42 #[.int .i64 (q : Int), .int .i64 d.x1, .int .i64 d.y1, .int .i64 d.x2, .int .i64 d.y2, .int .i64 d.dir, .int .i64 d.cost, .slice a7 d.name.size c7, .int .i64 d.node] ∧ Blk w' (M + 1 + 1) 60 ca)) (by kernel_rfl) (⟨HD1.out, HA1.out⟩) (fun hHeld => ?_)
        refine wpAnyH_take (i := 0) (v := ?_) rfl (by kernel_rfl) (by kernel_rfl) (by kernel_rfl) (fun _ _ _ h => h) (Or.inl ⟨by rfl, ?_⟩) hHeld ?_
        rotate_left 1
        · intro Wx hSW; simp only [List.getElem_toArray, List.getElem_cons_zero]; have e0 := hSW.out.1.cell 0; have e1 := hSW.out.1.cell 1; have e2 := hSW.out.1.cell 2; have e3 := hSW.out.1.cell 3; have e4 := hSW.out.1.cell 4; have e5 := hSW.out.1.cell 5; have e6 := hSW.out.1.cell 6; have e7 := hSW.out.1.cell 7; have e8 := hSW.out.1.cell 8; have e9 := hSW.out.2.cell q; rw [HEA.out] at e9; simp only [List.getElem?_toArray, List.getElem?_cons_succ, List.getElem?_cons_zero] at e0 e1 e2 e3 e4 e5 e6 e7 e8; go_simp; try with_reducible rfl
        simp only [Act.put, List.getElem_toArray, List.getElem_cons_zero, List.setIfInBounds_toArray, List.set_cons_zero, List.set_cons_succ]
        refine wpAnyH_take (i := 1) (v := ?_) rfl (by kernel_rfl) (by kernel_rfl) (by kernel_rfl) (fun _ _ _ h => h) (Or.inl ⟨by rfl, ?_⟩) hHeld ?_
        rotate_left 1
        · intro Wx hSW; simp only [List.getElem_toArray, List.getElem_cons_zero, List.getElem_cons_succ]; have e0 := hSW.out.1.cell 0; have e1 := hSW.out.1.cell 1; have e2 := hSW.out.1.cell 2; have e3 := hSW.out.1.cell 3; have e4 := hSW.out.1.cell 4; have e5 := hSW.out.1.cell 5; have e6 := hSW.out.1.cell 6; have e7 := hSW.out.1.cell 7; have e8 := hSW.out.1.cell 8; have e9 := hSW.out.2.cell q; rw [HEA.out] at e9; simp only [List.getElem?_toArray, List.getElem?_cons_succ, List.getElem?_cons_zero] at e0 e1 e2 e3 e4 e5 e6 e7 e8; go_simp; try with_reducible rfl
        simp only [Act.put, List.getElem_toArray, List.getElem_cons_zero, List.getElem_cons_succ, List.setIfInBounds_toArray, List.set_cons_zero, List.set_cons_succ]
        refine wpAnyH_take (i := 2) (v := ?_) rfl (by kernel_rfl) (by kernel_rfl) (by kernel_rfl) (fun _ _ _ h => h) (Or.inl ⟨by rfl, ?_⟩) hHeld ?_
        rotate_left 1
        · intro Wx hSW; simp only [List.getElem_toArray, List.getElem_cons_zero, List.getElem_cons_succ]; have e0 := hSW.out.1.cell 0; have e1 := hSW.out.1.cell 1; have e2 := hSW.out.1.cell 2; have e3 := hSW.out.1.cell 3; have e4 := hSW.out.1.cell 4; have e5 := hSW.out.1.cell 5; have e6 := hSW.out.1.cell 6; have e7 := hSW.out.1.cell 7; have e8 := hSW.out.1.cell 8; have e9 := hSW.out.2.cell q; rw [HEA.out] at e9; simp only [List.getElem?_toArray, List.getElem?_cons_succ, List.getElem?_cons_zero] at e0 e1 e2 e3 e4 e5 e6 e7 e8; go_simp; try with_reducible rfl
        simp only [Act.put, List.getElem_toArray, List.getElem_cons_zero, List.getElem_cons_succ, List.setIfInBounds_toArray, List.set_cons_zero, List.set_cons_succ]
        refine wpAnyH_take (i := 3) (v := ?_) rfl (by kernel_rfl) (by kernel_rfl) (by kernel_rfl) (fun _ _ _ h => h) (Or.inl ⟨by rfl, ?_⟩) hHeld ?_
        rotate_left 1
        · intro Wx hSW; simp only [List.getElem_toArray, List.getElem_cons_zero, List.getElem_cons_succ]; have e0 := hSW.out.1.cell 0; have e1 := hSW.out.1.cell 1; have e2 := hSW.out.1.cell 2; have e3 := hSW.out.1.cell 3; have e4 := hSW.out.1.cell 4; have e5 := hSW.out.1.cell 5; have e6 := hSW.out.1.cell 6; have e7 := hSW.out.1.cell 7; have e8 := hSW.out.1.cell 8; have e9 := hSW.out.2.cell q; rw [HEA.out] at e9; simp only [List.getElem?_toArray, List.getElem?_cons_succ, List.getElem?_cons_zero] at e0 e1 e2 e3 e4 e5 e6 e7 e8; go_simp; try with_reducible rfl
        simp only [Act.put, List.getElem_toArray, List.getElem_cons_zero, List.getElem_cons_succ, List.setIfInBounds_toArray, List.set_cons_zero, List.set_cons_succ]
        refine wpAnyH_take (i := 4) (v := ?_) rfl (by kernel_rfl) (by kernel_rfl) (by kernel_rfl) (fun _ _ _ h => h) (Or.inl ⟨by rfl, ?_⟩) hHeld ?_
        rotate_left 1
        · intro Wx hSW; simp only [List.getElem_toArray, List.getElem_cons_zero, List.getElem_cons_succ]; have e0 := hSW.out.1.cell 0; have e1 := hSW.out.1.cell 1; have e2 := hSW.out.1.cell 2; have e3 := hSW.out.1.cell 3; have e4 := hSW.out.1.cell 4; have e5 := hSW.out.1.cell 5; have e6 := hSW.out.1.cell 6; have e7 := hSW.out.1.cell 7; have e8 := hSW.out.1.cell 8; have e9 := hSW.out.2.cell q; rw [HEA.out] at e9; simp only [List.getElem?_toArray, List.getElem?_cons_succ, List.getElem?_cons_zero] at e0 e1 e2 e3 e4 e5 e6 e7 e8; go_simp; try with_reducible rfl
        simp only [Act.put, List.getElem_toArray, List.getElem_cons_zero, List.getElem_cons_succ, List.setIfInBounds_toArray, List.set_cons_zero, List.set_cons_succ]
        refine wpAnyH_ready (rs := [5]) (by kernel_rfl) (by simp) ?_
        refine AllReadyH.cons rfl (fun K hK => ?_) AllReadyH.nil
        go_simp
        refine HST1.out.mono ?_
        rintro e V3 ⟨b, rfl, s1, s2, s3, s4, s5⟩
        have HA3 : Hid (Blk V3 (M + 1 + 1) 60 ca) := s3 _ _ _ (by decide) (by decide) (by decide) HA1.out
        have HD3 : Hid (Blk V3 V.heap.size 42 #[.int .i64 (q : Int), .int .i64 d.x1, .int .i64 d.y1, .int .i64 d.x2, .int .i64 d.y2, .int .i64 d.dir, .int .i64 d.cost, .slice a7 d.name.size c7, .int .i64 d.node]) := s3 _ _ _ (by decide) (by decide) (by decide) HD1.out
        have HR3 : Hid (Blk V3 w.heap.size 27 #[.int .i64 0, .int .i64 0, .slice none 0 0, .slice none 0 0, .slice none 0 0]) := (s1.block _ HMR.out).trans (HR.out.below hA1.drew)
        have HB3 : Hid (Below w.heap.size w V3) := (HB.out.trans (hA1.mono HB.out.size)).trans ((Below.refl _ V1).drew.trans (s1.mono (Nat.le_of_lt HMR.out)))
        have HS4 := hide s4
        have HS5 := hide s5
        clear s1 s2 s3 s4 s5 een
        go_wp2_with fail
        refine hK.out _ _ ⟨HD3.out, HA3.out⟩ (fun hHeld => ?_)
        clear hK K
        try simp only [Act.put, List.getElem_toArray, List.getElem_cons_zero, List.getElem_cons_succ, List.setIfInBounds_toArray, List.set_cons_zero, List.set_cons_succ]
        refine wpAnyH_take (i := 6) (v := ?_) rfl (by kernel_rfl) (by kernel_rfl) (by kernel_rfl) (fun _ _ _ h => h) (Or.inl ⟨by rfl, ?_⟩) hHeld ?_
        rotate_left 1
        · intro Wx hSW; simp only [List.getElem_toArray, List.getElem_cons_zero, List.getElem_cons_succ]; go_simp; try with_reducible rfl
        simp only [Act.put, List.getElem_toArray, List.getElem_cons_zero, List.getElem_cons_succ, List.setIfInBounds_toArray, List.set_cons_zero, List.set_cons_succ]
        refine wpAnyH_done (by kernel_rfl) ?_ _
        by_cases hb0 : b = 0
        · subst hb0
          have HI4 := hide (HS4.out rfl)
          clear hA1 HS4 HS5
          go_wp2
          go_roundw
          case rel => exact ⟨k + 1, by omega, by go_num, HI4.out, HA3.out, HR3.out, HB3.out⟩
          case measure => simp [intOf]; omega
        · have HE := hide (HS5.out hb0)
          have tb : (b == 0) = false := by rw [beq_eq_false_iff_ne]; exact hb0
          clear hA1 HS4 HS5
          have r0 := (HR3.out).cell 0
          have r1 := (HR3.out).cell 1
          have r2 := (HR3.out).cell 2
          have r3 := (HR3.out).cell 3
          have r4 := (HR3.out).cell 4
          simp only [List.getElem?_toArray, List.getElem?_cons_succ, List.getElem?_cons_zero] at r0 r1 r2 r3 r4
          have rf0 := (HR3.out).frozen 0
          have rf1 := (HR3.out).frozen 1
          have rf2 := (HR3.out).frozen 2
          have rf3 := (HR3.out).frozen 3
          have rf4 := (HR3.out).frozen 4
          go_wp2
          refine bodyPost_ret (results_row_tmp2 rfl _ _ _ w.heap.size 27 _ (0, 0) rfl (Blk.five HR3.out _ _ _ _ _) Tryz.underlying27 (by kernel_rfl)) rfl ?_
          exact den_zero HE.out (below_five HB3.out (Nat.le_refl _) _ _ _ _ _)
      · obtain rfl : k = L.length := by omega
        have hge : ¬ (L.length : Int) < (L.length : Int) := by omega
        obtain ⟨f, cb, cc, mn, vt, ns, hfo, hfl, hg0, hdn⟩ : ∃ f cb cc mn vt ns, FloOk f ∧ FlI V (M + 1) cb cc M mn f vt ns ∧ grd0 (L.getD 0 .zero) ∧ dnR (flo0 (L.getD 0 .zero).x1.toNat (L.getD 0 .zero).y1.toNat) 1 (L.drop 1) = (f, 0, 0) := by
          rcases hI with ⟨h0, _⟩ | ⟨_, f, cb, cc, mn, vt, ns, h1, h2, h3, h4⟩
          · exact absurd h0 hl0
          · exact ⟨f, cb, cc, mn, vt, ns, h1, h2, h3, by rw [h4, List.drop_length]; rfl⟩
        have HDW := hide (dnA_wl HOK.out ⟨by omega, hg0⟩ hdn)
        have HTC := hide (dn_tc HOK.out ⟨by omega, hg0⟩ hfo hdn)
        have HFL := hide hfl
        have HFO := hide hfo
        clear hI hA hR hb hfl hfo hg0 hdn hlt HI HA HCA
        go_wp2
        go_loopw [63] (fun ix wr => ∃ k : Nat, k ≤ L.length ∧ ix = .int .i64 k ∧ wlD f 0 L = wlD f k (L.drop k) ∧ Below V.heap.size V wr) (fun ix _ => L.length - (intOf ix).toNat)
        case atStart => exact ⟨0, Nat.zero_le _, rfl, rfl, Below.refl _ _⟩
        case round =>
          obtain ⟨k, hk, rfl, hwl, hbY⟩ := hrel
          rename World => Y
          have HWL := hide hwl
          have HBY := hide hbY
          have HBw : Hid (Below w.heap.size w Y) := HB.out.trans (hbY.mono HB.out.size)
          have HFY := hide (HFL.out.below hbY)
          have HRY := hide (HR.out.below hbY)
          by_cases hlt : k < L.length
          · have hlti : (k : Int) < (L.length : Int) := by omega
            obtain rfl := HA0.out (by omega)
            obtain ⟨v7, hdc, hdv⟩ := HD.out Y HBw.out k hlt
            have hstep := wlD_step (f := f) (L := L) hlt
            have htk := HTC.out k hlt
            have hdk := HOK.out.2 k hlt
            have hit := isTarget_any (L.getD k .zero).kind
            obtain ⟨a7, c7, rfl⟩ := hdv.name.slice
            obtain ⟨d, hd⟩ : ∃ d, L.getD k .zero = d := ⟨_, rfl⟩
            rw [hd] at hdc hstep htk hdk hit
            obtain ⟨z0, z1, z2, z3, z4, z5, z6, z7, z8⟩ := hdc
            obtain ⟨nb, hnb⟩ : ∃ b, nmK d.kind = b := ⟨_, rfl⟩
            rw [hnb] at hit hstep htk
            have HIT := hide hit
            obtain ⟨n7, hn7⟩ : ∃ n, d.name.size = n := ⟨_, rfl⟩
            rw [hn7] at z7
            have hYs := hbY.size
            cases nb with
            | false =>
              have HW2 : Hid (wlD f 0 L = wlD f (k + 1) (L.drop (k + 1))) := by show _ = _; rw [HWL.out, hstep, if_neg (fun g => by cases g.1)]
              clear hwl hbY hstep htk hdk hit hdv hd hnb hn7
              go_wp2_with fail
              obtain ⟨Y1, hY1⟩ : ∃ W, Y.alloc (.cells #[.int .i64 d.kind, .int .i64 d.x1, .int .i64 d.y1, .int .i64 d.x2, .int .i64 d.y2, .int .i64 d.dir, .int .i64 d.cost, .slice a7 n7 c7, .int .i64 d.node] 42) = W := ⟨_, rfl⟩
              have HBA : Hid (Below V.heap.size V Y1) := by rw [← hY1]; exact HBY.out.alloc HBY.out.size _
              have hbx : Blk Y1 Y.heap.size 42 #[.int .i64 d.kind, .int .i64 d.x1, .int .i64 d.y1, .int .i64 d.x2, .int .i64 d.y2, .int .i64 d.dir, .int .i64 d.cost, .slice a7 n7 c7, .int .i64 d.node] := by rw [← hY1]; exact Blk.new _ _ _
              have e0 := hbx.cell 0
              simp only [List.getElem?_toArray, List.getElem?_cons_zero] at e0
              rw [hY1]
              clear hY1 hbx
              go_quiet ((go_at_call 27; exact Calls.quiet_of_same (HIT.out _)))
              go_wp2
              go_roundw
              case rel => exact ⟨k + 1, by omega, by go_num, HW2.out, below_drewN HBA.out _⟩
              case measure => simp [intOf]; omega
            | true =>
              obtain ⟨c, hc1, hc2, hc3⟩ := htk rfl
              rw [hc3] at hstep
              have hxb := (vlB_iff _).1 hdk.x1
              have hyb := (vlB_iff _).1 hdk.y1
              have HCE := hide (fun W (hW : Below Y.heap.size Y W) => cellAt_any (M + 1) f.w d.x1 d.y1 W (by have := ((HFY.out.below hW).blk).cell 0; simpa using this) HFO.out.w1 hxb hyb)
              rw [hc1] at HCE
              obtain ⟨b, hbw⟩ : ∃ b, f.wall c = b := ⟨_, rfl⟩
              have hgv : ∀ W, Below Y.heap.size Y W → W.cell? ⟨cb, c * 4, none⟩ = some (.bool b) := fun W hW => by
                have := (HFY.out.below hW).ce.cell hc2 (i := 0) (by decide)
                rw [Nat.add_zero] at this
                rw [this, ← hbw]
                rfl
              have hx2 : ∀ W, Below Y.heap.size Y W → W.cell? ⟨M + 1, 2, none⟩ = some (.slice (some ⟨cb, 0, none⟩) (f.w * f.h) cc) := fun W hW => by
                have := ((HFY.out.below hW).blk).cell 2; simpa using this
              have HGV := hide hgv
              have HX2 := hide hx2
              rw [hbw] at hstep
              obtain ⟨nn, hnn⟩ : ∃ n, f.w * f.h = n := ⟨_, rfl⟩
              rw [hnn] at hc2 HX2
              have hcn : (c : Int) < (nn : Int) := by omega
              have HST := hide hstep
              have HYS := hide hYs
              clear hwl hbY hstep htk hdk hit hdv hd hnb hn7 hgv hx2 hbw hxb hyb hc1 hc3 hYs
              go_wp2_with fail
              obtain ⟨Y1, hY1⟩ : ∃ W, Y.alloc (.cells #[.int .i64 d.kind, .int .i64 d.x1, .int .i64 d.y1, .int .i64 d.x2, .int .i64 d.y2, .int .i64 d.dir, .int .i64 d.cost, .slice a7 n7 c7, .int .i64 d.node] 42) = W := ⟨_, rfl⟩
              have hA1 : Below Y.heap.size Y Y1 := by rw [← hY1]; exact (Below.refl _ _).alloc (Nat.le_refl _) _
              have HBA : Hid (Below V.heap.size V Y1) := HBY.out.trans (hA1.mono HBY.out.size)
              have hbx : Blk Y1 Y.heap.size 42 #[.int .i64 d.kind, .int .i64 d.x1, .int .i64 d.y1, .int .i64 d.x2, .int .i64 d.y2, .int .i64 d.dir, .int .i64 d.cost, .slice a7 n7 c7, .int .i64 d.node] := by rw [← hY1]; exact Blk.new _ _ _
              have e0 := hbx.cell 0
              have e1 := hbx.cell 1
              have e2 := hbx.cell 2
              simp only [List.getElem?_toArray, List.getElem?_cons_succ, List.getElem?_cons_zero] at e0 e1 e2
              have g0 := HGV.out Y1 hA1
              have g2 := HX2.out Y1 hA1
              have HCE1 := hide (fun n => HCE.out (Y1.drewN n) (below_drewN hA1 n))
              have HR1' := hide (HRY.out.below hA1)
              have HBw1 : Hid (Below w.heap.size w Y1) := HBw.out.trans (hA1.mono HBw.out.size)
              rw [hY1]
              clear hY1 hbx hA1 HCE
              cases b with
              | false =>
                have HW2 : Hid (wlD f 0 L = wlD f (k + 1) (L.drop (k + 1))) := by show _ = _; rw [HWL.out, HST.out, if_neg (fun g => by cases g.2)]
                go_quiet (first | (go_at_call 27; exact Calls.quiet_of_same (HIT.out _)) | (go_at_call 28; exact Calls.quiet_of_same (HCE1.out _)))
                go_wp2
                go_roundw
                case rel => exact ⟨k + 1, by omega, by go_num, HW2.out, below_drewN HBA.out _⟩
                case measure => simp [intOf]; omega
              | true =>
                have HE : Hid (dnA L = (.zero, 8, (k : Int))) := by
                  have h : wlD f 0 L = (k : Int) := by rw [HWL.out, HST.out, if_pos (by simp)]
                  show _ = _
                  rw [HDW.out, h, if_pos (by omega)]
                go_quiet (first | (go_at_call 27; exact Calls.quiet_of_same (HIT.out _)) | (go_at_call 28; exact Calls.quiet_of_same (HCE1.out _)))
                obtain ⟨Y2, hY2⟩ : ∃ W, Y1.drewN nq = W := ⟨_, rfl⟩
                have hbq : Below Y1.heap.size Y1 Y2 := by rw [← hY2]; exact below_drewN (Below.refl _ _) _
                have HR2 := hide (HR1'.out.below hbq)
                have HBw2 : Hid (Below w.heap.size w Y2) := HBw1.out.trans (hbq.mono HBw1.out.size)
                rw [hY2]
                clear hY2 hbq e0 e1 e2 g0 g2
                have r0 := (HR2.out).cell 0
                have r1 := (HR2.out).cell 1
                have r2 := (HR2.out).cell 2
                have r3 := (HR2.out).cell 3
                have r4 := (HR2.out).cell 4
                simp only [List.getElem?_toArray, List.getElem?_cons_succ, List.getElem?_cons_zero] at r0 r1 r2 r3 r4
                have rf0 := (HR2.out).frozen 0
                have rf1 := (HR2.out).frozen 1
                have rf2 := (HR2.out).frozen 2
                have rf3 := (HR2.out).frozen 3
                have rf4 := (HR2.out).frozen 4
                go_wp2
                refine bodyPost_ret (results_row_tmp2 rfl _ _ _ w.heap.size 27 _ (0, 0) rfl (Blk.five HR2.out _ _ _ _ _) Tryz.underlying27 (by kernel_rfl)) rfl ?_
                exact den_zero HE.out (below_five HBw2.out (Nat.le_refl _) _ _ _ _ _)
          · obtain rfl : k = L.length := by omega
            have hge2 : ¬ (L.length : Int) < (L.length : Int) := by omega
            have HE : Hid (dnA L = (lyOf f, 0, 0)) := by
              show _ = _
              rw [HDW.out, hwl, List.drop_length]
              rw [if_neg (by show ¬ 0 ≤ (-1 : Int); omega)]
            have HLQ := hide (layout_any (M + 1) cb cc M mn f vt ns Y HFO.out HFY.out (HMV.out.below HBw.out) (fun U hU => HSO.out (M + 1) f vt ns U HFO.out (HFY.out.below hU).tg (HFY.out.below hU).tn HFY.out.ts))
            clear hwl hbY hlt
            go_wp2_with fail
            refine HLQ.out.mono ?_
            rintro e Y2 ⟨v2, v3, ns', B, rfl, hp, hm, htg, htn, hB, ho2, ho3, hap, hb2⟩
            have hm1 := HMR.out
            have hbs := HBw.out.size
            have hfl := HFY.out.blk.lt
            obtain ⟨bl, hly, hfr⟩ := lyF_of (w0 := W1) hm htg htn ((hp.map _).nodup_iff.2 HFY.out.nd) (fun p hpp => HFY.out.nf p (hp.mem_iff.1 hpp)) ho2 ho3 hap (by have := HS1.out; omega) (by have := HS1.out; omega)
            have HLY := hide hly
            have HFR := hide hfr
            have HR2 : Hid (Blk Y2 w.heap.size 27 #[.int .i64 0, .int .i64 0, .slice none 0 0, .slice none 0 0, .slice none 0 0]) := (hb2.block _ (by omega)).trans HRY.out
            have HBw2 : Hid (Below w.heap.size w Y2) := HBw.out.trans (hb2.mono (by omega))
            obtain ⟨g2, k2, e2⟩ := hly.rd.cost.slice
            obtain ⟨g3, k3, e3⟩ := hly.rd.exits.slice
            obtain ⟨g4, k4, e4⟩ := hly.rd.targets.slice
            subst e2 e3 e4
            obtain ⟨q2, hq2⟩ : ∃ n, (lyOf f).cost.length = n := ⟨_, rfl⟩
            obtain ⟨q3, hq3⟩ : ∃ n, (lyOf f).exits.length = n := ⟨_, rfl⟩
            obtain ⟨q4, hq4⟩ : ∃ n, (lyOf f).targets.length = n := ⟨_, rfl⟩
            obtain ⟨q0, hq0⟩ : ∃ n, (lyOf f).w = n := ⟨_, rfl⟩
            obtain ⟨q1, hq1⟩ : ∃ n, (lyOf f).h = n := ⟨_, rfl⟩
            unfold lyagg
            rw [hq2, hq3, hq4] at HLY
            rw [hq0, hq1, hq2, hq3, hq4]
            have HQ0 := hide hq0
            have HQ1 := hide hq1
            have HS1' : Hid (w.heap.size < W1.heap.size) := by have := HS1.out; show _ < _; omega
            clear hp hm htg htn hB ho2 ho3 hap hb2 hly hfr hq0 hq1 hq2 hq3 hq4 hm1 hbs hfl
            have r0 := (HR2.out).cell 0
            have r1 := (HR2.out).cell 1
            have r2 := (HR2.out).cell 2
            have r3 := (HR2.out).cell 3
            have r4 := (HR2.out).cell 4
            simp only [List.getElem?_toArray, List.getElem?_cons_succ, List.getElem?_cons_zero] at r0 r1 r2 r3 r4
            have rf0 := (HR2.out).frozen 0
            have rf1 := (HR2.out).frozen 1
            have rf2 := (HR2.out).frozen 2
            have rf3 := (HR2.out).frozen 3
            have rf4 := (HR2.out).frozen 4
            go_wp2
            refine bodyPost_ret (results_row_tmp2 rfl _ _ _ w.heap.size 27 _ (0, 0) rfl (Blk.five HR2.out _ _ _ _ _) Tryz.underlying27 (by kernel_rfl)) rfl ?_
            refine ⟨.slice g2 q2 k2, .slice g3 q3 k3, .slice g4 q4 k4, bl, ?_, ?_, ?_, below_five HBw2.out (Nat.le_refl _) _ _ _ _ _⟩
            · rw [HE.out]
              unfold lyagg
              rw [HQ0.out, HQ1.out]
              rfl
            · rw [HE.out]
              refine HLY.out.keep fun g hg => ?_
              have h1 := HFR.out.lo g hg
              have h2 := HS1'.out
              exact five_other (by omega) _ _ _ _ _
            · have h := HFR.out
              exact ⟨h.nd, fun g hg => by have h1 := h.lo g hg; have h2 := HS1'.out; omega, fun g hg => by have h1 := h.hi g hg; rw [five_size]; exact h1⟩
end Go.Proofs.YtijdlbanfdhfnaaGreatDoor
