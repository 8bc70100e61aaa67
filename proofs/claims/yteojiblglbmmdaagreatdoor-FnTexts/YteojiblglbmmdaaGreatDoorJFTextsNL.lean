/-
  The walks of the text functions at the nil slice, and of impl.Position at a slice with room behind it.
-/
import Derived.Test.YteojiblglbmmdaaGreatDoorJFTextsIQ
import Derived.Test.YteojiblglbmmdaaGreatDoorJFTextsI
namespace Go.Proofs.YteojiblglbmmdaaGreatDoor
open Go.RowKit

theorem toStr_nil (w : World) : (convert 22 9 (.slice none 0 0)).run Tryz.prog w = .ok (.string ByteArray.empty) w := by
  have := run_convert_bytes_nil (P := Tryz.prog) w 22 5 Tryz.underlying22 Tryz.underlying5 0 0 9 Tryz.underlying9
  exact this

set_option maxHeartbeats 400000 in
set_option maxRecDepth 1000000 in
theorem specCheck_nil (w : World) :
    Calls Tryz.prog 5 #[.slice none 0 0] w fun e w' => e = .returned (pairVal (0, 0)) ∧ Below w.heap.size w w' := by
  go_enter Tryz.func5, Tryz.ntmps5
  go_wp2
  go_loopw [4] (fun i wr => i = .int .i64 0 ∧ Below w.heap.size w wr) (fun _ _ => 0)
  case atStart => exact ⟨rfl, Below.refl _ _⟩
  case round =>
    obtain ⟨rfl, hb⟩ := hrel
    go_wp2
    go_ret2
    exact ⟨rfl, hb⟩

set_option maxHeartbeats 400000 in
set_option maxRecDepth 1000000 in
theorem implCheck_nil (w : World) :
    Calls Tryz.prog 6 #[.slice none 0 0] w fun e w' => e = .returned (pairVal (0, 0)) ∧ Below w.heap.size w w' := by
  have hcv := toStr_nil
  go_enter Tryz.func6, Tryz.ntmps6
  go_wp2
  clear hcv
  go_loopw [5] (fun _ wr => wr.heap[w.heap.size]? = some (.stringIter ByteArray.empty 0) ∧ Below w.heap.size w wr) (fun _ _ => 0)
  case atStart => exact ⟨World.iter_heap w ByteArray.empty 0, (Below.refl _ _).alloc (Nat.le_refl _) _⟩
  case round =>
    obtain ⟨hit, hb⟩ := hrel
    have hnx : ∀ ty, (Instr.next (.pointer (some ⟨w.heap.size, 0, none⟩)) true ty).run Tryz.prog wr = _ := fun ty => Lib.run_next_end_at wr w.heap.size ByteArray.empty 0 ty hit (Nat.lt_irrefl _)
    go_wp2
    go_ret2
    exact ⟨rfl, hb⟩

set_option maxHeartbeats 400000 in
set_option maxRecDepth 1000000 in
theorem implQuote_nil (w : World) :
    Calls Tryz.prog 7 #[.slice none 0 0] w fun e w' => ∃ v', e = .returned v' ∧ w'.ownsRow w.heap.size 5 1 v' 2 (cv [34, 34]) ∧ Below w.heap.size w w' := by
  have HCH := hide (implCheck_nil w)
  go_enter Tryz.func7, Tryz.ntmps7
  go_wp2_with fail
  refine HCH.out.mono ?_
  rintro e w1 ⟨rfl, hb1⟩
  have HB1 := hide hb1
  have hB : w.heap.size ≤ w1.heap.size := hb1.size
  have hcv := toStr_nil
  have e0 : pairVal (0, 0) = .tuple #[.int .i64 0, .int .i64 0] := rfl
  rw [e0]
  clear hb1 e0
  go_wp2_with fail
  clear hcv
  go_loopw [5] (fun out wr => wr.heap[w1.heap.size + 1]? = some (Obj.stringIter ByteArray.empty 0) ∧ wr.ownsRow w.heap.size 5 1 out [34].length (cv [34]) ∧ Below w.heap.size w wr) (fun _ _ => 0)
  case atStart =>
    refine ⟨?_, (World.ownsRow_lit w1 #[.int .u8 34] 1 hB (by unfold maxLen; omega) rfl).alloc _, (HB1.out.alloc hB _).alloc (by simp; omega) _⟩
    have := World.iter_heap (w1.alloc (.cells #[.int .u8 34] 5)) ByteArray.empty 0
    simpa using this
  case round =>
    obtain ⟨hit, hown, hbl⟩ := hrel
    have hnx : ∀ ty, (Instr.next (.pointer (some ⟨w1.heap.size + 1, 0, none⟩)) true ty).run Tryz.prog wr = _ := fun ty => Lib.run_next_end_at wr (w1.heap.size + 1) ByteArray.empty 0 ty hit (Nat.lt_irrefl _)
    have HO := hide hown
    have HBL := hide hbl
    have hwr := hbl.size
    clear hown hbl hit
    go_wp2_with (at_builtin; refine wp_app rfl (.tmp 25) (.tmp 26) rfl w.heap.size _ [34] rfl (HO.out.alloc _) wr.heap.size 1 [34] rfl ?n1 ?l1 ?b1 ?_)
    case n1 => (intro j hj; match j, hj with | 0, _ => simp)
    case l1 => (show 1 + 1 ≤ _; omega)
    case b1 => (simp; omega)
    intro v' w' l hl ho hg
    have e : l = [34, 34] := hl.out
    subst e
    go_wp2
    go_ret
    exact ⟨v', rfl, ho, app_below (HBL.out.alloc hwr _) (HO.out.alloc _) (by simp; omega) hg⟩

set_option maxHeartbeats 400000 in
set_option maxRecDepth 1000000 in
theorem lastB_nil (w : World) :
    Calls Tryz.prog 40 #[.slice none 0 0, .int .u8 10] w fun e w' => e = .returned (.int .i64 (-1)) ∧ w' = w := by
  go_enter Tryz.func40, Tryz.ntmps40
  go_wp2
  go_loop [5] (fun i => i = .int .i64 (-1)) (fun _ => 0)
  case atStart => rfl
  case round =>
    obtain rfl := hrel
    go_wp2
    go_ret
    exact ⟨rfl, rfl⟩
set_option maxHeartbeats 400000 in
set_option maxRecDepth 1000000 in
theorem lastBytes_nil (w : World) :
    Calls Tryz.prog 20 #[.slice none 0 0, .int .u8 10] w fun e w' => e = .returned (.int .i64 (-1)) ∧ w' = w := by
  have H := hide (lastB_nil w)
  go_enter Tryz.func20, Tryz.ntmps20
  go_wp2_with fail
  refine H.out.mono ?_
  rintro e w1 ⟨rfl, rfl⟩
  go_wp2
  go_ret
  exact ⟨rfl, rfl⟩

theorem pos_nil : Pos ByteArray.empty 0 0 1 := ((Mid.start ByteArray.empty).done (Nat.le_refl _) (.inl rfl)).1

set_option maxHeartbeats 400000 in
set_option maxRecDepth 1000000 in
theorem implPos_nil (w : World) :
    Calls Tryz.prog 12 #[.slice none 0 0, .int .i64 0] w fun e w' => e = .returned (.tuple #[.int .i64 1, .int .i64 1]) ∧ Below w.heap.size w w' := by
  have hcv := toStr_nil
  have HCOL : Hid (∀ w, Calls Tryz.prog 21 #[.string ByteArray.empty, .int .i64 0] w fun e w' => e = .returned (.int .i64 1) ∧ Below w.heap.size w w') := by
    intro w
    have e : ByteArray.empty.extract 0 ByteArray.empty.size = ByteArray.empty := rfl
    have := colPos ByteArray.empty 0 0 1 0 (by decide) (Nat.le_refl _) pos_nil rfl w
    rw [e] at this
    exact this
  go_enter Tryz.func12, Tryz.ntmps12
  go_wp2_with fail
  refine (Any.bytes_Count_one_nil Tryz.laysSlB13 w.heap.size 0 1 10 (w.alloc (.cells #[.int .u8 10] 5)) (by simp)).mono ?_
  rintro e w1 ⟨rfl, rfl⟩
  go_wp2_with fail
  refine (lastBytes_nil _).mono ?_
  rintro e w1 ⟨rfl, rfl⟩
  go_wp2_with fail
  refine (HCOL.out _).mono ?_
  rintro e w2 ⟨rfl, hb2⟩
  go_wp2
  go_ret2
  exact ⟨rfl, ((Below.refl _ w).alloc (Nat.le_refl _) _).trans (hb2.mono (by simp))⟩

set_option maxHeartbeats 400000 in
set_option maxRecDepth 1000000 in
theorem implPos_room (b off cap p st c : Nat) (s : ByteArray) (w : World) (hs : s.size ≤ 1048576) (hp : p ≤ s.size) (hcap : s.size < cap) (hP : Pos s p st c) (hc : ∀ j, j < s.size → w.cell? ⟨b, off + j, none⟩ = some (bts s j)) :
    Calls Tryz.prog 12 #[.slice (some ⟨b, off, none⟩) s.size cap, .int .i64 p] w fun e w' => e = .returned (.tuple #[.int .i64 (1 + cntLF s p : Nat), .int .i64 (c : Nat)]) ∧ Below w.heap.size w w' := by
  have HC := hide hc
  have HP := hide hP
  have hst := hP.le
  clear hc hP
  have t1 : decide ((p : Int) < 0) = false := decide_eq_false (by omega)
  have t2 : decide (s.size < p) = false := decide_eq_false (by omega)
  go_enter Tryz.func12, Tryz.ntmps12
  go_wp2_with fail
  have hcw : ∀ o, ∀ j, j < s.size → (w.alloc o).cell? ⟨b, off + j, none⟩ = some (bts s j) := fun o j hj => by
    rw [((Below.refl _ w).alloc (Nat.le_refl _) o).cell (p := ⟨b, off + j, none⟩) (World.block_lt_of_cell? _ _ (HC.out j hj))]; exact HC.out j hj
  have HCW := hide hcw
  clear hcw
  have H15 := Tryz.bytes_Count_one b off p cap w.heap.size 0 1 ((nums s).take p) 10 (w.alloc (.cells #[.int .u8 10] 5)) (by rw [List.length_take, nums_length]; omega)
    (fun i hi => by
      rw [HCW.out _ i (by omega), ← nums_getD s i (by omega)]
      congr 2
      simp only [List.getD]
      rw [List.getElem?_take, if_pos hi]) (by simp)
  rw [count_eq s p hp] at H15
  refine H15.mono ?_
  clear H15
  rintro e w1 ⟨rfl, rfl⟩
  have hn := cntLF_le s p
  obtain ⟨n, hnk⟩ : ∃ n, cntLF s p = n := ⟨_, rfl⟩
  rw [hnk] at hn ⊢
  have HN := hide hnk
  clear hnk
  go_wp2_with fail
  refine (lastBytes_any b off cap p st s _ hs hp hst HP.out.lf HP.out.none (HCW.out _)).mono ?_
  rintro e w1 ⟨rfl, rfl⟩
  have hq : 1 + ((st : Int) - 1) = (st : Int) := by omega
  have hlt : st < cap := by omega
  have hz : (s.extract st s.size).size = s.size - st := by rw [ByteArray.size_extract]; omega
  have hcv := toStr_run (s.extract st s.size) (w.alloc (.cells #[.int .u8 10] 5)) b (off + st) (cap - st) (fun j hj => by
    have := HCW.out (.cells #[.int .u8 10] 5) (st + j) (by omega)
    rw [Nat.add_assoc, this]; unfold bts; rw [get!_extract])
  rw [hz] at hcv
  have HCOL : Hid (∀ (q : Int) w, q = (p : Int) - (st : Int) → Calls Tryz.prog 21 #[.string (s.extract st s.size), .int .i64 q] w fun e w' => e = .returned (.int .i64 c) ∧ Below w.heap.size w w') := by
    intro q w hq0
    exact colPos s st p c q hs hp HP.out hq0 w
  clear hz
  go_wp2_with fail
  refine (HCOL.out _ _ rfl).mono ?_
  rintro e w2 ⟨rfl, hb2⟩
  go_wp2
  go_ret2
  exact ⟨by rw [HN.out]; refine ret_ints ?_ ?_ <;> omega, ((Below.refl _ w).alloc (Nat.le_refl _) _).trans (hb2.mono (by simp))⟩

theorem implPos_all (b off cap p st c : Nat) (s : ByteArray) (w : World) (hs : s.size ≤ 1048576) (hp : p ≤ s.size) (hcap : s.size ≤ cap) (hP : Pos s p st c) (hc : ∀ j, j < s.size → w.cell? ⟨b, off + j, none⟩ = some (bts s j)) :
    Calls Tryz.prog 12 #[.slice (some ⟨b, off, none⟩) s.size cap, .int .i64 p] w fun e w' => e = .returned (.tuple #[.int .i64 (1 + cntLF s p : Nat), .int .i64 (c : Nat)]) ∧ Below w.heap.size w w' := by
  by_cases h : s.size = cap
  · subst h; exact implPos_in b off p st c s w hs hp hP hc
  · exact implPos_room b off cap p st c s w hs hp (by omega) hP hc
end Go.Proofs.YteojiblglbmmdaaGreatDoor
