/-
  The reader of trees in memory; what it reads now.
-/
import Derived.Test.YtbiakdjpeblclaaGreatDoorJPaDR0
import Derived.Test.YtbiakdjpeblclaaGreatDoorJPaC
import Derived.BigQuiet
import Derived.Deep.QuietTactic
import Derived.Test.YtbiakdjpeblclaaGreatDoorJPaMK
import Derived.Deep.RegionHeld3
import Derived.Lib.ConvBytes
import Derived.Test.YtbiakdjpeblclaaGreatDoorJPaPSM
namespace Go.Proofs.YtbiakdjpeblclaaGreatDoor
open Go.RowKit
structure PsC where
 P:Nat
 a0:Option Addr
 b:Nat
 o:Nat
 cap:Nat
 ta:Option Addr
 tb:Nat
 tc:Nat
structure PsW (w:World)(c:PsC)(e:PsE)(p:Ps):Prop where
 blk:Blk w c.P 40 #[.slice c.a0 e.s.size c.cap,.slice c.ta e.T.length c.tc,.int .i64 (p.at_:Nat),.int .i64 p.bad,.bool p.long]
 sa:0<e.s.size→c.a0=some ⟨c.b,c.o,none⟩∧c.b<c.P
 src:∀j,j<e.s.size→w.cell? ⟨c.b,c.o+j,none⟩=some (bts e.s j)
 cap:e.s.size≤c.cap
 ta:0<e.T.length→c.ta=some ⟨c.tb,0,none⟩∧c.tb<c.P
 tok:TCells w c.tb e.T
 tin:∀i,i<e.T.length→(e.T.getD i (0,0,0)).2.1+(e.T.getD i (0,0,0)).2.2≤e.s.size∧(e.T.getD i (0,0,0)).1≤5∧0<(e.T.getD i (0,0,0)).2.2
 tl:e.T.length≤5000
 szl:e.s.size≤5000
 at_:p.at_≤e.T.length
 bad: -1≤p.bad∧p.bad≤5000
theorem PsW.go {w w':World}{c:PsC}{e:PsE}{p p':Ps}(h:PsW w c e p)(hg:Gw (· = c.P) w w')(hb:Blk w' c.P 40 #[.slice c.a0 e.s.size c.cap,.slice c.ta e.T.length c.tc,.int .i64 (p'.at_:Nat),.int .i64 p'.bad,.bool p'.long])(h1:p'.at_≤e.T.length)(h2: -1≤p'.bad∧p'.bad≤5000):PsW w' c e p':=
 ⟨hb,h.sa,fun j hj=>hg.cell (h.src j hj) (by show ¬c.b=c.P;have:=(h.sa (by omega)).2;omega),h.cap,h.ta,fun i hi=>by
  have n:¬c.tb=c.P:=by have:=(h.ta (by omega)).2;omega
  exact⟨hg.cell (h.tok i hi).1 n,hg.cell (h.tok i hi).2.1 n,hg.cell (h.tok i hi).2.2 n⟩,h.tin,h.tl,h.szl,h1,h2⟩
theorem PsW.below {w w':World}{c:PsC}{e:PsE}{p:Ps}(h:PsW w c e p)(hb:Below w.heap.size w w'):PsW w' c e p:=
 h.go (Gw.of_below hb) ((hb.block c.P h.blk.lt).trans h.blk) h.at_ h.bad
theorem PsW.drew {w:World}{c:PsC}{e:PsE}{p:Ps}(h:PsW w c e p)(n:Nat):PsW (w.drewN n) c e p:=h.below (below_drewN (Below.refl _ _) n)
theorem PsW.cells {w:World}{c:PsC}{e:PsE}{p:Ps}(h:PsW w c e p):w.cell? ⟨c.P,0,none⟩=some (.slice c.a0 e.s.size c.cap)∧w.cell? ⟨c.P,1,none⟩=some (.slice c.ta e.T.length c.tc)∧w.cell? ⟨c.P,2,none⟩=some (.int .i64 (p.at_:Nat))∧w.cell? ⟨c.P,3,none⟩=some (.int .i64 p.bad)∧w.cell? ⟨c.P,4,none⟩=some (.bool p.long):=
 ⟨h.blk.cell 0,h.blk.cell 1,h.blk.cell 2,h.blk.cell 3,h.blk.cell 4⟩
theorem PsW.fz {w:World}{c:PsC}{e:PsE}{p:Ps}(h:PsW w c e p)(k:Nat):w.frozen? ⟨c.P,k,none⟩=false:=by
 have:=h.blk
 unfold Blk at this
 simp[World.frozen?,this]
theorem PsE.kind_le {w:World}{c:PsC}{e:PsE}{p:Ps}(h:PsW w c e p):e.kind p≤5:=by
 unfold PsE.kind
 by_cases g:0≤p.bad∨e.T.length≤p.at_
 ·rw[if_pos g];omega
 ·rw[if_neg g];exact (h.tin p.at_ (by omega)).2.1
theorem PsE.place_le {w:World}{c:PsC}{e:PsE}{p:Ps}(h:PsW w c e p):e.place p≤5000:=by
 have:=h.szl
 unfold PsE.place
 by_cases g:p.at_<e.T.length
 ·rw[if_pos g];have:=(h.tin p.at_ g).1;unfold PsE.tk;omega
 ·rw[if_neg g];exact h.szl
theorem PsE.now_size {w:World}{c:PsC}{e:PsE}{p:Ps}(h:PsW w c e p):(e.now p).size≤5000:=by
 have:=h.szl
 unfold PsE.now
 split
 ·show (0:Nat)≤5000;omega
 ·rw[ByteArray.size_extract];omega
set_option maxHeartbeats 1000000 in
set_option maxRecDepth 1000000 in
theorem l2kind_any {w:World}{c:PsC}{e:PsE}{p:Ps}(h:PsW w c e p):
 Calls Tryz.prog 64 #[.pointer (some ⟨c.P,0,none⟩)] w fun r w'=>r = .returned (.int .i64 (e.kind p:Nat))∧∃m,w'=w.drewN m:=by
 obtain⟨g0,g1,g2,g3,g4⟩:=h.cells
 have htl:=h.tl
 by_cases hb:0≤p.bad
 ·have d0:decide (0≤p.bad)=true:=decide_eq_true hb
  have HK:Hid (e.kind p=0):=by show _=_;unfold PsE.kind;rw[if_pos (.inl hb)]
  clear h hb g0 g1 g2 g4
  go_enter Tryz.func64,Tryz.ntmps64
  go_wp2_with fail
  go_quiet (fail)
  go_wp2
  go_ret
  exact⟨by rw[HK.out];rfl,_,rfl⟩
 ·have d0:decide (0≤p.bad)=false:=decide_eq_false hb
  by_cases ha:e.T.length≤p.at_
  ·have d1:decide (e.T.length≤p.at_)=true:=decide_eq_true (by omega)
   have HK:Hid (e.kind p=0):=by show _=_;unfold PsE.kind;rw[if_pos (.inr ha)]
   clear h hb g0 g4 ha
   go_enter Tryz.func64,Tryz.ntmps64
   go_wp2_with fail
   go_quiet (fail)
   go_wp2
   go_ret
   exact⟨by rw[HK.out];rfl,_,rfl⟩
  ·have d1:decide (e.T.length≤p.at_)=false:=decide_eq_false (by omega)
   have HK:Hid (e.kind p=(e.T.getD p.at_ (0,0,0)).1):=by show _=_;unfold PsE.kind PsE.tk;rw[if_neg (by omega)]
   have ht:=(h.tok p.at_ (by omega)).1
   have hk:=(h.tin p.at_ (by omega)).2.1
   have hlt:p.at_<e.T.length:=by omega
   rw[(h.ta (by omega)).1]at g1
   obtain⟨K,hK⟩:∃K,(e.T.getD p.at_ (0,0,0)).1=K:=⟨_,rfl⟩
   rw[hK]at ht HK hk
   clear h hb g0 g4 ha hK
   go_enter Tryz.func64,Tryz.ntmps64
   go_wp2_with fail
   go_quiet (fail)
   go_wp2_with fail
   go_quiet (fail)
   go_wp2
   go_ret
   exact⟨by rw[HK.out];rfl,_,World.drewN_drewN _ _ _⟩
set_option maxHeartbeats 1000000 in
set_option maxRecDepth 1000000 in
theorem l2place_any {w:World}{c:PsC}{e:PsE}{p:Ps}(h:PsW w c e p):
 Calls Tryz.prog 16 #[.pointer (some ⟨c.P,0,none⟩)] w fun r w'=>r = .returned (.int .i64 (e.place p:Nat))∧∃m,w'=w.drewN m:=by
 obtain⟨g0,g1,g2,g3,g4⟩:=h.cells
 have htl:=h.tl
 have hsz:=h.szl
 by_cases ha:e.T.length≤p.at_
 ·have d1:decide (p.at_<e.T.length)=false:=decide_eq_false (by omega)
  have HK:Hid (e.place p=e.s.size):=by show _=_;unfold PsE.place;rw[if_neg (by omega)]
  clear h g4 ha
  go_enter Tryz.func16,Tryz.ntmps16
  go_wp2_with fail
  go_quiet (fail)
  go_wp2
  go_ret
  exact⟨by rw[HK.out];rfl,_,rfl⟩
 ·have d1:decide (((p.at_:Nat):Int)<(e.T.length:Int))=true:=decide_eq_true (by omega)
  have HK:Hid (e.place p=(e.T.getD p.at_ (0,0,0)).2.1):=by show _=_;unfold PsE.place PsE.tk;rw[if_pos (by omega)]
  have ht:=(h.tok p.at_ (by omega)).2.1
  have hk:=(h.tin p.at_ (by omega)).1
  have hlt:p.at_<e.T.length:=by omega
  rw[(h.ta (by omega)).1]at g1
  obtain⟨K,hK⟩:∃K,(e.T.getD p.at_ (0,0,0)).2.1=K:=⟨_,rfl⟩
  rw[hK]at ht HK hk
  have hk2:K≤5000:=by omega
  clear h g0 g4 ha hK hk
  go_enter Tryz.func16,Tryz.ntmps16
  go_wp2_with fail
  go_quiet (fail)
  go_wp2_with fail
  go_quiet (fail)
  go_wp2
  go_ret
  exact⟨by rw[HK.out];rfl,_,World.drewN_drewN _ _ _⟩
def RdQ (c:PsC)(e:PsE)(p':Ps)(w w':World):Prop:=PsW w' c e p'∧Gw (· = c.P) w w'
theorem PsW.one {w:World}{c:PsC}{e:PsE}{p p':Ps}(h:PsW w c e p){k:Nat}{v:Value}(hb:#[.slice c.a0 e.s.size c.cap,.slice c.ta e.T.length c.tc,.int .i64 (p'.at_:Nat),.int .i64 p'.bad,.bool p'.long]=(#[.slice c.a0 e.s.size c.cap,.slice c.ta e.T.length c.tc,.int .i64 (p.at_:Nat),.int .i64 p.bad,.bool p.long]:Array Value).setIfInBounds k v)(h1:p'.at_≤e.T.length)(h2: -1≤p'.bad∧p'.bad≤5000):RdQ c e p' w (w.setCell ⟨c.P,k,none⟩ v):=
 ⟨h.go (Gw.set w c.P k v) (by have:=h.blk.set k v;rw[hb];exact this) h1 h2,Gw.set w c.P k v⟩
set_option maxHeartbeats 1000000 in
set_option maxRecDepth 1000000 in
theorem l2now_any {w:World}{c:PsC}{e:PsE}{p:Ps}(h:PsW w c e p):
 Calls Tryz.prog 65 #[.pointer (some ⟨c.P,0,none⟩)] w fun r w'=>r = .returned (.string (e.now p))∧Below w.heap.size w w':=by
 have HK:=hide (l2kind_any h)
 by_cases hk:e.kind p=0
 ·rw[hk]at HK
  have HN:Hid (e.now p = ⟨#[]⟩):=by show _=_;unfold PsE.now;rw[if_pos hk]
  clear h hk
  go_enter Tryz.func65,Tryz.ntmps65
  go_wp2_with fail
  refine HK.out.mono ?_
  rintro r w' ⟨rfl,m0,rfl⟩
  go_wp2
  go_ret
  exact⟨by rw[HN.out];rfl,below_drewN (Below.refl _ _) _⟩
 ·have k:=kind_pos hk
  obtain⟨g0,g1,g2,g3,g4⟩:=h.cells
  have htl:=h.tl
  have hsz:=h.szl
  obtain⟨t0,t1,t2⟩:=h.tok p.at_ k.2
  obtain⟨b0,_,b2⟩:=h.tin p.at_ k.2
  have hcap:=h.cap
  rw[(h.ta (by omega)).1]at g1
  rw[(h.sa (by omega)).1]at g0
  have hkk:((e.kind p:Nat):Int)≠0:=by omega
  have d0:(((e.kind p:Nat):Int)==0)=false:=beq_eq_false_iff_ne.2 hkk
  have HN:Hid (e.now p=e.s.extract (e.T.getD p.at_ (0,0,0)).2.1 ((e.T.getD p.at_ (0,0,0)).2.1+(e.T.getD p.at_ (0,0,0)).2.2)):=by show _=_;unfold PsE.now PsE.tk;rw[if_neg hk]
  have hcv:=fun cp W (hW:Below w.heap.size w W)=>toStr_run (e.s.extract (e.T.getD p.at_ (0,0,0)).2.1 ((e.T.getD p.at_ (0,0,0)).2.1+(e.T.getD p.at_ (0,0,0)).2.2)) W c.b (c.o+(e.T.getD p.at_ (0,0,0)).2.1) cp (fun j hj=>by
   rw[size_ext2 _ _ _ b0]at hj
   rw[Nat.add_assoc,(h.below hW).src _ (by omega)]
   unfold bts
   rw[get!_ext2 _ _ _ _ b0 (by omega)])
  rw[size_ext2 _ _ _ b0]at hcv
  have hat:=k.2
  obtain⟨K,hK⟩:∃K,(e.T.getD p.at_ (0,0,0)).1=K:=⟨_,rfl⟩
  obtain⟨A,hA⟩:∃A,(e.T.getD p.at_ (0,0,0)).2.1=A:=⟨_,rfl⟩
  obtain⟨M,hM⟩:∃M,(e.T.getD p.at_ (0,0,0)).2.2=M:=⟨_,rfl⟩
  obtain⟨KK,hKK⟩:∃K,e.kind p=K:=⟨_,rfl⟩
  rw[hK]at t0
  rw[hA]at t1 b0 hcv HN
  rw[hM]at t2 b0 b2 hcv HN
  rw[hKK]at HK d0
  rw[show A+M - A=M by omega]at hcv
  have q1:decide (A≤A+M)=true:=decide_eq_true (by omega)
  have q2:decide (A+M≤c.cap)=true:=decide_eq_true (by omega)
  obtain⟨R,hR⟩:∃R,e.s.extract A (A+M)=R:=⟨_,rfl⟩
  rw[hR]at hcv HN
  clear h hk hK hA hM hKK k hkk hR
  go_enter Tryz.func65,Tryz.ntmps65
  go_wp2_with fail
  refine HK.out.mono ?_
  rintro r w' ⟨rfl,m0,rfl⟩
  have HCV:=hide hcv
  clear hcv
  go_wp2_with fail
  refine wp_region_held_drew (S:=fun W=>Hid (Below w.heap.size w W)) (by kernel_rfl) (hide (below_drewN (Below.refl _ _) _).drew) (fun hHeld=>?_)
  refine wpAnyH_take (i:=0) (v:=?_) rfl (by kernel_rfl) (by kernel_rfl) (by kernel_rfl) (fun _ _ _ h=>h) (Or.inl ⟨by rfl,?_⟩) hHeld ?_
  rotate_left 1
  ·intro Wx hSW;simp only[List.getElem_toArray,List.getElem_cons_zero];go_simp;try with_reducible rfl
  try simp only[Act.put,List.getElem_toArray,List.getElem_cons_zero,List.setIfInBounds_toArray,List.set_cons_zero,List.set_cons_succ]
  refine wpAnyH_take (i:=1) (v:=?_) rfl (by kernel_rfl) (by kernel_rfl) (by kernel_rfl) (fun _ _ _ h=>h) (Or.inl ⟨by rfl,?_⟩) hHeld ?_
  rotate_left 1
  ·intro Wx hSW;simp only[List.getElem_toArray,List.getElem_cons_zero,List.getElem_cons_succ];go_simp;try with_reducible rfl
  try simp only[Act.put,List.getElem_toArray,List.getElem_cons_zero,List.getElem_cons_succ,List.setIfInBounds_toArray,List.set_cons_zero,List.set_cons_succ]
  refine wpAnyH_take (i:=2) (v:=?_) rfl (by kernel_rfl) (by kernel_rfl) (by kernel_rfl) (fun _ _ _ h=>h) (Or.inl ⟨by rfl,?_⟩) hHeld ?_
  rotate_left 1
  ·intro Wx hSW;simp only[List.getElem_toArray,List.getElem_cons_zero,List.getElem_cons_succ];go_simp;try with_reducible rfl
  try simp only[Act.put,List.getElem_toArray,List.getElem_cons_zero,List.getElem_cons_succ,List.setIfInBounds_toArray,List.set_cons_zero,List.set_cons_succ]
  refine wpAnyH_take (i:=3) (v:=?_) rfl (by kernel_rfl) (by kernel_rfl) (by kernel_rfl) (fun _ _ _ h=>h) (Or.inl ⟨by rfl,?_⟩) hHeld ?_
  rotate_left 1
  ·intro Wx hSW;simp only[List.getElem_toArray,List.getElem_cons_zero,List.getElem_cons_succ];have z0:=cell_kept g0 hSW.out;have z1:=cell_kept g1 hSW.out;have z2:=cell_kept g2 hSW.out;have y0:=cell_kept t0 hSW.out;have y1:=cell_kept t1 hSW.out;have y2:=cell_kept t2 hSW.out;go_simp;try with_reducible rfl
  try simp only[Act.put,List.getElem_toArray,List.getElem_cons_zero,List.getElem_cons_succ,List.setIfInBounds_toArray,List.set_cons_zero,List.set_cons_succ]
  refine wpAnyH_take (i:=4) (v:=?_) rfl (by kernel_rfl) (by kernel_rfl) (by kernel_rfl) (fun _ _ _ h=>h) (Or.inl ⟨by rfl,?_⟩) hHeld ?_
  rotate_left 1
  ·intro Wx hSW;simp only[List.getElem_toArray,List.getElem_cons_zero,List.getElem_cons_succ];go_simp;try with_reducible rfl
  try simp only[Act.put,List.getElem_toArray,List.getElem_cons_zero,List.getElem_cons_succ,List.setIfInBounds_toArray,List.set_cons_zero,List.set_cons_succ]
  refine wpAnyH_take (i:=5) (v:=?_) rfl (by kernel_rfl) (by kernel_rfl) (by kernel_rfl) (fun _ _ _ h=>h) (Or.inl ⟨by rfl,?_⟩) hHeld ?_
  rotate_left 1
  ·intro Wx hSW;simp only[List.getElem_toArray,List.getElem_cons_zero,List.getElem_cons_succ];go_simp;try with_reducible rfl
  try simp only[Act.put,List.getElem_toArray,List.getElem_cons_zero,List.getElem_cons_succ,List.setIfInBounds_toArray,List.set_cons_zero,List.set_cons_succ]
  refine wpAnyH_take (i:=6) (v:=?_) rfl (by kernel_rfl) (by kernel_rfl) (by kernel_rfl) (fun _ _ _ h=>h) (Or.inl ⟨by rfl,?_⟩) hHeld ?_
  rotate_left 1
  ·intro Wx hSW;simp only[List.getElem_toArray,List.getElem_cons_zero,List.getElem_cons_succ];go_simp;try with_reducible rfl
  try simp only[Act.put,List.getElem_toArray,List.getElem_cons_zero,List.getElem_cons_succ,List.setIfInBounds_toArray,List.set_cons_zero,List.set_cons_succ]
  refine wpAnyH_take (i:=7) (v:=?_) rfl (by kernel_rfl) (by kernel_rfl) (by kernel_rfl) (fun _ _ _ h=>h) (Or.inl ⟨by rfl,?_⟩) hHeld ?_
  rotate_left 1
  ·intro Wx hSW;simp only[List.getElem_toArray,List.getElem_cons_zero,List.getElem_cons_succ];have z0:=cell_kept g0 hSW.out;have z1:=cell_kept g1 hSW.out;have z2:=cell_kept g2 hSW.out;have y0:=cell_kept t0 hSW.out;have y1:=cell_kept t1 hSW.out;have y2:=cell_kept t2 hSW.out;go_simp;try with_reducible rfl
  try simp only[Act.put,List.getElem_toArray,List.getElem_cons_zero,List.getElem_cons_succ,List.setIfInBounds_toArray,List.set_cons_zero,List.set_cons_succ]
  refine wpAnyH_take (i:=8) (v:=?_) rfl (by kernel_rfl) (by kernel_rfl) (by kernel_rfl) (fun _ _ _ h=>h) (Or.inl ⟨by rfl,?_⟩) hHeld ?_
  rotate_left 1
  ·intro Wx hSW;simp only[List.getElem_toArray,List.getElem_cons_zero,List.getElem_cons_succ];go_simp;try with_reducible rfl
  try simp only[Act.put,List.getElem_toArray,List.getElem_cons_zero,List.getElem_cons_succ,List.setIfInBounds_toArray,List.set_cons_zero,List.set_cons_succ]
  refine wpAnyH_take (i:=9) (v:=?_) rfl (by kernel_rfl) (by kernel_rfl) (by kernel_rfl) (fun _ _ _ h=>h) (Or.inl ⟨by rfl,?_⟩) hHeld ?_
  rotate_left 1
  ·intro Wx hSW;simp only[List.getElem_toArray,List.getElem_cons_zero,List.getElem_cons_succ];have z0:=cell_kept g0 hSW.out;have z1:=cell_kept g1 hSW.out;have z2:=cell_kept g2 hSW.out;have y0:=cell_kept t0 hSW.out;have y1:=cell_kept t1 hSW.out;have y2:=cell_kept t2 hSW.out;go_simp;try with_reducible rfl
  try simp only[Act.put,List.getElem_toArray,List.getElem_cons_zero,List.getElem_cons_succ,List.setIfInBounds_toArray,List.set_cons_zero,List.set_cons_succ]
  refine wpAnyH_ready (rs:=[10]) (by kernel_rfl) (by simp) ?_
  refine AllReadyH.cons rfl (fun K hK=>?_) AllReadyH.nil
  go_simp
  refine hK.out _ _ (hide ((below_drewN (Below.refl _ _) _).alloc (by exact Nat.le_refl _) _)) (fun hHeld=>?_)
  clear hK K
  try simp only[Act.put,List.getElem_toArray,List.getElem_cons_zero,List.getElem_cons_succ,List.setIfInBounds_toArray,List.set_cons_zero,List.set_cons_succ]
  obtain⟨V,hV⟩:∃V,(w.drewN (m0+1)).alloc (.cells #[.int .i64 0,.int .i64 0,.int .i64 0] 73)=V:=⟨_,rfl⟩
  have hb:Blk V w.heap.size 73 #[.int .i64 0,.int .i64 0,.int .i64 0]:=by rw[← hV];exact Blk.new _ _ _
  rw[hV]at hHeld ⊢
  clear hV
  have c0:=hb.cell 0
  have f0:=hb.frozen 0
  have c1:=hb.cell 1
  have f1:=hb.frozen 1
  have c2:=hb.cell 2
  have f2:=hb.frozen 2
  simp only[List.getElem?_toArray,List.getElem?_cons_succ,List.getElem?_cons_zero]at c0 c1 c2
  have hB3:=((hHeld.out.setCell (p:=⟨w.heap.size,0,none⟩) (Nat.le_refl _) (.int .i64 K)).setCell (p:=⟨w.heap.size,1,none⟩) (Nat.le_refl _) (.int .i64 A)).setCell (p:=⟨w.heap.size,2,none⟩) (Nat.le_refl _) (.int .i64 M)
  have hb3:=((hb.set 0 (.int .i64 K)).set 1 (.int .i64 A)).set 2 (.int .i64 M)
  refine wpAnyH_ready (rs:=[11]) (by kernel_rfl) (by simp) ?_
  refine AllReadyH.cons rfl (fun K hK=>?_) AllReadyH.nil
  go_simp
  refine hK.out _ _ (hide hB3) (fun hHeld=>?_)
  clear hK K
  try simp only[Act.put,List.getElem_toArray,List.getElem_cons_zero,List.getElem_cons_succ,List.setIfInBounds_toArray,List.set_cons_zero,List.set_cons_succ]
  refine wpAnyH_done (by kernel_rfl) ?_ _
  obtain⟨Z,hZ⟩:∃Z,((V.setCell ⟨w.heap.size,0,none⟩ (.int .i64 K)).setCell ⟨w.heap.size,1,none⟩ (.int .i64 A)).setCell ⟨w.heap.size,2,none⟩ (.int .i64 M)=Z:=⟨_,rfl⟩
  rw[hZ]at hB3 hb3 ⊢
  have d1:=hb3.cell 1
  have d2:=hb3.cell 2
  simp[Array.setIfInBounds]at d1 d2
  have e0:=cell_kept g0 hB3
  have hcv:∀cp m,(convert 22 9 (.slice (some ⟨c.b,c.o+A,none⟩) M cp)).run Tryz.prog (Z.drewN m) = .ok (.string R) (Z.drewN m):=fun cp m=>HCV.out cp _ (below_drewN hB3 m)
  have HB3:=hide hB3
  clear hB3 hb3 hb hHeld c0 c1 c2 f0 f1 f2 hZ g0 g1 g2 g3 g4 t0 t1 t2
  go_wp2_with fail
  go_quiet (fail)
  go_wp2
  go_ret
  exact⟨by rw[HN.out];rfl,below_drewN HB3.out _⟩
theorem str_dec (a b:ByteArray):(a.toList==b.toList)=decide (a=b):=by
 by_cases h:a=b
 ·rw[h,decide_eq_true rfl,beq_iff_eq]
 ·rw[decide_eq_false h,beq_eq_false_iff_ne]
  intro g
  rw[ByteArray.toList_eq,ByteArray.toList_eq]at g
  exact h (ByteArray.ext (Array.toList_inj.1 g))
set_option maxHeartbeats 1000000 in
set_option maxRecDepth 1000000 in
theorem l2is_any {w:World}{c:PsC}{e:PsE}{p:Ps}(s:ByteArray)(h:PsW w c e p):
 Calls Tryz.prog 35 #[.pointer (some ⟨c.P,0,none⟩),.string s] w fun r w'=>r = .returned (.bool (e.is p s))∧Below w.heap.size w w':=by
 have HK:=hide (l2kind_any h)
 have HW:=hide (fun W (hW:Below w.heap.size w W)=>l2now_any (h.below hW))
 have HI:Hid (e.is p s=((decide (e.kind p=2)||decide (e.kind p=5))&&decide (e.now p=s))):=rfl
 have hk5:=PsE.kind_le h
 have hsd:=str_dec (e.now p) s
 obtain⟨K,hK⟩:∃K,e.kind p=K:=⟨_,rfl⟩
 obtain⟨R,hR⟩:∃R,e.now p=R:=⟨_,rfl⟩
 rw[hK]at HK HI hk5
 rw[hR]at HI hsd
 simp only[hR]at HW
 clear h hK hR
 by_cases c2:K=2
 ·subst c2
  go_enter Tryz.func35,Tryz.ntmps35
  go_wp2_with fail
  refine HK.out.mono ?_
  rintro r w' ⟨rfl,m0,rfl⟩
  go_wp2_with fail
  refine (HW.out _ (below_drewN (Below.refl _ _) m0)).mono ?_
  rintro r w' ⟨rfl,hb⟩
  have HB:=hide ((below_drewN (Below.refl w.heap.size w) m0).trans hb)
  clear hb
  go_wp2
  go_ret
  exact⟨by rw[HI.out];simp,HB.out⟩
 ·have t2:((K:Int)==2)=false:=by rw[beq_eq_false_iff_ne];omega
  by_cases c5:K=5
  ·subst c5
   go_enter Tryz.func35,Tryz.ntmps35
   go_wp2_with fail
   refine HK.out.mono ?_
   rintro r w' ⟨rfl,m0,rfl⟩
   go_wp2_with fail
   refine (HW.out _ (below_drewN (Below.refl _ _) m0)).mono ?_
   rintro r w' ⟨rfl,hb⟩
   have HB:=hide ((below_drewN (Below.refl w.heap.size w) m0).trans hb)
   clear hb
   go_wp2
   go_ret
   exact⟨by rw[HI.out];simp,HB.out⟩
  ·have t5:((K:Int)==5)=false:=by rw[beq_eq_false_iff_ne];omega
   have HF:Hid (e.is p s=false):=by show _=_;rw[HI.out,decide_eq_false c2,decide_eq_false c5];rfl
   clear HW hsd c2 c5
   go_enter Tryz.func35,Tryz.ntmps35
   go_wp2_with fail
   refine HK.out.mono ?_
   rintro r w' ⟨rfl,m0,rfl⟩
   go_wp2
   go_ret
   exact⟨by rw[HF.out];rfl,below_drewN (Below.refl _ _) m0⟩
set_option maxHeartbeats 1000000 in
set_option maxRecDepth 1000000 in
theorem l2wrong_any {w:World}{c:PsC}{e:PsE}{p:Ps}(h:PsW w c e p):
 Calls Tryz.prog 44 #[.pointer (some ⟨c.P,0,none⟩)] w fun r w'=>r = .returned (.tuple #[])∧RdQ c e (e.wrong p) w w':=by
 obtain⟨g0,g1,g2,g3,g4⟩:=h.cells
 have HP:=hide (l2place_any h)
 by_cases hb:p.bad<0
 ·have d0:decide (p.bad<0)=true:=decide_eq_true hb
  have hpl:=PsE.place_le h
  have HE:Hid (∀m,RdQ c e (e.wrong p) w ((w.drewN m).setCell ⟨c.P,3,none⟩ (.int .i64 ((e.place p:Nat):Int)))):=fun m=>by
   have h1:=(h.drew m).one (p':=e.wrong p) (k:=3) (v:=.int .i64 ((e.place p:Nat):Int)) (by unfold PsE.wrong;rw[if_pos hb];rfl) (by unfold PsE.wrong;rw[if_pos hb];exact h.at_) (by unfold PsE.wrong;rw[if_pos hb];show -1≤((e.place p:Nat):Int)∧((e.place p:Nat):Int)≤5000;omega)
   exact⟨h1.1,Gw.trans (Gw.of_below (below_drewN (Below.refl _ _) m)) h1.2 (fun _ _ q=>q)⟩
  have hfz:=h.fz 3
  obtain⟨E,hE⟩:∃E,e.place p=E:=⟨_,rfl⟩
  rw[hE]at HE HP
  clear h hb hpl hE g0 g1 g2 g4
  go_enter Tryz.func44,Tryz.ntmps44
  go_wp2_with fail
  refine HP.out.mono ?_
  rintro r w' ⟨rfl,m0,rfl⟩
  go_wp2
  go_end0
  exact⟨rfl,HE.out m0⟩
 ·have d0:decide (p.bad<0)=false:=decide_eq_false hb
  have HE:Hid (RdQ c e (e.wrong p) w w):=by
   unfold PsE.wrong;rw[if_neg hb];exact⟨h,Gw.refl _ _⟩
  clear h hb g0 g1 g2 g4
  go_enter Tryz.func44,Tryz.ntmps44
  go_wp2
  go_end0
  exact⟨rfl,HE.out⟩
theorem PsW.onQ {w w':World}{c:PsC}{e:PsE}{p:Ps}(h:PsW w c e p)(hb:Below w.heap.size w w')(hk:e.kind p≠0):RdQ c e p.on w (w'.setCell ⟨c.P,2,none⟩ (.int .i64 ((p.at_:Nat)+1:Int))):=by
 have k:=kind_pos hk
 have h1:=(h.below hb).one (p':=p.on) (k:=2) (v:=.int .i64 ((p.at_:Nat)+1:Int)) rfl (by show p.at_+1≤_;omega) h.bad
 exact⟨h1.1,Gw.trans (Gw.of_below hb) h1.2 (fun _ _ q=>q)⟩
set_option maxHeartbeats 1000000 in
set_option maxRecDepth 1000000 in
theorem l2got_any {w:World}{c:PsC}{e:PsE}{p:Ps}(s:ByteArray)(h:PsW w c e p):
 Calls Tryz.prog 17 #[.pointer (some ⟨c.P,0,none⟩),.string s] w fun r w'=>r = .returned (.bool (e.is p s))∧RdQ c e (if e.is p s=true then p.on else p) w w':=by
 have HI:=hide (l2is_any s h)
 by_cases c1:e.is p s=true
 ·rw[if_pos c1]
  rw[c1]at HI ⊢
  have HO:=hide (fun W (hW:Below w.heap.size w W)=>h.onQ hW (is_kind c1))
  have HC:=hide (fun W (hW:Below w.heap.size w W)=>(h.below hW).cells)
  have HF:=hide (fun W (hW:Below w.heap.size w W)=>(h.below hW).fz 2)
  have hat:=h.at_
  have htl:=h.tl
  have hal:p.at_≤5000:=by omega
  clear h c1 hat htl
  go_enter Tryz.func17,Tryz.ntmps17
  go_wp2_with fail
  refine HI.out.mono ?_
  rintro r w1 ⟨rfl,hb⟩
  obtain⟨g0,g1,g2,g3,g4⟩:=HC.out w1 hb
  have f2:=HF.out w1 hb
  have HO1:=hide (HO.out w1 hb)
  clear hb HO HC HF g0 g1 g3 g4
  go_wp2
  go_ret
  exact⟨rfl,HO1.out⟩
 ·rw[if_neg c1]
  rw[Bool.eq_false_iff.2 c1]at HI ⊢
  have HC:=hide (fun W (hW:Below w.heap.size w W)=>h.below hW)
  clear h c1
  go_enter Tryz.func17,Tryz.ntmps17
  go_wp2_with fail
  refine HI.out.mono ?_
  rintro r w1 ⟨rfl,hb⟩
  have HO1:Hid (RdQ c e p w w1):=⟨HC.out _ hb,Gw.of_below hb⟩
  clear hb HC
  go_wp2
  go_ret
  exact⟨rfl,HO1.out⟩
theorem RdQ.trans {c:PsC}{e:PsE}{p q:Ps}{w w1 w2:World}(h:RdQ c e p w w1)(k:RdQ c e q w1 w2):RdQ c e q w w2:=⟨k.1,h.2.trans k.2 (fun _ _ q=>q)⟩
theorem RdQ.below {c:PsC}{e:PsE}{p:Ps}{w w1 w2:World}(h:RdQ c e p w w1)(k:Below w1.heap.size w1 w2):RdQ c e p w w2:=⟨h.1.below k,h.2.trans (Gw.of_below (P:=fun _=>False) k) (fun _ _ q=>q.elim)⟩
set_option maxHeartbeats 1000000 in
set_option maxRecDepth 1000000 in
theorem l2want_any {w:World}{c:PsC}{e:PsE}{p:Ps}(s:ByteArray)(h:PsW w c e p):
 Calls Tryz.prog 37 #[.pointer (some ⟨c.P,0,none⟩),.string s] w fun r w'=>r = .returned (.tuple #[])∧RdQ c e (e.want p s) w w':=by
 have HI:=hide (l2got_any s h)
 unfold PsE.want
 by_cases c1:e.is p s=true
 ·rw[if_pos c1]at HI ⊢
  rw[c1]at HI
  clear h c1
  go_enter Tryz.func37,Tryz.ntmps37
  go_wp2_with fail
  refine HI.out.mono ?_
  rintro r w1 ⟨rfl,hq⟩
  have HQ:=hide hq
  clear hq
  go_wp2
  go_end0
  exact⟨rfl,HQ.out⟩
 ·rw[if_neg c1]at HI ⊢
  rw[Bool.eq_false_iff.2 c1]at HI
  clear h c1
  go_enter Tryz.func37,Tryz.ntmps37
  go_wp2_with fail
  refine HI.out.mono ?_
  rintro r w1 ⟨rfl,hq⟩
  have HQ:=hide hq
  clear hq
  go_wp2_with fail
  refine (l2wrong_any HQ.out.1).mono ?_
  rintro r w2 ⟨rfl,hq⟩
  have HQ2:=hide (HQ.out.trans hq)
  clear hq
  go_wp2
  go_end0
  exact⟨rfl,HQ2.out⟩
end Go.Proofs.YtbiakdjpeblclaaGreatDoor
namespace Go.Proofs.YtbiakdjpeblclaaGreatDoor
def TkW (s:ByteArray)(t:Nat × Nat × Nat):Prop:=t.2.1<s.size∧t.1=(tok s t.2.1).1∧t.2.2=(tok s t.2.1).2∧(tok s t.2.1).2≠0
theorem lex_tkw (s:ByteArray):∀f p acc,(∀t∈acc,TkW s t)→∀t∈(lex s f p acc).1,TkW s t
 |0,p,acc,h=>by rw[lex];exact h
 |f+1,p,acc,h=>by
  rw[lex]
  by_cases c:p<s.size
  ·rw[if_pos c]
   by_cases c1:0<bl s p
   ·rw[if_pos c1];exact lex_tkw s f _ _ h
   rw[if_neg c1]
   by_cases c2:bl s p<0
   ·rw[if_pos c2];intro t ht;cases ht
   rw[if_neg c2]
   by_cases c3:(tok s p).2=0
   ·rw[if_pos c3];intro t ht;cases ht
   rw[if_neg c3]
   refine lex_tkw s f _ _ fun t ht=>?_
   rcases List.mem_append.mp ht with h1|h1
   ·exact h t h1
   ·rw[List.mem_singleton.mp h1];exact⟨c,rfl,rfl,c3⟩
  ·rw[if_neg c];exact h
theorem lexed_tkw (s:ByteArray):∀t∈(lexed s).1,TkW s t:=by
 unfold lexed
 by_cases h:5000<s.size
 ·rw[if_pos h];intro t ht;cases ht
 ·rw[if_neg h]
  by_cases hg:(chk s).1=0
  ·rw[if_pos hg];exact lex_tkw s _ _ _ (fun t ht=>by cases ht)
  ·rw[if_neg hg];intro t ht;cases ht
def EOk (e:PsE):Prop:=∀t∈e.T,TkW e.s t
def PsE.txt (e:PsE)(n:Nat):ByteArray:=if n<e.T.length then e.s.extract (e.T.getD n (0,0,0)).2.1 ((e.T.getD n (0,0,0)).2.1+(e.T.getD n (0,0,0)).2.2) else ⟨#[]⟩
def wOk (w:ByteArray):Bool:=decide (w.size≠0)&&((isW w&&isL (w.get! 0).toNat)||(!(isR (w.get! 0).toNat)&&decide ((w.get! 0).toNat≠34)))
theorem EOk.at {e:PsE}(h:EOk e){n:Nat}(hn:n<e.T.length):TkW e.s (e.T.getD n (0,0,0)):=by
 refine h _ ?_
 rw[List.getD_eq_getElem?_getD,List.getElem?_eq_getElem hn]
 exact List.getElem_mem hn
theorem tkw_le {s:ByteArray}{t:Nat × Nat × Nat}(h:TkW s t):t.2.1+t.2.2≤s.size∧0<t.2.2:=by
 obtain⟨h1,h2,h3,h4⟩:=h
 rw[h3]
 exact⟨tok_le s _ h1,by omega⟩
theorem ext_get0 {s:ByteArray}{a n:Nat}(h:a+n≤s.size)(hn:0<n):(s.extract a (a+n)).get! 0=s.get! a∧(s.extract a (a+n)).size=n:=by
 have hs:(s.extract a (a+n)).size=n:=by rw[ByteArray.size_extract];omega
 refine⟨?_,hs⟩
 have h0:0<(s.extract a (a+n)).size:=by omega
 rw[Utf8W.get!_of_lt _ 0 h0,ByteArray.getElem_extract,Utf8W.get!_of_lt _ a (by omega)]
 rfl
theorem tok_kind {s:ByteArray}{p:Nat}(hw:wOk (s.extract p (p+(tok s p).2))=true)(hle:p+(tok s p).2≤s.size)(hn:(tok s p).2≠0):(tok s p).1=2∨(tok s p).1=5:=by
 obtain⟨g0,g1⟩:=ext_get0 hle (by omega)
 unfold wOk at hw
 rw[g0,Bool.and_eq_true,Bool.or_eq_true,Bool.and_eq_true,Bool.and_eq_true]at hw
 obtain⟨-,hw⟩:=hw
 unfold tok at hw hn ⊢
 by_cases c:isL (s.get! p).toNat=true
 ·rw[if_pos c]at hw ⊢
  have hr:isR (s.get! p).toNat=true:=by unfold isR;rw[c];rfl
  rcases hw with h|h
  ·simp only at h
   rw[if_pos h.1];exact .inl rfl
  ·rw[hr]at h;cases h.1
 rw[if_neg c]at hw hn ⊢
 have hw2:isR (s.get! p).toNat=false∧(s.get! p).toNat≠34:=by
  rcases hw with h|h
  ·exact absurd h.2 c
  ·refine⟨?_,of_decide_eq_true h.2⟩
   have h1:=h.1
   revert h1
   cases isR (s.get! p).toNat with
   |false=>intro _;rfl
   |true=>intro q;cases q
 by_cases c1:0<run s p
 ·exfalso
  have:=(run_all s p 0 c1).2
  rw[Nat.add_zero,hw2.1]at this
  cases this
 rw[if_neg c1,if_neg hw2.2]at hn ⊢
 by_cases c2:sg s p=0
 ·rw[if_pos c2]at hn;exact absurd rfl hn
 ·rw[if_neg c2];exact .inr rfl
theorem EOk.word {e:PsE}(h:EOk e){n:Nat}(hn:n<e.T.length){w:ByteArray}(hw:wOk w=true)(ht:e.txt n=w):(e.T.getD n (0,0,0)).1=2∨(e.T.getD n (0,0,0)).1=5:=by
 have k:=h.at hn
 have kl:=tkw_le k
 obtain⟨h1,h2,h3,h4⟩:=k
 unfold PsE.txt at ht
 rw[if_pos hn]at ht
 rw[h2]
 rw[h3]at ht kl
 exact tok_kind (by rw[ht];exact hw) kl.1 h4
theorem EOk.txt_size {e:PsE}(h:EOk e){n:Nat}(hn:n<e.T.length):(e.txt n).size=(e.T.getD n (0,0,0)).2.2∧0<(e.T.getD n (0,0,0)).2.2:=by
 have kl:=tkw_le (h.at hn)
 unfold PsE.txt
 rw[if_pos hn]
 exact⟨(ext_get0 kl.1 kl.2).2,kl.2⟩
theorem EOk.is {e:PsE}(h:EOk e){p:Ps}(hp:p.bad<0){w:ByteArray}(hw:wOk w=true):e.is p w=decide (e.txt p.at_=w):=by
 by_cases hn:p.at_<e.T.length
 ·have hk:e.kind p=(e.tk p).1:=by unfold PsE.kind;rw[if_neg (by omega)]
  by_cases ht:e.txt p.at_=w
  ·have k:=h.word hn hw ht
   have hk':e.kind p≠0:=by rw[hk];unfold PsE.tk;omega
   have hnow:e.now p=w:=by
    unfold PsE.now
    rw[if_neg hk']
    unfold PsE.txt at ht
    rw[if_pos hn]at ht
    exact ht
   unfold PsE.is
   rw[hnow,decide_eq_true ht,hk]
   unfold PsE.tk
   rcases k with k|k<;>rw[k]<;>simp
  ·rw[decide_eq_false ht]
   cases hq:e.is p w with
   |false=>rfl
   |true=>
    exfalso
    have hk':=is_kind hq
    unfold PsE.is at hq
    rw[Bool.and_eq_true]at hq
    have:=of_decide_eq_true hq.2
    unfold PsE.now at this
    rw[if_neg hk']at this
    refine ht ?_
    unfold PsE.txt
    rw[if_pos hn]
    exact this
 ·have hk:e.kind p=0:=by unfold PsE.kind;rw[if_pos (by omega)]
  have ht:e.txt p.at_ = ⟨#[]⟩:=by unfold PsE.txt;rw[if_neg hn]
  unfold PsE.is
  rw[hk,ht]
  have:(⟨#[]⟩:ByteArray)≠w:=by
   intro q
   rw[← q]at hw
   exact absurd hw (by decide)
  rw[decide_eq_false this]
  rfl
theorem EOk.end_ {e:PsE}(h:EOk e)(n:Nat):(e.txt n = ⟨#[]⟩)↔¬n<e.T.length:=by
 by_cases hn:n<e.T.length
 ·refine⟨fun q=>?_,fun q=>absurd hn q⟩
  have:=h.txt_size hn
  rw[q]at this
  have h0:(⟨#[]⟩:ByteArray).size=0:=rfl
  omega
 ·refine⟨fun _=>hn,fun _=>?_⟩
  unfold PsE.txt
  rw[if_neg hn]
end Go.Proofs.YtbiakdjpeblclaaGreatDoor
