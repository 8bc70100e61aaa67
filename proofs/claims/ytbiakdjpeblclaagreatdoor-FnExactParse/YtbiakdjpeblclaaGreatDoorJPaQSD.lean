/-
  The program's own reader of trees, on: declarations.
-/
import Derived.Test.YtbiakdjpeblclaaGreatDoorJPaQSA
namespace Go.Proofs.YtbiakdjpeblclaaGreatDoor
open Go.RowKit
def nm0 (k n:Int):Nv:=⟨{ ndK k with n:=n },.slice none 0 0,.slice none 0 0,.slice none 0 0⟩
theorem NdA.plain (w:World)(k:Int):NdA w (w.alloc (.cells #[.int .i64 k,.int .i64 0,.slice none 0 0,.slice none 0 0,.slice none 0 0,.int .i64 0] 51)) w.heap.size w.heap.size (nm0 k 0):=⟨Blk.new _ _ _,Nat.le_refl _,od_plain _ _ _ _⟩
theorem NdA.setN {w V:World}{O hi:Nat}{k n':Int}(h:NdA w V O hi (nm0 k n'))(n:Int):NdA w (V.setCell ⟨O,1,none⟩ (.int .i64 n)) O hi (nm0 k n):=⟨h.blk.set 1 _,h.lo,od_plain _ _ _ _⟩
theorem PO.setO {V:World}{O k hi:Nat}{x v:Value}{ks:List Pt}{us:List Value}(h:PO V (O+1) hi v ks us):PO (V.setCell ⟨O,k,none⟩ x) (O+1) hi v ks us:=
 h.gw (Gw.set V O k x) (fun j hj=>by omega)
theorem NdA.row0 {w W w':World}{O hi e sz m:Nat}{k n:Int}{v:Value}{xs:List Value}(h:NdA w W O hi (nm0 k n))(ho:W.ownsRow (O+1) e sz v m xs)(hg:W.grownBy w' v.ownBlock):NdA w w' O hi (nm0 k n):=
 ⟨(Gw.of_grown (P:=fun k=>v.ownBlock=some k) hg (fun k hk _=>hk)).blk h.blk (fun q=>by have:=(World.ownsRow.lt ho _ q).1;omega),h.lo,od_plain _ _ _ _⟩
theorem nd_cut {P:Program}{f:FuncId}{args:Array Value}{w:World}{k:Int}{R:Ending→World→Prop}(h:∀W,NdA w W w.heap.size w.heap.size (nm0 k 0)→Below w.heap.size w W→Calls P f args W R):Calls P f args (w.alloc (.cells #[.int .i64 k,.int .i64 0,.slice none 0 0,.slice none 0 0,.slice none 0 0,.int .i64 0] 51)) R:=
 h _ (NdA.plain w k) ((Below.refl _ _).alloc (Nat.le_refl _) _)
theorem area_len (e:PsE)(f:Nat)(p:Ps):(rArea e f p).1.length≤4:=by
 unfold rArea
 simp only
 split
 ·rw[List.length_append];exact Nat.le_refl 4
 ·show 2≤4;omega
set_option maxHeartbeats 4000000 in
set_option maxRecDepth 1000000 in
theorem dec_grid {c:PsC}{e:PsE}{f:Nat}{k pl:Nat}(hE:EOk e)(HEx:QE c e f)(hk:k=7){w:World}{p:Ps}(h:QsW w c e p.at_)(hp:p.bad<0)(hn:p.at_≤e.T.length):
 Calls Tryz.prog 140 #[.pointer (some ⟨c.P,0,none⟩),.int .i64 (k:Nat),.int .i64 (pl:Nat)] w (RQ c e w (rDec e f k pl p).2 (KP w (rDec e f k pl p).1)):=by
 have hPl:=h.blk.lt
 have HQ:=hide h
 have HG:=hide (Gw.refl (· = c.P) w)
 have HT0:=hide hn
 subst hk
 unfold rDec rEnd rDb
 simp (decide:=true) only[if_true,if_false]
 have HM1:=hide (mv_cell e f p)
 have HT1:=hide (HM1.out.top HT0.out)
 have HC1:=hide (fun W (hW:QsW W c e p.at_) (hb:p.bad<0)=>qcell hE HEx hW hb HT0.out)
 obtain⟨Y,hY⟩:∃zz,rCell e f p=zz:=⟨_,rfl⟩
 simp only[hY]at HM1 HT1 HC1 ⊢
 have HM2:=hide ((mv_want e Y.2 (⟨#[59]⟩:ByteArray)).1)
 have HT2:=hide (HM2.out.top HT1.out)
 have HC2:=hide (fun W (hW:QsW W c e Y.2.at_) (hb:Y.2.bad<0)=>qwant hE (⟨#[59]⟩:ByteArray) (by decide +kernel) hW hb HT1.out)
 obtain⟨Z,hZ⟩:∃zz,e.want Y.2 (⟨#[59]⟩:ByteArray)=zz:=⟨_,rfl⟩
 simp only[hZ]at HM2 HT2 HC2 ⊢
 clear h hn HEx hY hZ hE
 go_enter Tryz.func140,Tryz.ntmps140
 go_wp2_with fail
 refine nd_cut ?_
 intro wn hND hA
 replace HQ:=hide (HQ.out.below hA)
 replace HG:=hide (HG.out.blw hA)
 have HND:=hide hND
 clear hND hA
 refine (HC1.out wn HQ.out hp).mono ?_
 rintro r w1 ⟨hg,⟨hb1,hq,v,rfl,⟨us1,hpo⟩⟩|⟨hb1,rfl⟩⟩
 rotate_left 1
 ·exact⟨rfl,RQ.fault hb1 HM2.out (HG.out.tr hg)⟩
 have hz1:wn.heap.size≤w1.heap.size:=hg.size
 have hlo1:w.heap.size≤wn.heap.size:=HG.out.size
 replace HND:=hide (HND.out.rd hg hPl)
 have hB1:c.P<wn.heap.size:=Nat.lt_of_lt_of_le hPl HG.out.size
 obtain⟨la1,lc1,rfl⟩:=own_sl hpo.own
 have HR1:=hide hpo
 clear hpo
 replace HG:=hide (HG.out.tr hg)
 replace HQ:=hide hq
 clear hg hq HC1
 go_wp2_with fail
 refine (HC2.out w1 HQ.out hb1).mono ?_
 rintro r w2 ⟨hg,⟨hb2,hq,_,rfl,rfl⟩|⟨hb2,rfl⟩⟩
 rotate_left 1
 ·exact⟨rfl,RQ.fault hb2 (Mv.refl e _) (HG.out.tr hg)⟩
 have hz2:w1.heap.size≤w2.heap.size:=hg.size
 replace HND:=hide (HND.out.rd hg hPl)
 replace HR1:=hide (HR1.out.rd hg hB1)
 replace HG:=hide (HG.out.tr hg)
 replace HQ:=hide hq
 clear hg hq HC2
 obtain⟨n0,n1,n2,n3,n4,n5⟩:=HND.out.cells
 unfold nm0 at n0 n1 n2 n3 n4 n5
 simp only[ndK]at n0 n1 n2 n3 n4 n5
 have HMK:=hide (qmake_any pl (by simp[nm0,ndK]) (Kids.of HND.out.ok HR1.out.pts hlo1 hlo1) (ks:=Y.1) HR1.out.len (HR1.out.rwg hlo1))
 go_wp2_with fail
 refine HMK.out.mono ?_
 rintro r v2 ⟨⟨t',a',rfl,hpm⟩,hb⟩
 replace HG:=hide (HG.out.blw hb)
 replace HQ:=hide (HQ.out.below hb)
 have HPM:=hide hpm
 clear hpm hb HMK n0 n1 n2 n3 n4 n5 HND HR1
 go_wp2
 go_ret
 exact RQ.ok hb2 HG.out HQ.out ⟨⟨_,_,rfl⟩,HPM.out⟩
set_option maxHeartbeats 4000000 in
set_option maxRecDepth 1000000 in
theorem dec_area {c:PsC}{e:PsE}{f:Nat}{k pl:Nat}(hE:EOk e)(HEx:QE c e f)(hk:k=8∨k=9){w:World}{p:Ps}(h:QsW w c e p.at_)(hp:p.bad<0)(hn:p.at_≤e.T.length):
 Calls Tryz.prog 140 #[.pointer (some ⟨c.P,0,none⟩),.int .i64 (k:Nat),.int .i64 (pl:Nat)] w (RQ c e w (rDec e f k pl p).2 (KP w (rDec e f k pl p).1)):=by
 have hPl:=h.blk.lt
 have HQ:=hide h
 have HG:=hide (Gw.refl (· = c.P) w)
 have HT0:=hide hn
 rcases hk with rfl|rfl
 all_goals
  unfold rDec rEnd rDb
  simp (decide:=true) only[if_true,if_false]
  have HM1:=hide (mv_area e f p)
  have HT1:=hide (HM1.out.top HT0.out)
  have HC1:=hide (fun W (hW:QsW W c e p.at_) (hb:p.bad<0)=>qarea hE HEx hW hb HT0.out)
  obtain⟨Y,hY⟩:∃zz,rArea e f p=zz:=⟨_,rfl⟩
  simp only[hY]at HM1 HT1 HC1 ⊢
  have HM2:=hide ((mv_want e Y.2 (⟨#[59]⟩:ByteArray)).1)
  have HT2:=hide (HM2.out.top HT1.out)
  have HC2:=hide (fun W (hW:QsW W c e Y.2.at_) (hb:Y.2.bad<0)=>qwant hE (⟨#[59]⟩:ByteArray) (by decide +kernel) hW hb HT1.out)
  obtain⟨Z,hZ⟩:∃zz,e.want Y.2 (⟨#[59]⟩:ByteArray)=zz:=⟨_,rfl⟩
  simp only[hZ]at HM2 HT2 HC2 ⊢
  clear h hn HEx hY hZ hE
  go_enter Tryz.func140,Tryz.ntmps140
  go_wp2_with fail
  refine nd_cut ?_
  intro wn hND hA
  replace HQ:=hide (HQ.out.below hA)
  replace HG:=hide (HG.out.blw hA)
  have HND:=hide hND
  clear hND hA
  refine (HC1.out wn HQ.out hp).mono ?_
  rintro r w1 ⟨hg,⟨hb1,hq,v,rfl,⟨us1,hpo⟩⟩|⟨hb1,rfl⟩⟩
  rotate_left 1
  ·exact⟨rfl,RQ.fault hb1 HM2.out (HG.out.tr hg)⟩
  have hz1:wn.heap.size≤w1.heap.size:=hg.size
  have hlo1:w.heap.size≤wn.heap.size:=HG.out.size
  replace HND:=hide (HND.out.rd hg hPl)
  have hB1:c.P<wn.heap.size:=Nat.lt_of_lt_of_le hPl HG.out.size
  obtain⟨la1,lc1,rfl⟩:=own_sl hpo.own
  have HR1:=hide hpo
  clear hpo
  replace HG:=hide (HG.out.tr hg)
  replace HQ:=hide hq
  clear hg hq HC1
  go_wp2_with fail
  refine (HC2.out w1 HQ.out hb1).mono ?_
  rintro r w2 ⟨hg,⟨hb2,hq,_,rfl,rfl⟩|⟨hb2,rfl⟩⟩
  rotate_left 1
  ·exact⟨rfl,RQ.fault hb2 (Mv.refl e _) (HG.out.tr hg)⟩
  have hz2:w1.heap.size≤w2.heap.size:=hg.size
  replace HND:=hide (HND.out.rd hg hPl)
  replace HR1:=hide (HR1.out.rd hg hB1)
  replace HG:=hide (HG.out.tr hg)
  replace HQ:=hide hq
  clear hg hq HC2
  obtain⟨n0,n1,n2,n3,n4,n5⟩:=HND.out.cells
  unfold nm0 at n0 n1 n2 n3 n4 n5
  simp only[ndK]at n0 n1 n2 n3 n4 n5
  have HMK:=hide (qmake_any pl (by simp[nm0,ndK]) (Kids.of HND.out.ok HR1.out.pts hlo1 hlo1) (ks:=Y.1) HR1.out.len (HR1.out.rwg hlo1))
  go_wp2_with fail
  refine HMK.out.mono ?_
  rintro r v2 ⟨⟨t',a',rfl,hpm⟩,hb⟩
  replace HG:=hide (HG.out.blw hb)
  replace HQ:=hide (HQ.out.below hb)
  have HPM:=hide hpm
  clear hpm hb HMK n0 n1 n2 n3 n4 n5 HND HR1
  go_wp2
  go_ret
  exact RQ.ok hb2 HG.out HQ.out ⟨⟨_,_,rfl⟩,HPM.out⟩
set_option maxHeartbeats 4000000 in
set_option maxRecDepth 1000000 in
theorem dec_lane {c:PsC}{e:PsE}{f:Nat}{k pl:Nat}(hE:EOk e)(HEx:QE c e f)(hk:k=10){w:World}{p:Ps}(h:QsW w c e p.at_)(hp:p.bad<0)(hn:p.at_≤e.T.length):
 Calls Tryz.prog 140 #[.pointer (some ⟨c.P,0,none⟩),.int .i64 (k:Nat),.int .i64 (pl:Nat)] w (RQ c e w (rDec e f k pl p).2 (KP w (rDec e f k pl p).1)):=by
 have hPl:=h.blk.lt
 have HQ:=hide h
 have HG:=hide (Gw.refl (· = c.P) w)
 have HT0:=hide hn
 subst hk
 unfold rDec rEnd rDb
 simp (decide:=true) only[if_true,if_false]
 have HM1:=hide (mv_area e f p)
 have HT1:=hide (HM1.out.top HT0.out)
 have HC1:=hide (fun W (hW:QsW W c e p.at_) (hb:p.bad<0)=>qarea hE HEx hW hb HT0.out)
 obtain⟨Y,hY⟩:∃zz,rArea e f p=zz:=⟨_,rfl⟩
 simp only[hY]at HM1 HT1 HC1 ⊢
 have HM2:=hide (mv_way e Y.2)
 have HT2:=hide (HM2.out.top HT1.out)
 have HC2:=hide (fun W (hW:QsW W c e Y.2.at_) (hb:Y.2.bad<0)=>qway hE hW hb HT1.out)
 obtain⟨X,hX⟩:∃zz,rWay e Y.2=zz:=⟨_,rfl⟩
 simp only[hX]at HM2 HT2 HC2 ⊢
 have HM3:=hide ((mv_want e X.2 (⟨#[59]⟩:ByteArray)).1)
 have HT3:=hide (HM3.out.top HT2.out)
 have HC3:=hide (fun W (hW:QsW W c e X.2.at_) (hb:X.2.bad<0)=>qwant hE (⟨#[59]⟩:ByteArray) (by decide +kernel) hW hb HT2.out)
 obtain⟨Z,hZ⟩:∃zz,e.want X.2 (⟨#[59]⟩:ByteArray)=zz:=⟨_,rfl⟩
 simp only[hZ]at HM3 HT3 HC3 ⊢
 clear h hn HEx hY hX hZ hE
 go_enter Tryz.func140,Tryz.ntmps140
 go_wp2_with fail
 refine nd_cut ?_
 intro wn hND hA
 replace HQ:=hide (HQ.out.below hA)
 replace HG:=hide (HG.out.blw hA)
 have HND:=hide hND
 have hOl:=hND.blk.lt
 obtain⟨O,hO⟩:∃O,w.heap.size=O:=⟨_,rfl⟩
 rw[hO]at HND hOl ⊢
 have hPO:c.P<O:=by omega
 have hwO:w.heap.size≤O:=by omega
 have hOs:c.P<O+1:=by omega
 clear hND hA
 refine (HC1.out wn HQ.out hp).mono ?_
 rintro r w1 ⟨hg,⟨hb1,hq,v,rfl,⟨us1,hpo⟩⟩|⟨hb1,rfl⟩⟩
 rotate_left 1
 ·exact⟨rfl,RQ.fault hb1 (HM2.out.trans HM3.out) (HG.out.tr hg)⟩
 replace HND:=hide (HND.out.rd hg hPl)
 replace hpo:=hpo.low (B':=O+1) hOl
 obtain⟨la1,lc1,rfl⟩:=own_sl hpo.own
 have HR1:=hide hpo
 replace HG:=hide (HG.out.tr hg)
 replace HQ:=hide hq
 clear hg hq hpo HC1
 go_wp2_with fail
 refine (HC2.out w1 HQ.out hb1).mono ?_
 rintro r w2 ⟨hg,⟨hb2,hq,_,rfl,rfl⟩|⟨hb2,rfl⟩⟩
 rotate_left 1
 ·exact⟨rfl,RQ.fault hb2 HM3.out (HG.out.tr hg)⟩
 replace HND:=hide (HND.out.rd hg hPl)
 replace HR1:=hide (HR1.out.rd hg hOs)
 replace HG:=hide (HG.out.tr hg)
 replace HQ:=hide hq
 clear hg hq HC2
 obtain⟨n0,n1,n2,n3,n4,n5⟩:=HND.out.cells
 have nf:=HND.out.blk.frozen 1
 unfold nm0 at n1
 simp only at n1
 clear n0 n2 n3 n4 n5
 go_wp2_with fail
 clear n1 nf
 have hgs:=Gw.set w2 O 1 (.int .i64 ((X.1:Nat):Int))
 replace HND:=hide (HND.out.setN ((X.1:Nat):Int))
 replace HR1:=hide (HR1.out.setO (k:=1) (x:=.int .i64 ((X.1:Nat):Int)))
 replace HQ:=hide (HQ.out.far hgs (fun k hk=>by omega))
 replace HG:=hide (HG.out.trans hgs (fun j hj q=>by omega))
 clear hgs
 obtain⟨w3,hw3⟩:∃W,w2.setCell ⟨O,1,none⟩ (.int .i64 ((X.1:Nat):Int))=W:=⟨_,rfl⟩
 rw[hw3]at HND HR1 HQ HG ⊢
 clear hw3
 refine (HC3.out w3 HQ.out hb2).mono ?_
 rintro r w4 ⟨hg,⟨hb3,hq,_,rfl,rfl⟩|⟨hb3,rfl⟩⟩
 rotate_left 1
 ·exact⟨rfl,RQ.fault hb3 (Mv.refl e _) (HG.out.tr hg)⟩
 replace HND:=hide (HND.out.rd hg hPl)
 replace HR1:=hide (HR1.out.rd hg hOs)
 replace HG:=hide (HG.out.tr hg)
 replace HQ:=hide hq
 clear hg hq HC3
 obtain⟨n0,n1,n2,n3,n4,n5⟩:=HND.out.cells
 unfold nm0 at n0 n1 n2 n3 n4 n5
 simp only[ndK]at n0 n1 n2 n3 n4 n5
 have HMK:=hide (qmake_any pl (by simp[nm0,ndK]) (Kids.of HND.out.ok HR1.out.pts (by omega) (by omega)) (ks:=Y.1) HR1.out.len (HR1.out.rwg (by omega)))
 go_wp2_with fail
 refine HMK.out.mono ?_
 rintro r v2 ⟨⟨t',a',rfl,hpm⟩,hb⟩
 replace HG:=hide (HG.out.blw hb)
 replace HQ:=hide (HQ.out.below hb)
 have HPM:=hide hpm
 clear hpm hb HMK n0 n1 n2 n3 n4 n5 HND HR1
 go_wp2
 go_ret
 exact RQ.ok hb3 HG.out HQ.out ⟨⟨_,_,rfl⟩,HPM.out⟩
set_option maxHeartbeats 4000000 in
set_option maxRecDepth 1000000 in
theorem dec_gate {c:PsC}{e:PsE}{f:Nat}{k pl:Nat}(hE:EOk e)(HEx:QE c e f)(hk:k=11∨k=12){w:World}{p:Ps}(h:QsW w c e p.at_)(hp:p.bad<0)(hn:p.at_≤e.T.length):
 Calls Tryz.prog 140 #[.pointer (some ⟨c.P,0,none⟩),.int .i64 (k:Nat),.int .i64 (pl:Nat)] w (RQ c e w (rDec e f k pl p).2 (KP w (rDec e f k pl p).1)):=by
 have hPl:=h.blk.lt
 have HQ:=hide h
 have HG:=hide (Gw.refl (· = c.P) w)
 have HT0:=hide hn
 rcases hk with rfl|rfl
 all_goals
  unfold rDec rEnd rDb
  simp (decide:=true) only[if_true,if_false]
  have HM1:=hide (mv_cell e f p)
  have HT1:=hide (HM1.out.top HT0.out)
  have HC1:=hide (fun W (hW:QsW W c e p.at_) (hb:p.bad<0)=>qcell hE HEx hW hb HT0.out)
  obtain⟨Y,hY⟩:∃zz,rCell e f p=zz:=⟨_,rfl⟩
  simp only[hY]at HM1 HT1 HC1 ⊢
  have HM2:=hide (mv_way e Y.2)
  have HT2:=hide (HM2.out.top HT1.out)
  have HC2:=hide (fun W (hW:QsW W c e Y.2.at_) (hb:Y.2.bad<0)=>qway hE hW hb HT1.out)
  obtain⟨X,hX⟩:∃zz,rWay e Y.2=zz:=⟨_,rfl⟩
  simp only[hX]at HM2 HT2 HC2 ⊢
  have HM3:=hide ((mv_want e X.2 (⟨#[59]⟩:ByteArray)).1)
  have HT3:=hide (HM3.out.top HT2.out)
  have HC3:=hide (fun W (hW:QsW W c e X.2.at_) (hb:X.2.bad<0)=>qwant hE (⟨#[59]⟩:ByteArray) (by decide +kernel) hW hb HT2.out)
  obtain⟨Z,hZ⟩:∃zz,e.want X.2 (⟨#[59]⟩:ByteArray)=zz:=⟨_,rfl⟩
  simp only[hZ]at HM3 HT3 HC3 ⊢
  clear h hn HEx hY hX hZ hE
  go_enter Tryz.func140,Tryz.ntmps140
  go_wp2_with fail
  refine nd_cut ?_
  intro wn hND hA
  replace HQ:=hide (HQ.out.below hA)
  replace HG:=hide (HG.out.blw hA)
  have HND:=hide hND
  have hOl:=hND.blk.lt
  obtain⟨O,hO⟩:∃O,w.heap.size=O:=⟨_,rfl⟩
  rw[hO]at HND hOl ⊢
  have hPO:c.P<O:=by omega
  have hwO:w.heap.size≤O:=by omega
  have hOs:c.P<O+1:=by omega
  clear hND hA
  refine (HC1.out wn HQ.out hp).mono ?_
  rintro r w1 ⟨hg,⟨hb1,hq,v,rfl,⟨us1,hpo⟩⟩|⟨hb1,rfl⟩⟩
  rotate_left 1
  ·exact⟨rfl,RQ.fault hb1 (HM2.out.trans HM3.out) (HG.out.tr hg)⟩
  replace HND:=hide (HND.out.rd hg hPl)
  replace hpo:=hpo.low (B':=O+1) hOl
  obtain⟨la1,lc1,rfl⟩:=own_sl hpo.own
  have HR1:=hide hpo
  replace HG:=hide (HG.out.tr hg)
  replace HQ:=hide hq
  clear hg hq hpo HC1
  go_wp2_with fail
  refine (HC2.out w1 HQ.out hb1).mono ?_
  rintro r w2 ⟨hg,⟨hb2,hq,_,rfl,rfl⟩|⟨hb2,rfl⟩⟩
  rotate_left 1
  ·exact⟨rfl,RQ.fault hb2 HM3.out (HG.out.tr hg)⟩
  replace HND:=hide (HND.out.rd hg hPl)
  replace HR1:=hide (HR1.out.rd hg hOs)
  replace HG:=hide (HG.out.tr hg)
  replace HQ:=hide hq
  clear hg hq HC2
  obtain⟨n0,n1,n2,n3,n4,n5⟩:=HND.out.cells
  have nf:=HND.out.blk.frozen 1
  unfold nm0 at n1
  simp only at n1
  clear n0 n2 n3 n4 n5
  go_wp2_with fail
  clear n1 nf
  have hgs:=Gw.set w2 O 1 (.int .i64 ((X.1:Nat):Int))
  replace HND:=hide (HND.out.setN ((X.1:Nat):Int))
  replace HR1:=hide (HR1.out.setO (k:=1) (x:=.int .i64 ((X.1:Nat):Int)))
  replace HQ:=hide (HQ.out.far hgs (fun k hk=>by omega))
  replace HG:=hide (HG.out.trans hgs (fun j hj q=>by omega))
  clear hgs
  obtain⟨w3,hw3⟩:∃W,w2.setCell ⟨O,1,none⟩ (.int .i64 ((X.1:Nat):Int))=W:=⟨_,rfl⟩
  rw[hw3]at HND HR1 HQ HG ⊢
  clear hw3
  refine (HC3.out w3 HQ.out hb2).mono ?_
  rintro r w4 ⟨hg,⟨hb3,hq,_,rfl,rfl⟩|⟨hb3,rfl⟩⟩
  rotate_left 1
  ·exact⟨rfl,RQ.fault hb3 (Mv.refl e _) (HG.out.tr hg)⟩
  replace HND:=hide (HND.out.rd hg hPl)
  replace HR1:=hide (HR1.out.rd hg hOs)
  replace HG:=hide (HG.out.tr hg)
  replace HQ:=hide hq
  clear hg hq HC3
  obtain⟨n0,n1,n2,n3,n4,n5⟩:=HND.out.cells
  unfold nm0 at n0 n1 n2 n3 n4 n5
  simp only[ndK]at n0 n1 n2 n3 n4 n5
  have HMK:=hide (qmake_any pl (by simp[nm0,ndK]) (Kids.of HND.out.ok HR1.out.pts (by omega) (by omega)) (ks:=Y.1) HR1.out.len (HR1.out.rwg (by omega)))
  go_wp2_with fail
  refine HMK.out.mono ?_
  rintro r v2 ⟨⟨t',a',rfl,hpm⟩,hb⟩
  replace HG:=hide (HG.out.blw hb)
  replace HQ:=hide (HQ.out.below hb)
  have HPM:=hide hpm
  clear hpm hb HMK n0 n1 n2 n3 n4 n5 HND HR1
  go_wp2
  go_ret
  exact RQ.ok hb3 HG.out HQ.out ⟨⟨_,_,rfl⟩,HPM.out⟩
set_option maxHeartbeats 4000000 in
set_option maxRecDepth 1000000 in
theorem dec_zone {c:PsC}{e:PsE}{f:Nat}{k pl:Nat}(hE:EOk e)(HEx:QE c e f)(hk:k=13){w:World}{p:Ps}(h:QsW w c e p.at_)(hp:p.bad<0)(hn:p.at_≤e.T.length):
 Calls Tryz.prog 140 #[.pointer (some ⟨c.P,0,none⟩),.int .i64 (k:Nat),.int .i64 (pl:Nat)] w (RQ c e w (rDec e f k pl p).2 (KP w (rDec e f k pl p).1)):=by
 have hPl:=h.blk.lt
 have HQ:=hide h
 have HG:=hide (Gw.refl (· = c.P) w)
 have HT0:=hide hn
 subst hk
 have HAL:=hide (area_len e f p)
 unfold rDec rEnd rDb
 simp (decide:=true) only[if_true,if_false]
 have HM1:=hide (mv_area e f p)
 have HT1:=hide (HM1.out.top HT0.out)
 have HC1:=hide (fun W (hW:QsW W c e p.at_) (hb:p.bad<0)=>qarea hE HEx hW hb HT0.out)
 obtain⟨Y,hY⟩:∃zz,rArea e f p=zz:=⟨_,rfl⟩
 simp only[hY]at HM1 HT1 HC1 ⊢
 simp only[hY]at HAL
 have HM2:=hide ((mv_want e Y.2 (⟨#[99,111,115,116]⟩:ByteArray)).1)
 have HT2:=hide (HM2.out.top HT1.out)
 have HC2:=hide (fun W (hW:QsW W c e Y.2.at_) (hb:Y.2.bad<0)=>qwant hE (⟨#[99,111,115,116]⟩:ByteArray) (by decide +kernel) hW hb HT1.out)
 obtain⟨Q,hQ⟩:∃zz,e.want Y.2 (⟨#[99,111,115,116]⟩:ByteArray)=zz:=⟨_,rfl⟩
 simp only[hQ]at HM2 HT2 HC2 ⊢
 have HM3:=hide ((mv_expr e f).1 1 Q)
 have HT3:=hide (HM3.out.top HT2.out)
 have HC3:=hide (fun W (hW:QsW W c e Q.at_) (hb:Q.bad<0)=>HEx W Q hW hb HT2.out)
 obtain⟨X,hX⟩:∃zz,rE e f 1 Q=zz:=⟨_,rfl⟩
 simp only[hX]at HM3 HT3 HC3 ⊢
 have HM4:=hide ((mv_want e X.2 (⟨#[59]⟩:ByteArray)).1)
 have HT4:=hide (HM4.out.top HT3.out)
 have HC4:=hide (fun W (hW:QsW W c e X.2.at_) (hb:X.2.bad<0)=>qwant hE (⟨#[59]⟩:ByteArray) (by decide +kernel) hW hb HT3.out)
 obtain⟨Z,hZ⟩:∃zz,e.want X.2 (⟨#[59]⟩:ByteArray)=zz:=⟨_,rfl⟩
 simp only[hZ]at HM4 HT4 HC4 ⊢
 clear h hn HEx hY hQ hX hZ hE
 go_enter Tryz.func140,Tryz.ntmps140
 go_wp2_with fail
 refine nd_cut ?_
 intro wn hND hA
 replace HQ:=hide (HQ.out.below hA)
 replace HG:=hide (HG.out.blw hA)
 have HND:=hide hND
 have hOl:=hND.blk.lt
 obtain⟨O,hO⟩:∃O,w.heap.size=O:=⟨_,rfl⟩
 rw[hO]at HND hOl ⊢
 have hPO:c.P<O:=by omega
 have hwO:w.heap.size≤O:=by omega
 have hOs:c.P<O+1:=by omega
 clear hND hA
 refine (HC1.out wn HQ.out hp).mono ?_
 rintro r w1 ⟨hg,⟨hb1,hq,v,rfl,⟨us1,hpo⟩⟩|⟨hb1,rfl⟩⟩
 rotate_left 1
 ·exact⟨rfl,RQ.fault hb1 ((HM2.out.trans HM3.out).trans HM4.out) (HG.out.tr hg)⟩
 have hz1:wn.heap.size≤w1.heap.size:=hg.size
 replace HND:=hide (HND.out.rd hg hPl)
 replace hpo:=hpo.low (B':=O+1) hOl
 obtain⟨la1,lc1,rfl⟩:=own_sl hpo.own
 have HR:=hide hpo
 replace HG:=hide (HG.out.tr hg)
 replace HQ:=hide hq
 clear hg hq hpo HC1
 go_wp2_with fail
 refine (HC2.out w1 HQ.out hb1).mono ?_
 rintro r w2 ⟨hg,⟨hb2,hq,_,rfl,rfl⟩|⟨hb2,rfl⟩⟩
 rotate_left 1
 ·exact⟨rfl,RQ.fault hb2 (HM3.out.trans HM4.out) (HG.out.tr hg)⟩
 have hz2:w1.heap.size≤w2.heap.size:=hg.size
 replace HND:=hide (HND.out.rd hg hPl)
 replace HR:=hide (HR.out.rd hg hOs)
 replace HG:=hide (HG.out.tr hg)
 replace HQ:=hide hq
 clear hg hq HC2
 go_wp2_with fail
 refine (HC3.out w2 HQ.out hb2).mono ?_
 rintro r w3 ⟨hg,⟨hb3,hq,v,rfl,⟨⟨t3,a3,rfl⟩,hpm⟩⟩|⟨hb3,rfl⟩⟩
 rotate_left 1
 ·exact⟨rfl,RQ.fault hb3 HM4.out (HG.out.tr hg)⟩
 have hO2:O+1≤w2.heap.size:=by have:=HND.out.blk.lt;omega
 have HPM:=hide hpm.iv
 have HOL:=hide HR.out.olt
 have hz3:w2.heap.size≤w3.heap.size:=hg.size
 replace HND:=hide (HND.out.rd hg hPl)
 have hR3:=HR.out.rd hg hOs
 replace HR:=hide hR3
 have HO3:=hide hR3.own
 replace HG:=hide (HG.out.tr hg)
 replace HQ:=hide hq
 clear hg hq hpm HC3 hR3
 have hO3:O+1≤w3.heap.size:=by have:=HND.out.blk.lt;omega
 go_wp2_with (at_builtin;refine wp_app1V rfl _ _ 96 65 rfl .nilIface 16 Tryz.underlying96 Tryz.infoPart rfl (by decide) (O+1) _ Y.1.length us1 rfl (HO3.out.alloc _) w3.heap.size 1 (.iface t3 a3) rfl (by simp) rfl ?l1 ?b1 ?_)
 case l1=>(have:=HAL.out;omega)
 case b1=>(simp;omega)
 intro v6 V6 ho6 hg6 hob6
 have hA:Below w3.heap.size w3 (w3.alloc (.cells #[.iface t3 a3] 65)):=(Below.refl _ _).alloc (Nat.le_refl _) _
 have hoA:(w3.alloc (.cells #[.iface t3 a3] 65)).ownsRow (O+1) 65 1 (.slice la1 Y.1.length lc1) Y.1.length us1:=HO3.out.alloc _
 have HR6:=hide (HR.out.app HPM.out rfl HOL.out hz2 hO2 (by omega) (by simp) hA ho6 hg6 (by rw[World.size_alloc];exact hob6))
 replace HND:=hide ((HND.out.kept hA).row0 hoA hg6)
 replace HQ:=hide ((HQ.out.below hA).row hoA hOs hg6)
 replace HG:=hide ((HG.out.blw hA).row hoA (by omega) hg6)
 obtain⟨a6,c6,rfl⟩:=own_sl ho6
 clear hA hoA ho6 hg6 hob6 HR HPM HO3
 have HR:=HR6
 clear HR6
 go_wp2_with fail
 refine (HC4.out V6 HQ.out hb3).mono ?_
 rintro r w4 ⟨hg,⟨hb4,hq,_,rfl,rfl⟩|⟨hb4,rfl⟩⟩
 rotate_left 1
 ·exact⟨rfl,RQ.fault hb4 (Mv.refl e _) (HG.out.tr hg)⟩
 have hz4:V6.heap.size≤w4.heap.size:=hg.size
 replace HND:=hide (HND.out.rd hg hPl)
 replace HR:=hide (HR.out.rd hg hOs)
 replace HG:=hide (HG.out.tr hg)
 replace HQ:=hide hq
 clear hg hq HC4
 obtain⟨n0,n1,n2,n3,n4,n5⟩:=HND.out.cells
 unfold nm0 at n0 n1 n2 n3 n4 n5
 simp only[ndK]at n0 n1 n2 n3 n4 n5
 have HMK:=hide (qmake_any pl (by simp[nm0,ndK]) (Kids.of HND.out.ok HR.out.pts (by omega) (by omega)) (ks:=Y.1++[X.1]) HR.out.len (HR.out.rwg (by omega)))
 go_wp2_with fail
 refine HMK.out.mono ?_
 rintro r v2 ⟨⟨t',a',rfl,hpm⟩,hb⟩
 replace HG:=hide (HG.out.blw hb)
 replace HQ:=hide (HQ.out.below hb)
 have HPM:=hide hpm
 clear hpm hb HMK n0 n1 n2 n3 n4 n5 HND HR
 go_wp2
 go_ret
 exact RQ.ok hb4 HG.out HQ.out ⟨⟨_,_,rfl⟩,HPM.out⟩
set_option maxHeartbeats 4000000 in
set_option maxRecDepth 1000000 in
theorem dec_tgt {c:PsC}{e:PsE}{f:Nat}{k pl:Nat}(hE:EOk e)(HEx:QE c e f)(hk:k=14∨k=15){w:World}{p:Ps}(h:QsW w c e p.at_)(hp:p.bad<0)(hn:p.at_≤e.T.length):
 Calls Tryz.prog 140 #[.pointer (some ⟨c.P,0,none⟩),.int .i64 (k:Nat),.int .i64 (pl:Nat)] w (RQ c e w (rDec e f k pl p).2 (KP w (rDec e f k pl p).1)):=by
 have hPl:=h.blk.lt
 have HQ:=hide h
 have HG:=hide (Gw.refl (· = c.P) w)
 have HT0:=hide hn
 rcases hk with rfl|rfl
 all_goals
  unfold rDec rEnd rDb
  simp (decide:=true) only[if_false]
  have HM1:=hide ((mv_expr e f).1 1 p)
  have HT1:=hide (HM1.out.top HT0.out)
  have HC1:=hide (fun W (hW:QsW W c e p.at_) (hb:p.bad<0)=>HEx W p hW hb HT0.out)
  obtain⟨X,hX⟩:∃zz,rE e f 1 p=zz:=⟨_,rfl⟩
  simp only[hX]at HM1 HT1 HC1 ⊢
  have HM2:=hide ((mv_want e X.2 (⟨#[97,116]⟩:ByteArray)).1)
  have HT2:=hide (HM2.out.top HT1.out)
  have HC2:=hide (fun W (hW:QsW W c e X.2.at_) (hb:X.2.bad<0)=>qwant hE (⟨#[97,116]⟩:ByteArray) (by decide +kernel) hW hb HT1.out)
  obtain⟨Q,hQ⟩:∃zz,e.want X.2 (⟨#[97,116]⟩:ByteArray)=zz:=⟨_,rfl⟩
  simp only[hQ]at HM2 HT2 HC2 ⊢
  have HM3:=hide (mv_cell e f Q)
  have HT3:=hide (HM3.out.top HT2.out)
  have HC3:=hide (fun W (hW:QsW W c e Q.at_) (hb:Q.bad<0)=>qcell hE HEx hW hb HT2.out)
  obtain⟨Y,hY⟩:∃zz,rCell e f Q=zz:=⟨_,rfl⟩
  have HCL:Hid ((rCell e f Q).1.length=2):=rfl
  simp only[hY]at HCL
  simp only[hY]at HM3 HT3 HC3 ⊢
  have HM4:=hide ((mv_want e Y.2 (⟨#[59]⟩:ByteArray)).1)
  have HT4:=hide (HM4.out.top HT3.out)
  have HC4:=hide (fun W (hW:QsW W c e Y.2.at_) (hb:Y.2.bad<0)=>qwant hE (⟨#[59]⟩:ByteArray) (by decide +kernel) hW hb HT3.out)
  obtain⟨Z,hZ⟩:∃zz,e.want Y.2 (⟨#[59]⟩:ByteArray)=zz:=⟨_,rfl⟩
  simp only[hZ]at HM4 HT4 HC4 ⊢
  clear h hn HEx hX hQ hY hZ hE
  go_enter Tryz.func140,Tryz.ntmps140
  go_wp2_with fail
  refine nd_cut ?_
  intro wn hND hA
  replace HQ:=hide (HQ.out.below hA)
  replace HG:=hide (HG.out.blw hA)
  have HND:=hide hND
  have hOl:=hND.blk.lt
  obtain⟨O,hO⟩:∃O,w.heap.size=O:=⟨_,rfl⟩
  rw[hO]at HND hOl ⊢
  have hPO:c.P<O:=by omega
  have hwO:w.heap.size≤O:=by omega
  have hOs:c.P<O+1:=by omega
  clear hND hA
  refine (HC1.out wn HQ.out hp).mono ?_
  rintro r w1 ⟨hg,⟨hb1,hq,v,rfl,⟨⟨t1,a1,rfl⟩,hpm⟩⟩|⟨hb1,rfl⟩⟩
  rotate_left 1
  ·exact⟨rfl,RQ.fault hb1 ((HM2.out.trans HM3.out).trans HM4.out) (HG.out.tr hg)⟩
  replace HND:=hide (HND.out.rd hg hPl)
  have hO1:O+1≤w1.heap.size:=by have:=HND.out.blk.lt;omega
  have HR:=hide (PO.lit (V:=w1) (B:=O+1) (ks:=[X.1]) (us:=[.iface t1 a1]) rfl (by simp) (fun u hu=>by rw[List.mem_singleton.1 hu];rfl) hO1 ((Pts.one hpm.iv).low hOl))
  have hA:Below w1.heap.size w1 (w1.alloc (.cells #[.iface t1 a1] 65)):=(Below.refl _ _).alloc (Nat.le_refl _) _
  replace HND:=hide (HND.out.kept hA)
  replace HG:=hide ((HG.out.tr hg).blw hA)
  replace HQ:=hide (hq.below hA)
  clear hg hq hpm HC1 hA
  go_wp2_with fail
  have HR':Hid (PO (w1.alloc (.cells #[.iface t1 a1] 65)) (O+1) w1.heap.size (.slice (some ⟨w1.heap.size,0,none⟩) 1 1) [X.1] [.iface t1 a1]):=HR.out
  obtain⟨W1,hW1⟩:∃W,w1.alloc (.cells #[.iface t1 a1] 65)=W:=⟨_,rfl⟩
  have hz1:w1.heap.size≤W1.heap.size:=by rw[← hW1];simp
  rw[hW1]at HND HG HQ HR' ⊢
  clear HR hW1 hO1
  have HR:=HR'
  clear HR'
  refine (HC2.out W1 HQ.out hb1).mono ?_
  rintro r w2 ⟨hg,⟨hb2,hq,_,rfl,rfl⟩|⟨hb2,rfl⟩⟩
  rotate_left 1
  ·exact⟨rfl,RQ.fault hb2 (HM3.out.trans HM4.out) (HG.out.tr hg)⟩
  have hz2:W1.heap.size≤w2.heap.size:=hg.size
  replace HND:=hide (HND.out.rd hg hPl)
  replace HR:=hide (HR.out.rd hg hOs)
  replace HG:=hide (HG.out.tr hg)
  replace HQ:=hide hq
  clear hg hq HC2
  go_wp2_with fail
  refine (HC3.out w2 HQ.out hb2).mono ?_
  rintro r w3 ⟨hg,⟨hb3,hq,v,rfl,⟨us3,hpo⟩⟩|⟨hb3,rfl⟩⟩
  rotate_left 1
  ·exact⟨rfl,RQ.fault hb3 HM4.out (HG.out.tr hg)⟩
  have hO2:O+1≤w2.heap.size:=by have:=HND.out.blk.lt;omega
  obtain⟨ya,yg,yc,hyv,hy1,hy2⟩:=RwG.of_own (G:=fun _=>True) hpo.own (fun _ _=>trivial)
  have hyl:=hpo.len
  rw[HCL.out]at hy1 hy2 hyv hyl
  obtain⟨rfl,_⟩:=hy1 (by omega)
  subst hyv
  have HCS:=hide (hy2 (by omega))
  have HY1:=hide hpo.one
  have HPY:=hide hpo.pts
  have HOL:=hide HR.out.olt
  have hz3:w2.heap.size≤w3.heap.size:=hg.size
  replace HND:=hide (HND.out.rd hg hPl)
  have hR3:=HR.out.rd hg hOs
  replace HR:=hide hR3
  have HO3:=hide hR3.own
  replace HG:=hide (HG.out.tr hg)
  replace HQ:=hide hq
  clear hg hq hpo HC3 hR3 hy1 hy2
  have hO3:O+1≤w3.heap.size:=by have:=HND.out.blk.lt;omega
  go_wp2_with (at_builtin;refine wp_appsV rfl _ _ 96 65 rfl .nilIface 16 Tryz.underlying96 Tryz.infoPart rfl (by decide) (O+1) _ 1 _ rfl HO3.out yg yc 2 us3 rfl hyl HCS.out HY1.out (by omega) hO3 ?_)
  intro v6 V6 ho6 hg6 hob6
  have HR6:=hide (HR.out.apps (xs:=Y.1) (by rw[HCL.out];exact hyl) HY1.out HPY.out HOL.out (by omega) hO2 (by omega) (Nat.le_refl _) (Below.refl _ _) (by rw[HCL.out];exact ho6) hg6 hob6)
  replace HND:=hide (HND.out.row0 HO3.out hg6)
  replace HQ:=hide (HQ.out.row HO3.out hOs hg6)
  replace HG:=hide (HG.out.row HO3.out (by omega) hg6)
  obtain⟨a6,c6,rfl⟩:=own_sl ho6
  clear ho6 hg6 hob6 HR HO3 HCS HY1 HPY HOL
  have HR:=HR6
  clear HR6
  go_wp2_with fail
  refine (HC4.out V6 HQ.out hb3).mono ?_
  rintro r w4 ⟨hg,⟨hb4,hq,_,rfl,rfl⟩|⟨hb4,rfl⟩⟩
  rotate_left 1
  ·exact⟨rfl,RQ.fault hb4 (Mv.refl e _) (HG.out.tr hg)⟩
  have hz4:V6.heap.size≤w4.heap.size:=hg.size
  replace HND:=hide (HND.out.rd hg hPl)
  replace HR:=hide (HR.out.rd hg hOs)
  replace HG:=hide (HG.out.tr hg)
  replace HQ:=hide hq
  clear hg hq HC4
  obtain⟨n0,n1,n2,n3,n4,n5⟩:=HND.out.cells
  unfold nm0 at n0 n1 n2 n3 n4 n5
  simp only[ndK]at n0 n1 n2 n3 n4 n5
  have HMK:=hide (qmake_any pl (by simp[nm0,ndK]) (Kids.of HND.out.ok HR.out.pts (by omega) (by omega)) (ks:=[X.1]++Y.1) HR.out.len (HR.out.rwg (by omega)))
  go_wp2_with fail
  refine HMK.out.mono ?_
  rintro r v2 ⟨⟨t',a',rfl,hpm⟩,hb⟩
  replace HG:=hide (HG.out.blw hb)
  replace HQ:=hide (HQ.out.below hb)
  have HPM:=hide hpm
  clear hpm hb HMK n0 n1 n2 n3 n4 n5 HND HR
  go_wp2
  go_ret
  exact RQ.ok hb4 HG.out HQ.out ⟨⟨_,_,rfl⟩,HPM.out⟩
theorem qdecl {c:PsC}{e:PsE}{f:Nat}{k pl:Nat}(hE:EOk e)(HEx:QE c e f)(h7:7≤k)(h15:k≤15){w:World}{p:Ps}(h:QsW w c e p.at_)(hp:p.bad<0)(hn:p.at_≤e.T.length):
 Calls Tryz.prog 140 #[.pointer (some ⟨c.P,0,none⟩),.int .i64 (k:Nat),.int .i64 (pl:Nat)] w (RQ c e w (rDec e f k pl p).2 (KP w (rDec e f k pl p).1)):=by
 have q:k=7∨(k=8∨k=9)∨k=10∨(k=11∨k=12)∨k=13∨(k=14∨k=15):=by omega
 rcases q with q|q|q|q|q|q
 ·exact dec_grid hE HEx q h hp hn
 ·exact dec_area hE HEx q h hp hn
 ·exact dec_lane hE HEx q h hp hn
 ·exact dec_gate hE HEx q h hp hn
 ·exact dec_zone hE HEx q h hp hn
 ·exact dec_tgt hE HEx q h hp hn
end Go.Proofs.YtbiakdjpeblclaaGreatDoor
