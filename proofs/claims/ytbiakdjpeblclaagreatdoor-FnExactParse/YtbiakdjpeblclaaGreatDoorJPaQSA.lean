/-
  The program's own reader of trees, on: call, block.
-/
import Derived.Test.YtbiakdjpeblclaaGreatDoorJPaQMC
import Derived.Test.YtbiakdjpeblclaaGreatDoorJPaQMU
namespace Go.Proofs.YtbiakdjpeblclaaGreatDoor
open Go.RowKit
theorem RQ.sm {c:PsC}{e:PsE}{w w':World}{r:List Pt × Ps}{A:List Pt}{z:Ps}{x:Ending}(hs:Sm r A z)(h:RQ c e w r.2 (KL w r.1) x w'):RQ c e w z (KL w A) x w':=by
 by_cases hz:z.bad<0
 ·rw[hs.1 hz]at h;exact h
 ·have hb:=hs.2 (by omega)
  refine⟨h.1,.inr ⟨by omega,?_⟩⟩
  rcases h.2 with q|q
  ·have:=q.1;omega
  ·rw[q.2,hb]
def rAr (e:PsE)(f:Nat)(p:Ps):List Pt × Ps:=((rArgs e f e.T.length [] p).1,e.want (rArgs e f e.T.length [] p).2 (⟨#[41]⟩:ByteArray))
theorem mv_ar (e:PsE)(f:Nat)(p:Ps):Mv e p (rAr e f p).2:=(mv_args e f _ _ _).trans (mv_want _ _ _).1
theorem want_long (e:PsE)(z:Ps)(b:Bool)(s:ByteArray):e.want { z with long:=b } s = { e.want z s with long:=b }:=by
 unfold PsE.want
 have:e.is { z with long:=b } s=e.is z s:=rfl
 rw[this]
 split
 ·rfl
 ·unfold PsE.wrong
  simp only
  split
  ·rfl
  ·rfl
theorem ent_expr (args:Array Value)(W:World):(callFunc 150 args).run Tryz.prog W = .ok (.enter 150 args) W:=enters_of Tryz.func150 (by kernel_rfl) rfl args W
theorem ent_stat (args:Array Value)(W:World):(callFunc 87 args).run Tryz.prog W = .ok (.enter 87 args) W:=enters_of Tryz.func87 (by kernel_rfl) rfl args W
theorem qargs {c:PsC}{e:PsE}{f:Nat}(hE:EOk e)(HEx:QE c e f)(hf:2≤f){w:World}{p:Ps}(h:QsW w c e p.at_)(hp:p.bad<0)(hn:p.at_≤e.T.length)(h1:1≤p.at_):
 Calls Tryz.prog 54 #[.pointer (some ⟨c.P,0,none⟩),.string (⟨#[44]⟩:ByteArray),.string (⟨#[41]⟩:ByteArray),.func (.func 150) #[.pointer (some ⟨c.P,0,none⟩)] #[]] w (RQ c e w (rAr e f p).2 (KL w (rAr e f p).1)):=by
 obtain⟨g,rfl⟩:∃g,f=g+2:=⟨f - 2,by omega⟩
 refine (qlist_any (d:=e.T.length+1) (n0:=0) (st:=rE e (g+2) 1) hE (.inr (by decide +kernel)) ent_expr (fun V p h hp hn _=>HEx V p h hp hn) (fun p=>(mv_expr e (g+2)).1 1 p) (fun p=>pg_expr e g 1 p) h hp hn (Nat.zero_le _) (by omega)).mono ?_
 intro r w' hr
 exact RQ.sm (rL_args hE g _ _ p hp hn (by omega) (by omega)) hr
def QSt (c:PsC)(e:PsE)(f m:Nat):Prop:=∀w p,QsW w c e p.at_→p.bad<0→p.at_≤e.T.length→lft e p+1≤m→Calls Tryz.prog 87 #[.pointer (some ⟨c.P,0,none⟩)] w (RQ c e w (rS e f m p).2 (KP w (rS e f m p).1))
def rBk (e:PsE)(f m:Nat)(p:Ps):List Pt × Ps:=((rMany e (rS e f m) e.T.length [] p).1,e.want (rMany e (rS e f m) e.T.length [] p).2 (⟨#[125]⟩:ByteArray))
theorem mv_bk (e:PsE)(f m:Nat)(p:Ps):Mv e p (rBk e f m p).2:=(mv_many e (mv_stat e f m) _ _ _).trans (mv_want _ _ _).1
theorem qmany {c:PsC}{e:PsE}{f m:Nat}(hE:EOk e)(HS:QSt c e f (m+1)){w:World}{p:Ps}(h:QsW w c e p.at_)(hp:p.bad<0)(hn:p.at_≤e.T.length)(h1:1≤p.at_)(hm:lft e p≤m):
 Calls Tryz.prog 54 #[.pointer (some ⟨c.P,0,none⟩),.string (⟨#[]⟩:ByteArray),.string (⟨#[125]⟩:ByteArray),.func (.func 87) #[.pointer (some ⟨c.P,0,none⟩)] #[]] w (RQ c e w (rBk e f (m+1) p).2 (KL w (rBk e f (m+1) p).1)):=by
 refine (qlist_any (d:=e.T.length+1) (n0:=p.at_) (st:=rS e f (m+1)) hE (.inl rfl) ent_stat (fun V q h hp hn hq=>HS V q h hp hn (by unfold lft at hm ⊢;omega)) (fun p=>mv_stat e f (m+1) p) (fun p=>pg_stat e f m p) h hp hn (Nat.le_refl _) (by omega)).mono ?_
 intro r w' hr
 exact RQ.sm (rL_many hE (mv_stat e f (m+1)) (pg_stat e f m) _ _ [] p hp hn (by omega) (by omega)) hr
set_option maxHeartbeats 4000000 in
set_option maxRecDepth 1000000 in
theorem qcall {c:PsC}{e:PsE}{f:Nat}{pl:Nat}(hE:EOk e)(HEx:QE c e f)(hf:2≤f){w:World}{p:Ps}(h:QsW w c e p.at_)(hp:p.bad<0)(hn:p.at_≤e.T.length)(hp1:1≤p.at_):
 Calls Tryz.prog 137 #[.pointer (some ⟨c.P,0,none⟩),.int .i64 (pl:Nat)] w (RQ c e w (rCall e f pl p).2 (KP w (rCall e f pl p).1)):=by
 have hPl:=h.blk.lt
 have HQ:=hide h
 have HG:=hide (Gw.refl (· = c.P) w)
 have HT0:=hide hn
 have hmf:∀(fn:Fn) (first cap:Array Value) (w:World),(Instr.makeFunc fn first cap).run Tryz.prog w = .ok (.func fn first cap) w:=fun _ _ _ _=>rfl
 obtain⟨LG,hLG⟩:∃L,rCall e f pl p=(ptN { ndK 4 with names:=[(e.ident p).1] } pl (rAr e f (e.want (e.ident p).2 (⟨#[40]⟩:ByteArray))).1,{ e.want (rAr e f (e.want (e.ident p).2 (⟨#[40]⟩:ByteArray))).2 (⟨#[59]⟩:ByteArray) with long:=L }):=by
  unfold rCall rEnd rAr
  simp only[want_long]
  exact⟨_,rfl⟩
 rw[hLG]
 simp only
 have HM1:=hide ((mv_ident e p).1)
 have HT1:=hide (HM1.out.top HT0.out)
 have HC1:=hide (fun W (hW:QsW W c e p.at_) (hb:p.bad<0)=>qname (p:=p) hW hb)
 obtain⟨I,hI⟩:∃zz,e.ident p=zz:=⟨_,rfl⟩
 simp only[hI]at HM1 HT1 HC1 ⊢
 have HM2:=hide ((mv_want e I.2 (⟨#[40]⟩:ByteArray)).1)
 have HT2:=hide (HM2.out.top HT1.out)
 have HC2:=hide (fun W (hW:QsW W c e I.2.at_) (hb:I.2.bad<0)=>qwant hE (⟨#[40]⟩:ByteArray) (by decide +kernel) hW hb HT1.out)
 obtain⟨Q,hQ⟩:∃zz,e.want I.2 (⟨#[40]⟩:ByteArray)=zz:=⟨_,rfl⟩
 simp only[hQ]at HM2 HT2 HC2 ⊢
 have HM3:=hide (mv_ar e f Q)
 have HT3:=hide (HM3.out.top HT2.out)
 have HC3:=hide (fun W (hW:QsW W c e Q.at_) (hb:Q.bad<0)=>qargs hE HEx hf hW hb HT2.out (Nat.le_trans hp1 (HM1.out.trans HM2.out).le))
 obtain⟨Y,hY⟩:∃zz,rAr e f Q=zz:=⟨_,rfl⟩
 simp only[hY]at HM3 HT3 HC3 ⊢
 have HM4:=hide ((mv_want e Y.2 (⟨#[59]⟩:ByteArray)).1)
 have HT4:=hide (HM4.out.top HT3.out)
 have HC4:=hide (fun W (hW:QsW W c e Y.2.at_) (hb:Y.2.bad<0)=>qwant hE (⟨#[59]⟩:ByteArray) (by decide +kernel) hW hb HT3.out)
 obtain⟨Z,hZ⟩:∃zz,e.want Y.2 (⟨#[59]⟩:ByteArray)=zz:=⟨_,rfl⟩
 simp only[hZ]at HM4 HT4 HC4 ⊢
 clear h hn HEx hI hQ hY hZ hE hLG hf
 go_enter Tryz.func137,Tryz.ntmps137
 go_wp2_with fail
 refine (HC1.out w HQ.out hp).mono ?_
 rintro r w1 ⟨hg,⟨hb1,hq,v,rfl,hv,hvs⟩|⟨hb1,rfl⟩⟩
 rotate_left 1
 ·exact⟨rfl,RQ.fault hb1 (mv_long _ ((HM2.out.trans HM3.out).trans HM4.out)) (HG.out.tr hg)⟩
 have hz1:w.heap.size≤w1.heap.size:=hg.size
 obtain⟨va,vc,rfl⟩:=hv.slc
 replace hv:=hide (hv.mono (fun g hg _=>Nat.le_trans HG.out.size hg))
 replace HG:=hide (HG.out.tr hg)
 replace HQ:=hide hq
 clear hg hq HC1
 have hND:=NdA.name (w:=w) (k:=4) HG.out.size hv.out hvs
 have hA:Below w1.heap.size w1 ((w1.alloc (.cells #[.slice va I.1.size vc] 22)).alloc (.cells #[.int .i64 4,.int .i64 0,.slice none 0 0,.slice (some ⟨w1.heap.size,0,none⟩) 1 1,.slice none 0 0,.int .i64 0] 51)):=((Below.refl _ _).alloc (Nat.le_refl _) _).alloc (by simp) _
 clear hv
 go_wp2_with fail
 obtain⟨wn,hwn⟩:∃W,(w1.alloc (.cells #[.slice va I.1.size vc] 22)).alloc (.cells #[.int .i64 4,.int .i64 0,.slice none 0 0,.slice (some ⟨w1.heap.size,0,none⟩) 1 1,.slice none 0 0,.int .i64 0] 51)=W:=⟨_,rfl⟩
 obtain⟨O,hO⟩:∃O,w1.heap.size+1=O:=⟨_,rfl⟩
 rw[hwn]at hND hA ⊢
 rw[hO]at hND ⊢
 have HND:=hide hND
 replace HQ:=hide (HQ.out.below hA)
 replace HG:=hide (HG.out.blw hA)
 have hPO:c.P<O:=Nat.lt_of_lt_of_le hPl HND.out.lo
 clear hND hA hwn hO
 refine (HC2.out wn HQ.out hb1).mono ?_
 rintro r w2 ⟨hg,⟨hb2,hq,_,rfl,rfl⟩|⟨hb2,rfl⟩⟩
 rotate_left 1
 ·exact⟨rfl,RQ.fault hb2 (mv_long _ (HM3.out.trans HM4.out)) (HG.out.tr hg)⟩
 have hz2:wn.heap.size≤w2.heap.size:=hg.size
 replace HND:=hide (HND.out.rd hg hPl)
 replace HG:=hide (HG.out.tr hg)
 replace HQ:=hide hq
 clear hg hq HC2
 go_wp2_with fail
 refine (HC3.out w2 HQ.out hb2).mono ?_
 rintro r w3 ⟨hg,⟨hb3,hq,v,rfl,⟨us3,hpo⟩⟩|⟨hb3,rfl⟩⟩
 rotate_left 1
 ·exact⟨rfl,RQ.fault hb3 (mv_long _ HM4.out) (HG.out.tr hg)⟩
 have hz3:w2.heap.size≤w3.heap.size:=hg.size
 have hlo3:O≤w2.heap.size:=Nat.le_of_lt HND.out.blk.lt
 replace HND:=hide (HND.out.rd hg hPl)
 have hB3:c.P<w2.heap.size:=Nat.lt_of_lt_of_le hPl HG.out.size
 obtain⟨la3,lc3,rfl⟩:=own_sl hpo.own
 have HR3:=hide hpo
 clear hpo
 replace HG:=hide (HG.out.tr hg)
 replace HQ:=hide hq
 clear hg hq HC3
 go_wp2_with fail
 refine (HC4.out w3 HQ.out hb3).mono ?_
 rintro r w4 ⟨hg,⟨hb4,hq,_,rfl,rfl⟩|⟨hb4,rfl⟩⟩
 rotate_left 1
 ·exact⟨rfl,RQ.fault hb4 (mv_long _ (Mv.refl e _)) (HG.out.tr hg)⟩
 have hz4:w3.heap.size≤w4.heap.size:=hg.size
 replace HND:=hide (HND.out.rd hg hPl)
 replace HR3:=hide (HR3.out.rd hg hB3)
 replace HG:=hide (HG.out.tr hg)
 replace HQ:=hide hq
 clear hg hq HC4
 obtain⟨n0,n1,n2,n3,n4,n5⟩:=HND.out.cells
 unfold nm1 at n0 n1 n2 n3 n4 n5
 simp only at n0 n1 n2 n3 n4 n5
 have HMK:=hide (qmake_any pl (show (0:Int)≤4∧(4:Int)≤22 by decide) (Kids.of HND.out.ok HR3.out.pts hlo3 (Nat.le_trans HND.out.lo hlo3)) (ks:=Y.1) HR3.out.len (HR3.out.rwg (Nat.le_trans HND.out.lo hlo3)))
 go_wp2_with fail
 refine HMK.out.mono ?_
 rintro r v2 ⟨⟨t',a',rfl,hpm⟩,hb⟩
 replace HG:=hide (HG.out.blw hb)
 replace HQ:=hide (HQ.out.below hb)
 have HPM:=hide hpm
 clear hpm hb HMK n0 n1 n2 n3 n4 n5 HND HR3
 go_wp2
 go_ret
 exact RQ.ok (q:={ Z with long:=LG }) hb4 HG.out HQ.out ⟨⟨_,_,rfl⟩,HPM.out⟩
set_option maxHeartbeats 4000000 in
set_option maxRecDepth 1000000 in
theorem qblock {c:PsC}{e:PsE}{f:Nat}{m:Nat}(hE:EOk e)(HS:QSt c e f (m+1)){w:World}{p:Ps}(h:QsW w c e p.at_)(hp:p.bad<0)(hn:p.at_≤e.T.length)(hm:lft e p≤m+1):
 Calls Tryz.prog 119 #[.pointer (some ⟨c.P,0,none⟩)] w (RQ c e w (rBlock e e.T.length (rS e f (m+1)) p).2 (KP w (rBlock e e.T.length (rS e f (m+1)) p).1)):=by
 have hPl:=h.blk.lt
 have HQ:=hide h
 have HG:=hide (Gw.refl (· = c.P) w)
 have HT0:=hide hn
 have hmf:∀(fn:Fn) (first cap:Array Value) (w:World),(Instr.makeFunc fn first cap).run Tryz.prog w = .ok (.func fn first cap) w:=fun _ _ _ _=>rfl
 have hRB:rBlock e e.T.length (rS e f (m+1)) p=(ptN (ndK 2) (e.place p) (rBk e f (m+1) (e.want p (⟨#[123]⟩:ByteArray))).1,(rBk e f (m+1) (e.want p (⟨#[123]⟩:ByteArray))).2):=rfl
 rw[hRB]
 simp only
 have HPL:=hide (qplace_any h)
 have hpe:e.place ⟨p.at_, -1,false⟩=e.place p:=rfl
 rw[hpe]at HPL
 obtain⟨L0,hL0⟩:∃Z,e.place p=Z:=⟨_,rfl⟩
 rw[hL0]at HPL ⊢
 have HPG:=hide (mv_want e p (⟨#[123]⟩:ByteArray)).2
 have HM1:=hide ((mv_want e p (⟨#[123]⟩:ByteArray)).1)
 have HT1:=hide (HM1.out.top HT0.out)
 have HC1:=hide (fun W (hW:QsW W c e p.at_) (hb:p.bad<0)=>qwant hE (⟨#[123]⟩:ByteArray) (by decide +kernel) hW hb HT0.out)
 obtain⟨Q,hQ⟩:∃zz,e.want p (⟨#[123]⟩:ByteArray)=zz:=⟨_,rfl⟩
 simp only[hQ]at HM1 HT1 HC1 ⊢
 simp only[hQ]at HPG
 have HM2:=hide (mv_bk e f (m+1) Q)
 have HT2:=hide (HM2.out.top HT1.out)
 have HC2:=hide (fun W (hW:QsW W c e Q.at_) (hb:Q.bad<0)=>qmany hE HS hW hb HT1.out (by have:=HPG.out;unfold Pg at this;omega) (by have:=HPG.out;unfold Pg at this;unfold lft at hm ⊢;omega))
 obtain⟨Y,hY⟩:∃zz,rBk e f (m+1) Q=zz:=⟨_,rfl⟩
 simp only[hY]at HM2 HT2 HC2 ⊢
 clear h hn hpe hL0 hQ hY hE hRB hm HS
 go_enter Tryz.func119,Tryz.ntmps119
 go_wp2_with fail
 refine HPL.out.mono ?_
 rintro r wp ⟨rfl,hb⟩
 replace HG:=hide (HG.out.blw hb)
 replace HQ:=hide (HQ.out.below hb)
 clear hb HPL
 go_wp2_with fail
 refine (HC1.out wp HQ.out hp).mono ?_
 rintro r w1 ⟨hg,⟨hb1,hq,_,rfl,rfl⟩|⟨hb1,rfl⟩⟩
 rotate_left 1
 ·exact⟨rfl,RQ.fault hb1 HM2.out (HG.out.tr hg)⟩
 have hz1:wp.heap.size≤w1.heap.size:=hg.size
 replace HG:=hide (HG.out.tr hg)
 replace HQ:=hide hq
 clear hg hq HC1
 go_wp2_with fail
 refine (HC2.out w1 HQ.out hb1).mono ?_
 rintro r w2 ⟨hg,⟨hb2,hq,v,rfl,⟨us2,hpo⟩⟩|⟨hb2,rfl⟩⟩
 rotate_left 1
 ·exact⟨rfl,RQ.fault hb2 (Mv.refl e _) (HG.out.tr hg)⟩
 have hz2:w1.heap.size≤w2.heap.size:=hg.size
 have hlo2:w.heap.size≤w1.heap.size:=HG.out.size
 have hB2:c.P<w1.heap.size:=Nat.lt_of_lt_of_le hPl HG.out.size
 obtain⟨la2,lc2,rfl⟩:=own_sl hpo.own
 have HR2:=hide hpo
 clear hpo
 replace HG:=hide (HG.out.tr hg)
 replace HQ:=hide hq
 clear hg hq HC2
 have HMK:=hide (qmake_any L0 (show (0:Int)≤2∧(2:Int)≤22 by decide) (Kids.plain (k:=2) (n:=0) (HR2.out.pts.low hlo2)) (ks:=Y.1) HR2.out.len (HR2.out.rwg hlo2))
 go_wp2_with fail
 refine HMK.out.mono ?_
 rintro r v2 ⟨⟨t',a',rfl,hpm⟩,hb⟩
 replace HG:=hide (HG.out.blw hb)
 replace HQ:=hide (HQ.out.below hb)
 have HPM:=hide hpm
 clear hpm hb HMK HR2
 go_wp2
 go_ret
 exact RQ.ok hb2 HG.out HQ.out ⟨⟨_,_,rfl⟩,HPM.out⟩
def QBl (c:PsC)(e:PsE)(blk:Ps→Pt × Ps)(n0:Nat):Prop:=∀w p,QsW w c e p.at_→p.bad<0→p.at_≤e.T.length→n0≤p.at_→Calls Tryz.prog 119 #[.pointer (some ⟨c.P,0,none⟩)] w (RQ c e w (blk p).2 (KP w (blk p).1))
set_option maxHeartbeats 4000000 in
set_option maxRecDepth 1000000 in
theorem qloop {c:PsC}{e:PsE}{f:Nat}{pl n0:Nat}{blk:Ps→Pt × Ps}(hE:EOk e)(HEx:QE c e f)(HB:QBl c e blk n0)(HMB:∀p,Mv e p (blk p).2){w:World}{p:Ps}(h:QsW w c e p.at_)(hp:p.bad<0)(hn:p.at_≤e.T.length)(hn0:n0≤p.at_):
 Calls Tryz.prog 138 #[.pointer (some ⟨c.P,0,none⟩),.int .i64 (pl:Nat)] w (RQ c e w (rFor e f blk pl p).2 (KP w (rFor e f blk pl p).1)):=by
 have hPl:=h.blk.lt
 have HQ:=hide h
 have HG:=hide (Gw.refl (· = c.P) w)
 have HT0:=hide hn
 unfold rFor
 simp only
 have HM1:=hide ((mv_ident e p).1)
 have HT1:=hide (HM1.out.top HT0.out)
 have HC1:=hide (fun W (hW:QsW W c e p.at_) (hb:p.bad<0)=>qname (p:=p) hW hb)
 obtain⟨I,hI⟩:∃zz,e.ident p=zz:=⟨_,rfl⟩
 simp only[hI]at HM1 HT1 HC1 ⊢
 have HM2:=hide ((mv_want e I.2 (⟨#[61]⟩:ByteArray)).1)
 have HT2:=hide (HM2.out.top HT1.out)
 have HC2:=hide (fun W (hW:QsW W c e I.2.at_) (hb:I.2.bad<0)=>qwant hE (⟨#[61]⟩:ByteArray) (by decide +kernel) hW hb HT1.out)
 obtain⟨Q,hQ⟩:∃zz,e.want I.2 (⟨#[61]⟩:ByteArray)=zz:=⟨_,rfl⟩
 simp only[hQ]at HM2 HT2 HC2 ⊢
 have HM3:=hide ((mv_expr e f).1 1 Q)
 have HT3:=hide (HM3.out.top HT2.out)
 have HC3:=hide (fun W (hW:QsW W c e Q.at_) (hb:Q.bad<0)=>HEx W Q hW hb HT2.out)
 obtain⟨Y,hY⟩:∃zz,rE e f 1 Q=zz:=⟨_,rfl⟩
 simp only[hY]at HM3 HT3 HC3 ⊢
 have HM4:=hide ((mv_want e Y.2 (⟨#[116,111]⟩:ByteArray)).1)
 have HT4:=hide (HM4.out.top HT3.out)
 have HC4:=hide (fun W (hW:QsW W c e Y.2.at_) (hb:Y.2.bad<0)=>qwant hE (⟨#[116,111]⟩:ByteArray) (by decide +kernel) hW hb HT3.out)
 obtain⟨Z,hZ⟩:∃zz,e.want Y.2 (⟨#[116,111]⟩:ByteArray)=zz:=⟨_,rfl⟩
 simp only[hZ]at HM4 HT4 HC4 ⊢
 have HM5:=hide ((mv_expr e f).1 1 Z)
 have HT5:=hide (HM5.out.top HT4.out)
 have HC5:=hide (fun W (hW:QsW W c e Z.at_) (hb:Z.bad<0)=>HEx W Z hW hb HT4.out)
 obtain⟨X,hX⟩:∃zz,rE e f 1 Z=zz:=⟨_,rfl⟩
 simp only[hX]at HM5 HT5 HC5 ⊢
 have HM6:=hide (HMB X.2)
 have HT6:=hide (HM6.out.top HT5.out)
 have HC6:=hide (fun W (hW:QsW W c e X.2.at_) (hb:X.2.bad<0)=>HB W X.2 hW hb HT5.out (Nat.le_trans hn0 ((((HM1.out.trans HM2.out).trans HM3.out).trans HM4.out).trans HM5.out).le))
 obtain⟨U,hU⟩:∃zz,blk X.2=zz:=⟨_,rfl⟩
 simp only[hU]at HM6 HT6 HC6 ⊢
 clear h hn HEx hI hQ hY hZ hX hU hE HB HMB
 go_enter Tryz.func138,Tryz.ntmps138
 go_wp2_with fail
 refine (HC1.out w HQ.out hp).mono ?_
 rintro r w1 ⟨hg,⟨hb1,hq,v,rfl,hv,hvs⟩|⟨hb1,rfl⟩⟩
 rotate_left 1
 ·exact⟨rfl,RQ.fault hb1 ((((HM2.out.trans HM3.out).trans HM4.out).trans HM5.out).trans HM6.out) (HG.out.tr hg)⟩
 have hz1:w.heap.size≤w1.heap.size:=hg.size
 obtain⟨va,vc,rfl⟩:=hv.slc
 replace hv:=hide (hv.mono (fun g hg _=>Nat.le_trans HG.out.size hg))
 replace HG:=hide (HG.out.tr hg)
 replace HQ:=hide hq
 clear hg hq HC1
 have hND:=NdA.name (w:=w) (k:=5) HG.out.size hv.out hvs
 have hA:Below w1.heap.size w1 ((w1.alloc (.cells #[.slice va I.1.size vc] 22)).alloc (.cells #[.int .i64 5,.int .i64 0,.slice none 0 0,.slice (some ⟨w1.heap.size,0,none⟩) 1 1,.slice none 0 0,.int .i64 0] 51)):=((Below.refl _ _).alloc (Nat.le_refl _) _).alloc (by simp) _
 clear hv
 go_wp2_with fail
 obtain⟨wn,hwn⟩:∃W,(w1.alloc (.cells #[.slice va I.1.size vc] 22)).alloc (.cells #[.int .i64 5,.int .i64 0,.slice none 0 0,.slice (some ⟨w1.heap.size,0,none⟩) 1 1,.slice none 0 0,.int .i64 0] 51)=W:=⟨_,rfl⟩
 obtain⟨O,hO⟩:∃O,w1.heap.size+1=O:=⟨_,rfl⟩
 rw[hwn]at hND hA ⊢
 rw[hO]at hND ⊢
 have HND:=hide hND
 replace HQ:=hide (HQ.out.below hA)
 replace HG:=hide (HG.out.blw hA)
 have hPO:c.P<O:=Nat.lt_of_lt_of_le hPl HND.out.lo
 clear hND hA hwn hO
 refine (HC2.out wn HQ.out hb1).mono ?_
 rintro r w2 ⟨hg,⟨hb2,hq,_,rfl,rfl⟩|⟨hb2,rfl⟩⟩
 rotate_left 1
 ·exact⟨rfl,RQ.fault hb2 (((HM3.out.trans HM4.out).trans HM5.out).trans HM6.out) (HG.out.tr hg)⟩
 have hz2:wn.heap.size≤w2.heap.size:=hg.size
 replace HND:=hide (HND.out.rd hg hPl)
 replace HG:=hide (HG.out.tr hg)
 replace HQ:=hide hq
 clear hg hq HC2
 go_wp2_with fail
 refine (HC3.out w2 HQ.out hb2).mono ?_
 rintro r w3 ⟨hg,⟨hb3,hq,v,rfl,⟨⟨t3,a3,rfl⟩,hpm⟩⟩|⟨hb3,rfl⟩⟩
 rotate_left 1
 ·exact⟨rfl,RQ.fault hb3 ((HM4.out.trans HM5.out).trans HM6.out) (HG.out.tr hg)⟩
 have hz3:w2.heap.size≤w3.heap.size:=hg.size
 have hlo3:O≤w2.heap.size:=Nat.le_of_lt HND.out.blk.lt
 replace HND:=hide (HND.out.rd hg hPl)
 have HP3:Hid (PmI O w3 w2.heap.size w3.heap.size Y.1 (.iface t3 a3)):=⟨hlo3,hpm.iv⟩
 clear hpm hlo3
 replace HG:=hide (HG.out.tr hg)
 replace HQ:=hide hq
 clear hg hq HC3
 go_wp2_with fail
 refine (HC4.out w3 HQ.out hb3).mono ?_
 rintro r w4 ⟨hg,⟨hb4,hq,_,rfl,rfl⟩|⟨hb4,rfl⟩⟩
 rotate_left 1
 ·exact⟨rfl,RQ.fault hb4 (HM5.out.trans HM6.out) (HG.out.tr hg)⟩
 have hz4:w3.heap.size≤w4.heap.size:=hg.size
 replace HND:=hide (HND.out.rd hg hPl)
 replace HP3:=hide (HP3.out.rd hg hPO)
 replace HG:=hide (HG.out.tr hg)
 replace HQ:=hide hq
 clear hg hq HC4
 go_wp2_with fail
 refine (HC5.out w4 HQ.out hb4).mono ?_
 rintro r w5 ⟨hg,⟨hb5,hq,v,rfl,⟨⟨t5,a5,rfl⟩,hpm⟩⟩|⟨hb5,rfl⟩⟩
 rotate_left 1
 ·exact⟨rfl,RQ.fault hb5 HM6.out (HG.out.tr hg)⟩
 have hz5:w4.heap.size≤w5.heap.size:=hg.size
 have hlo5:O≤w4.heap.size:=Nat.le_of_lt HND.out.blk.lt
 replace HND:=hide (HND.out.rd hg hPl)
 replace HP3:=hide (HP3.out.rd hg hPO)
 have HP5:Hid (PmI O w5 w4.heap.size w5.heap.size X.1 (.iface t5 a5)):=⟨hlo5,hpm.iv⟩
 clear hpm hlo5
 replace HG:=hide (HG.out.tr hg)
 replace HQ:=hide hq
 clear hg hq HC5
 obtain⟨n0,n1,n2,n3,n4,n5⟩:=HND.out.cells
 unfold nm1 at n0 n1 n2 n3 n4 n5
 simp only at n0 n1 n2 n3 n4 n5
 go_wp2_with fail
 have hbd:Below w5.heap.size w5 w5.drew:=(Below.refl _ _).drew
 have hzd:w5.heap.size≤w5.drew.heap.size:=hbd.size
 replace HND:=hide (HND.out.kept hbd)
 replace HP3:=hide (HP3.out.kept hbd)
 replace HP5:=hide (HP5.out.kept hbd)
 replace HQ:=hide (HQ.out.below hbd)
 replace HG:=hide (HG.out.blw hbd)
 clear hbd
 refine wp_region_held_drew (S:=fun W=>Hid (W.cell? ⟨O,0,none⟩=some (.int .i64 5)∧W.cell? ⟨O,1,none⟩=some (.int .i64 0)∧W.cell? ⟨O,2,none⟩=some (.slice none 0 0)∧W.cell? ⟨O,3,none⟩=some (.slice (some ⟨w1.heap.size,0,none⟩) 1 1)∧W.cell? ⟨O,4,none⟩=some (.slice none 0 0)∧W.cell? ⟨O,5,none⟩=some (.int .i64 0))) (by kernel_rfl) (⟨n0,n1,n2,n3,n4,n5⟩) (fun hHeld=>?_)
 refine wpAnyH_take (i:=0) (v:=?_) rfl (by kernel_rfl) (by kernel_rfl) (by kernel_rfl) (fun _ _ _ h=>h) (Or.inl ⟨by rfl,?_⟩) hHeld ?_
 rotate_left 1
 ·intro Wx hSW;simp only[List.getElem_toArray,List.getElem_cons_zero];obtain⟨u0,u1,u2,u3,u4,u5⟩:=hSW.out;go_simp;try with_reducible rfl
 try simp only[Act.put,List.getElem_toArray,List.getElem_cons_zero,List.setIfInBounds_toArray,List.set_cons_zero,List.set_cons_succ]
 refine wpAnyH_take (i:=1) (v:=?_) rfl (by kernel_rfl) (by kernel_rfl) (by kernel_rfl) (fun _ _ _ h=>h) (Or.inl ⟨by rfl,?_⟩) hHeld ?_
 rotate_left 1
 ·intro Wx hSW;simp only[List.getElem_toArray,List.getElem_cons_zero,List.getElem_cons_succ];go_simp;try with_reducible rfl
 try simp only[Act.put,List.getElem_toArray,List.getElem_cons_zero,List.getElem_cons_succ,List.setIfInBounds_toArray,List.set_cons_zero,List.set_cons_succ]
 refine wpAnyH_take (i:=2) (v:=?_) rfl (by kernel_rfl) (by kernel_rfl) (by kernel_rfl) (fun _ _ _ h=>h) (Or.inl ⟨by rfl,?_⟩) hHeld ?_
 rotate_left 1
 ·intro Wx hSW;simp only[List.getElem_toArray,List.getElem_cons_zero,List.getElem_cons_succ];go_simp;try with_reducible rfl
 try simp only[Act.put,List.getElem_toArray,List.getElem_cons_zero,List.getElem_cons_succ,List.setIfInBounds_toArray,List.set_cons_zero,List.set_cons_succ]
 refine wpAnyH_take (i:=3) (v:=?_) rfl (by kernel_rfl) (by kernel_rfl) (by kernel_rfl) (fun _ _ _ h=>h) (Or.inl ⟨by rfl,?_⟩) hHeld ?_
 rotate_left 1
 ·intro Wx hSW;simp only[List.getElem_toArray,List.getElem_cons_zero,List.getElem_cons_succ];go_simp;try with_reducible rfl
 try simp only[Act.put,List.getElem_toArray,List.getElem_cons_zero,List.getElem_cons_succ,List.setIfInBounds_toArray,List.set_cons_zero,List.set_cons_succ]
 refine wpAnyH_take (i:=4) (v:=?_) rfl (by kernel_rfl) (by kernel_rfl) (by kernel_rfl) (fun _ _ _ h=>h) (Or.inl ⟨by rfl,?_⟩) hHeld ?_
 rotate_left 1
 ·intro Wx hSW;simp only[List.getElem_toArray,List.getElem_cons_zero,List.getElem_cons_succ];go_simp;try with_reducible rfl
 try simp only[Act.put,List.getElem_toArray,List.getElem_cons_zero,List.getElem_cons_succ,List.setIfInBounds_toArray,List.set_cons_zero,List.set_cons_succ]
 refine wpAnyH_ready (rs:=[5]) (by kernel_rfl) (by simp) ?_
 refine AllReadyH.cons rfl (fun K hK=>?_) AllReadyH.nil
 go_simp
 refine (HC6.out w5.drew HQ.out hb5).mono ?_
 rintro r w6 ⟨hg,⟨hb6,hq,v,rfl,⟨⟨t6,a6,rfl⟩,hpm⟩⟩|⟨hb6,rfl⟩⟩
 rotate_left 1
 ·exact⟨rfl,RQ.fault hb6 (Mv.refl e _) (HG.out.tr hg)⟩
 have hz6:w5.drew.heap.size≤w6.heap.size:=hg.size
 have hlo6:O≤w5.drew.heap.size:=Nat.le_of_lt HND.out.blk.lt
 replace HND:=hide (HND.out.rd hg hPl)
 replace HP3:=hide (HP3.out.rd hg hPO)
 replace HP5:=hide (HP5.out.rd hg hPO)
 have HP6:Hid (PmI O w6 w5.drew.heap.size w6.heap.size U.1 (.iface t6 a6)):=⟨hlo6,hpm.iv⟩
 clear hpm hlo6
 replace HG:=hide (HG.out.tr hg)
 replace HQ:=hide hq
 clear hg hq HC6
 clear n0 n1 n2 n3 n4 n5
 obtain⟨n0,n1,n2,n3,n4,n5⟩:=HND.out.cells
 unfold nm1 at n0 n1 n2 n3 n4 n5
 simp only at n0 n1 n2 n3 n4 n5
 go_wp2_with fail
 refine hK.out _ _ ⟨n0,n1,n2,n3,n4,n5⟩ (fun hHeld=>?_)
 clear hK K
 try simp only[Act.put,List.getElem_toArray,List.getElem_cons_zero,List.getElem_cons_succ,List.setIfInBounds_toArray,List.set_cons_zero,List.set_cons_succ]
 have hA:Below w6.heap.size w6 (w6.alloc (.cells #[.iface t3 a3,.iface t5 a5,.iface t6 a6] 65)):=(Below.refl _ _).alloc (Nat.le_refl _) _
 refine wpAnyH_ready (rs:=[6]) (by kernel_rfl) (by simp) ?_
 refine AllReadyH.cons rfl (fun K hK=>?_) AllReadyH.nil
 go_simp
 refine hK.out _ _ (⟨cell_kept n0 hA,cell_kept n1 hA,cell_kept n2 hA,cell_kept n3 hA,cell_kept n4 hA,cell_kept n5 hA⟩) (fun hHeld=>?_)
 clear hK K
 try simp only[Act.put,List.getElem_toArray,List.getElem_cons_zero,List.getElem_cons_succ,List.setIfInBounds_toArray,List.set_cons_zero,List.set_cons_succ]
 have HMK:=hide (qmake_any pl (show (0:Int)≤5∧(5:Int)≤22 by decide) (Kids.of (HND.out.kept hA).ok ((Pts.three HP3.out.pm HP5.out.pm HP6.out.pm (by omega) (by omega) (by omega) (by omega) (by omega) (by omega)).kept hA) HP3.out.lo (Nat.le_trans HND.out.lo HP3.out.lo)) (ks:=[Y.1,X.1,U.1]) (us:=[.iface t3 a3,.iface t5 a5,.iface t6 a6]) rfl (RwG.of_blk (Blk.new w6 65 #[.iface t3 a3,.iface t5 a5,.iface t6 a6]) HG.out.size 3))
 replace HQ:=hide (HQ.out.below hA)
 replace HG:=hide (HG.out.blw hA)
 have HN:=hide (HND.out.kept hA)
 refine wpAnyH_ready (rs:=[7]) (by kernel_rfl) (by simp) ?_
 refine AllReadyH.cons rfl (fun K hK=>?_) AllReadyH.nil
 go_simp
 clear n0 n1 n2 n3 n4 n5 hA HND HP3 HP5 HP6
 refine HMK.out.mono ?_
 rintro r v2 ⟨⟨t',a',rfl,hpm⟩,hb⟩
 obtain⟨n0,n1,n2,n3,n4,n5⟩:=(HN.out.kept hb).cells
 unfold nm1 at n0 n1 n2 n3 n4 n5
 simp only at n0 n1 n2 n3 n4 n5
 replace HG:=hide (HG.out.blw hb)
 replace HQ:=hide (HQ.out.below hb)
 have HPM:=hide hpm
 clear hpm hb HMK HN
 go_wp2_with fail
 refine hK.out _ _ ⟨n0,n1,n2,n3,n4,n5⟩ (fun hHeld=>?_)
 clear hK K n0 n1 n2 n3 n4 n5
 try simp only[Act.put,List.getElem_toArray,List.getElem_cons_zero,List.getElem_cons_succ,List.setIfInBounds_toArray,List.set_cons_zero,List.set_cons_succ]
 refine wpAnyH_take (i:=8) (v:=?_) rfl (by kernel_rfl) (by kernel_rfl) (by kernel_rfl) (fun _ _ _ h=>h) (Or.inl ⟨by rfl,?_⟩) hHeld ?_
 rotate_left 1
 ·intro Wx hSW;simp only[List.getElem_toArray,List.getElem_cons_zero,List.getElem_cons_succ];go_simp;try with_reducible rfl
 try simp only[Act.put,List.getElem_toArray,List.getElem_cons_zero,List.getElem_cons_succ,List.setIfInBounds_toArray,List.set_cons_zero,List.set_cons_succ]
 refine wpAnyH_done (by kernel_rfl) ?_ _
 go_wp2
 go_ret
 exact RQ.ok hb6 HG.out HQ.out ⟨⟨_,_,rfl⟩,HPM.out⟩
def rOt (e:PsE)(f:Nat)(blk:Ps→Pt × Ps)(c:Nat)(p:Ps):Pt × Ps:=if e.is p (⟨#[105,102]⟩:ByteArray)=true then rIf e f blk c (e.place p) p.on else blk p
theorem mv_ot (e:PsE)(f:Nat){blk:Ps→Pt × Ps}(hb:∀p,Mv e p (blk p).2)(c:Nat)(p:Ps):Mv e p (rOt e f blk c p).2:=by
 unfold rOt
 split
 ·rename_i h;exact (mv_on (is_kind h)).1.trans (mv_if e f hb _ _ _)
 ·exact hb p
theorem rIf_else {e:PsE}{f c pl:Nat}{blk:Ps→Pt × Ps}{p:Ps}{x y:Pt × Ps}(hx:rE e f 1 p=x)(hy:blk x.2=y)(h:e.is y.2 (⟨#[101,108,115,101]⟩:ByteArray)=true):rIf e f blk (c+1) pl p=(ptN (ndK 6) pl [x.1,y.1,(rOt e f blk c y.2.on).1],(rOt e f blk c y.2.on).2):=by
 subst hx hy
 rw[rIf,if_pos h]
 unfold rOt
 split<;>rfl
theorem rIf_end {e:PsE}{f c pl:Nat}{blk:Ps→Pt × Ps}{p:Ps}{x y:Pt × Ps}(hx:rE e f 1 p=x)(hy:blk x.2=y)(h:e.is y.2 (⟨#[101,108,115,101]⟩:ByteArray)=false):rIf e f blk (c+1) pl p=(ptN (ndK 6) pl [x.1,y.1],y.2):=by
 subst hx hy
 rw[rIf,if_neg (by rw[h];exact Bool.false_ne_true)]
def QIf (k:PsC)(e:PsE)(f:Nat)(blk:Ps→Pt × Ps)(n0 c:Nat):Prop:=∀w p (pl:Nat),QsW w k e p.at_→p.bad<0→p.at_≤e.T.length→n0≤p.at_→lft e p<c→Calls Tryz.prog 139 #[.pointer (some ⟨k.P,0,none⟩),.int .i64 (pl:Nat)] w (RQ k e w (rIf e f blk c pl p).2 (KP w (rIf e f blk c pl p).1))
def QOt (k:PsC)(e:PsE)(f:Nat)(blk:Ps→Pt × Ps)(n0 c:Nat):Prop:=∀w p,QsW w k e p.at_→p.bad<0→p.at_≤e.T.length→n0≤p.at_→lft e p≤c→Calls Tryz.prog 151 #[.pointer (some ⟨k.P,0,none⟩)] w (RQ k e w (rOt e f blk c p).2 (KP w (rOt e f blk c p).1))
theorem txt_lt {e:PsE}(hE:EOk e){n:Nat}{s:ByteArray}(h:e.txt n=s)(hs:s.size≠0):n<e.T.length:=by
 by_cases q:n<e.T.length
 ·exact q
 ·have:=(hE.end_ n).mpr q
  rw[h]at this
  rw[this]at hs
  exact absurd rfl hs
set_option maxHeartbeats 4000000 in
set_option maxRecDepth 1000000 in
theorem qother {c:PsC}{e:PsE}{f:Nat}{k n0:Nat}{blk:Ps→Pt × Ps}(hE:EOk e)(HI:QIf c e f blk n0 k)(HB:QBl c e blk n0){w:World}{p:Ps}(h:QsW w c e p.at_)(hp:p.bad<0)(hn:p.at_≤e.T.length)(hn0:n0≤p.at_)(hk:lft e p≤k):
 Calls Tryz.prog 151 #[.pointer (some ⟨c.P,0,none⟩)] w (RQ c e w (rOt e f blk k p).2 (KP w (rOt e f blk k p).1)):=by
 have hPl:=h.blk.lt
 have HQ:=hide h
 have HG:=hide (Gw.refl (· = c.P) w)
 have HT0:=hide hn
 have hi:=hE.is hp (w:=(⟨#[105,102]⟩:ByteArray)) (by decide +kernel)
 have HPL:=hide (qplace_any h)
 have hpe:e.place ⟨p.at_, -1,false⟩=e.place p:=rfl
 rw[hpe]at HPL
 obtain⟨L0,hL0⟩:∃Z,e.place p=Z:=⟨_,rfl⟩
 rw[hL0]at HPL
 by_cases hif:e.txt p.at_=(⟨#[105,102]⟩:ByteArray)
 ·have hlt:=txt_lt hE hif (by decide)
  have HR:Hid (rOt e f blk k p=rIf e f blk k L0 p.on):=by show _=_;unfold rOt;rw[hi,decide_eq_true hif,if_pos rfl,hL0]
  have HTK:=hide (tk_yes (c:=c) _ hn hif)
  have HC:=hide (fun W (hW:QsW W c e (p.at_+1))=>HI W p.on L0 hW hp hlt (by rw[on_at];omega) (by unfold lft at hk ⊢;rw[on_at];omega))
  clear h hn hi hpe hL0 hif HI HB hk hE HT0
  go_enter Tryz.func151,Tryz.ntmps151
  go_wp2_with fail
  refine HPL.out.mono ?_
  rintro r wp ⟨rfl,hb⟩
  replace HG:=hide (HG.out.blw hb)
  replace HQ:=hide (HQ.out.below hb)
  clear hb HPL
  go_wp2_with fail
  refine (HTK.out wp HQ.out).mono ?_
  rintro r wp' ⟨rfl,hq⟩
  replace HG:=hide (HG.out.tr hq.2)
  replace HQ:=hide hq.1
  clear hq HTK
  go_wp2_with fail
  refine (HC.out wp' HQ.out).mono ?_
  rintro r w1 ⟨hg,⟨hb1,hq,v,rfl,⟨⟨t1,a1,rfl⟩,hpm⟩⟩|⟨hb1,rfl⟩⟩
  ·have HP1:=hide (hpm.low HG.out.size)
   replace HG:=hide (HG.out.tr hg)
   replace HQ:=hide hq
   clear hpm hg hq HC
   go_wp2
   go_ret
   rw[HR.out]
   exact RQ.ok hb1 HG.out HQ.out ⟨⟨_,_,rfl⟩,HP1.out⟩
  ·exact⟨rfl,by rw[HR.out];exact RQ.fault hb1 (Mv.refl e _) (HG.out.tr hg)⟩
 ·have HR:Hid (rOt e f blk k p=blk p):=by show _=_;unfold rOt;rw[hi,decide_eq_false hif,if_neg Bool.false_ne_true]
  have HTK:=hide (tk_no (c:=c) _ hn hif)
  have HC:=hide (fun W (hW:QsW W c e p.at_)=>HB W p hW hp hn hn0)
  clear h hn hi hpe hL0 hif HI HB hk hE HT0
  go_enter Tryz.func151,Tryz.ntmps151
  go_wp2_with fail
  refine HPL.out.mono ?_
  rintro r wp ⟨rfl,hb⟩
  replace HG:=hide (HG.out.blw hb)
  replace HQ:=hide (HQ.out.below hb)
  clear hb HPL
  go_wp2_with fail
  refine (HTK.out wp HQ.out).mono ?_
  rintro r wp' ⟨rfl,hq⟩
  replace HG:=hide (HG.out.tr hq.2)
  replace HQ:=hide hq.1
  clear hq HTK
  go_wp2_with fail
  refine (HC.out wp' HQ.out).mono ?_
  rintro r w1 ⟨hg,⟨hb1,hq,v,rfl,⟨⟨t1,a1,rfl⟩,hpm⟩⟩|⟨hb1,rfl⟩⟩
  ·have HP1:=hide (hpm.low HG.out.size)
   replace HG:=hide (HG.out.tr hg)
   replace HQ:=hide hq
   clear hpm hg hq HC
   go_wp2
   go_ret
   rw[HR.out]
   exact RQ.ok hb1 HG.out HQ.out ⟨⟨_,_,rfl⟩,HP1.out⟩
  ·exact⟨rfl,by rw[HR.out];exact RQ.fault hb1 (Mv.refl e _) (HG.out.tr hg)⟩
set_option maxHeartbeats 4000000 in
set_option maxRecDepth 1000000 in
theorem qcond {c:PsC}{e:PsE}{f:Nat}{k n0 pl:Nat}{blk:Ps→Pt × Ps}(hE:EOk e)(HEx:QE c e f)(HO:QOt c e f blk n0 k)(HB:QBl c e blk n0)(HMB:∀p,Mv e p (blk p).2){w:World}{p:Ps}(h:QsW w c e p.at_)(hp:p.bad<0)(hn:p.at_≤e.T.length)(hn0:n0≤p.at_)(hk:lft e p<k+1):
 Calls Tryz.prog 139 #[.pointer (some ⟨c.P,0,none⟩),.int .i64 (pl:Nat)] w (RQ c e w (rIf e f blk (k+1) pl p).2 (KP w (rIf e f blk (k+1) pl p).1)):=by
 have hPl:=h.blk.lt
 have HQ:=hide h
 have HG:=hide (Gw.refl (· = c.P) w)
 have HT0:=hide hn
 have HM1:=hide ((mv_expr e f).1 1 p)
 have HT1:=hide (HM1.out.top HT0.out)
 have HC1:=hide (fun W (hW:QsW W c e p.at_) (hb:p.bad<0)=>HEx W p hW hb HT0.out)
 obtain⟨X,hX⟩:∃zz,rE e f 1 p=zz:=⟨_,rfl⟩
 simp only[hX]at HM1 HT1 HC1 ⊢
 have HM2:=hide (HMB X.2)
 have HT2:=hide (HM2.out.top HT1.out)
 have HC2:=hide (fun W (hW:QsW W c e X.2.at_) (hb:X.2.bad<0)=>HB W X.2 hW hb HT1.out (Nat.le_trans hn0 HM1.out.le))
 obtain⟨Y,hY⟩:∃zz,blk X.2=zz:=⟨_,rfl⟩
 simp only[hY]at HM2 HT2 HC2 ⊢
 have HLE:=hide (Nat.le_trans hn0 (HM1.out.trans HM2.out).le)
 have HLK:=hide (HM1.out.trans HM2.out).le
 have hYX:blk X.2=Y:=hY
 have HMY:Hid (Mv e Y.2 (rIf e f blk (k+1) pl p).2):=by
  show Mv _ _ _
  cases hi:e.is Y.2 (⟨#[101,108,115,101]⟩:ByteArray) with
  |true=>rw[rIf_else hX hYX hi];exact (mv_on (is_kind hi)).1.trans (mv_ot e f HMB _ _)
  |false=>rw[rIf_end hX hYX hi];exact Mv.refl _ _
 have HXX:=hide hX
 have HYY:=hide hYX
 clear h hn HEx hX hY hYX HB
 go_enter Tryz.func139,Tryz.ntmps139
 go_wp2_with fail
 refine (HC1.out w HQ.out hp).mono ?_
 rintro r w1 ⟨hg,⟨hb1,hq,v,rfl,⟨⟨t1,a1,rfl⟩,hpm⟩⟩|⟨hb1,rfl⟩⟩
 rotate_left 1
 ·exact⟨rfl,RQ.fault hb1 (HM2.out.trans HMY.out) (HG.out.tr hg)⟩
 have hz1:w.heap.size≤w1.heap.size:=hg.size
 have hlo1:w.heap.size≤w.heap.size:=HG.out.size
 have HP1:Hid (PmI w.heap.size w1 w.heap.size w1.heap.size X.1 (.iface t1 a1)):=⟨hlo1,hpm.iv⟩
 clear hpm hlo1
 replace HG:=hide (HG.out.tr hg)
 replace HQ:=hide hq
 clear hg hq HC1
 go_wp2_with fail
 refine (HC2.out w1 HQ.out hb1).mono ?_
 rintro r w2 ⟨hg,⟨hb2,hq,v,rfl,⟨⟨t2,a2,rfl⟩,hpm⟩⟩|⟨hb2,rfl⟩⟩
 rotate_left 1
 ·exact⟨rfl,RQ.fault hb2 HMY.out (HG.out.tr hg)⟩
 have hz2:w1.heap.size≤w2.heap.size:=hg.size
 have hlo2:w.heap.size≤w1.heap.size:=HG.out.size
 replace HP1:=hide (HP1.out.rd hg hPl)
 have HP2:Hid (PmI w.heap.size w2 w1.heap.size w2.heap.size Y.1 (.iface t2 a2)):=⟨hlo2,hpm.iv⟩
 clear hpm hlo2
 replace HG:=hide (HG.out.tr hg)
 replace HQ:=hide hq
 clear hg hq HC2
 have hi:=hE.is hb2 (w:=(⟨#[101,108,115,101]⟩:ByteArray)) (by decide +kernel)
 have hPO:=PO.lit (V:=w2) (B:=w.heap.size) (ks:=[X.1,Y.1]) (us:=[.iface t1 a1,.iface t2 a2]) rfl (by simp) (fun u hu=>by simp only[List.mem_cons,List.not_mem_nil,or_false]at hu;rcases hu with rfl|rfl<;>rfl) HG.out.size (Pts.two HP1.out.pm HP2.out.pm (Nat.le_refl _) (by omega) (by omega))
 have hA:Below w2.heap.size w2 (w2.alloc (.cells #[.iface t1 a1,.iface t2 a2] 65)):=(Below.refl _ _).alloc (Nat.le_refl _) _
 have HPO:=hide hPO
 replace HQ:=hide (HQ.out.below hA)
 replace HG:=hide (HG.out.blw hA)
 clear hPO hA HP1 HP2
 go_wp2_with fail
 obtain⟨W3,hW3⟩:∃W,w2.alloc (.cells #[.iface t1 a1,.iface t2 a2] 65)=W:=⟨_,rfl⟩
 have hz3:w2.heap.size≤W3.heap.size:=by rw[← hW3];simp
 have HPO':Hid (PO W3 w.heap.size w2.heap.size (.slice (some ⟨w2.heap.size,0,none⟩) 2 2) [X.1,Y.1] [.iface t1 a1,.iface t2 a2]):=by rw[← hW3];exact HPO.out
 rw[hW3]at HQ HG ⊢
 clear HPO hW3
 by_cases hel:e.txt Y.2.at_=(⟨#[101,108,115,101]⟩:ByteArray)
 ·have hlt:=txt_lt hE hel (by decide)
  have HR:Hid (rIf e f blk (k+1) pl p=(ptN (ndK 6) pl [X.1,Y.1,(rOt e f blk k Y.2.on).1],(rOt e f blk k Y.2.on).2)):=rIf_else HXX.out HYY.out (by rw[hi];exact decide_eq_true hel)
  have HTK:=hide (tk_yes (c:=c) _ HT2.out hel W3 HQ.out)
  have HC:=hide (fun W (hW:QsW W c e (Y.2.at_+1))=>HO W Y.2.on hW hb2 hlt (by have:=HLE.out;rw[on_at];omega) (by have:=HLK.out;unfold lft at hk ⊢;rw[on_at];omega))
  obtain⟨Z,hZ⟩:∃Z,rOt e f blk k Y.2.on=Z:=⟨_,rfl⟩
  simp only[hZ]at HC HR
  clear hi hel HO hZ hE HMY HXX HYY hlt HM1 HM2 HT0 HT1 HT2 HLE HLK hk
  refine HTK.out.mono ?_
  rintro r w4 ⟨rfl,hq⟩
  replace HPO':=hide (HPO'.out.rd hq.2 hPl)
  have hz4:W3.heap.size≤w4.heap.size:=hq.2.size
  replace HG:=hide (HG.out.tr hq.2)
  replace HQ:=hide hq.1
  clear hq HTK
  go_wp2_with fail
  refine (HC.out w4 HQ.out).mono ?_
  rintro r w5 ⟨hg,⟨hb5,hq,v,rfl,⟨⟨t5,a5,rfl⟩,hpm⟩⟩|⟨hb5,rfl⟩⟩
  rotate_left 1
  ·exact⟨rfl,by rw[HR.out];exact RQ.fault hb5 (Mv.refl e _) (HG.out.tr hg)⟩
  have HPM:=hide hpm.iv
  have HOL:=hide HPO'.out.olt
  have hz5:w4.heap.size≤w5.heap.size:=hg.size
  have hw4:w.heap.size≤w4.heap.size:=HG.out.size
  have hPO5:=HPO'.out.rd hg hPl
  have HPO5:=hide hPO5
  have HO5:=hide hPO5.own
  replace HG:=hide (HG.out.tr hg)
  replace HQ:=hide hq
  clear hg hq hpm HC hPO5 HPO'
  go_wp2_with (at_builtin;refine wp_app1V rfl _ _ 96 65 rfl .nilIface 16 Tryz.underlying96 Tryz.infoPart rfl (by decide) w.heap.size _ 2 _ rfl (HO5.out.alloc _) w5.heap.size 1 (.iface t5 a5) rfl (by simp) rfl (by omega) ?b1 ?_)
  case b1=>(have:=HG.out.size;simp;omega)
  intro v6 V6 ho6 hg6 hob6
  have hA:Below w5.heap.size w5 (w5.alloc (.cells #[.iface t5 a5] 65)):=(Below.refl _ _).alloc (Nat.le_refl _) _
  have hoA:(w5.alloc (.cells #[.iface t5 a5] 65)).ownsRow w.heap.size 65 1 (.slice (some ⟨w2.heap.size,0,none⟩) 2 2) 2 [.iface t1 a1,.iface t2 a2]:=HO5.out.alloc _
  have hP6:=HPO5.out.app HPM.out rfl HOL.out (by omega) (by omega) (by omega) (by simp) hA ho6 hg6 (by rw[World.size_alloc];exact hob6)
  have HP6:=hide hP6
  replace HQ:=hide ((HQ.out.below hA).row hoA hPl hg6)
  replace HG:=hide ((HG.out.blw hA).row hoA (Nat.le_refl _) hg6)
  obtain⟨a6,c6,rfl⟩:=own_sl ho6
  have HMK:=hide (qmake_any pl (show (0:Int)≤6∧(6:Int)≤22 by decide) (Kids.plain (k:=6) (n:=0) hP6.pts) (ks:=[X.1,Y.1,Z.1]) hP6.len (hP6.rwg (Nat.le_refl _)))
  clear hA hoA ho6 hg6 hob6 hP6 HPM HPO5 HO5
  go_wp2_with fail
  refine HMK.out.mono ?_
  rintro r v2 ⟨⟨t',a',rfl,hpm⟩,hb⟩
  replace HG:=hide (HG.out.blw hb)
  replace HQ:=hide (HQ.out.below hb)
  have HPM:=hide hpm
  clear hpm hb HMK HP6
  go_wp2
  go_ret
  rw[HR.out]
  exact RQ.ok hb5 HG.out HQ.out ⟨⟨_,_,rfl⟩,HPM.out⟩
 ·have HR:Hid (rIf e f blk (k+1) pl p=(ptN (ndK 6) pl [X.1,Y.1],Y.2)):=rIf_end HXX.out HYY.out (by rw[hi];exact decide_eq_false hel)
  have HTK:=hide (tk_no (c:=c) _ HT2.out hel W3 HQ.out)
  clear hi hel HO hE HMY HXX HYY HM1 HM2 HT0 HT1 HT2 HLE HLK hk
  refine HTK.out.mono ?_
  rintro r w4 ⟨rfl,hq⟩
  have hP4:=HPO'.out.rd hq.2 hPl
  replace HG:=hide (HG.out.tr hq.2)
  replace HQ:=hide hq.1
  have HMK:=hide (qmake_any pl (show (0:Int)≤6∧(6:Int)≤22 by decide) (Kids.plain (k:=6) (n:=0) hP4.pts) (ks:=[X.1,Y.1]) hP4.len (hP4.rwg (Nat.le_refl _)))
  clear hq HTK hP4 HPO'
  go_wp2_with fail
  refine HMK.out.mono ?_
  rintro r v2 ⟨⟨t',a',rfl,hpm⟩,hb⟩
  replace HG:=hide (HG.out.blw hb)
  replace HQ:=hide (HQ.out.below hb)
  have HPM:=hide hpm
  clear hpm hb HMK
  go_wp2
  go_ret
  rw[HR.out]
  exact RQ.ok hb2 HG.out HQ.out ⟨⟨_,_,rfl⟩,HPM.out⟩
theorem qif_all {c:PsC}{e:PsE}{f n0:Nat}{blk:Ps→Pt × Ps}(hE:EOk e)(HEx:QE c e f)(HB:QBl c e blk n0)(HMB:∀p,Mv e p (blk p).2):∀k,QIf c e f blk n0 k
 |0=>fun _ _ _ _ _ _ _ hk=>absurd hk (by omega)
 |k+1=>fun _ _ _ h hp hn hn0 hk=>qcond hE HEx (fun _ _ h hp hn hn0 hk=>qother hE (qif_all hE HEx HB HMB k) HB h hp hn hn0 hk) HB HMB h hp hn hn0 hk
end Go.Proofs.YtbiakdjpeblclaaGreatDoor
