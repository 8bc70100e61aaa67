/-
  The program's own reader of trees, on: a defined word.
-/
import Derived.Test.YtbiakdjpeblclaaGreatDoorJPaQSS
namespace Go.Proofs.YtbiakdjpeblclaaGreatDoor
open Go.RowKit
theorem RQ.smp {c:PsC}{e:PsE}{w w':World}{r:List (Int × ByteArray) × Ps}{A:List Int × List ByteArray × Ps}{n0:ByteArray}{z:Ps}{K:World→Value→Prop}{x:Ending}(hs:SmP r A n0 z)(h:RQ c e w r.2 K x w'):RQ c e w z K x w':=by
 by_cases hz:z.bad<0
 ·rw[(hs.1 hz).2.2]at h;exact h
 ·have hb:=hs.2 (by omega)
  refine⟨h.1,.inr ⟨by omega,?_⟩⟩
  rcases h.2 with q|q
  ·have:=q.1;omega
  ·rw[q.2,hb]
def rPl (e:PsE)(p:Ps):List (Int × ByteArray) × Ps:=rL e (rPar e) (⟨#[44]⟩:ByteArray) (⟨#[41]⟩:ByteArray) (e.T.length+1) [] p
theorem ent_par (args:Array Value)(W:World):(callFunc 118 args).run Tryz.prog W = .ok (.enter 118 args) W:=enters_of Tryz.func118 (by kernel_rfl) rfl args W
theorem pars_sm {e:PsE}(hE:EOk e)(n0:ByteArray){p:Ps}(hp:p.bad<0)(hn:p.at_≤e.T.length)(h1:1≤p.at_):SmP (rPl e p) (rPars e e.T.length [] [n0] p) n0 (e.want (rPars e e.T.length [] [n0] p).2.2 (⟨#[41]⟩:ByteArray)):=rL_pars hE n0 _ _ p hp hn (by omega) (by omega)
theorem qpars {c:PsC}{e:PsE}(hE:EOk e)(n0:ByteArray){w:World}{p:Ps}(h:QsW w c e p.at_)(hp:p.bad<0)(hn:p.at_≤e.T.length)(h1:1≤p.at_):
 Calls Tryz.prog 117 #[.pointer (some ⟨c.P,0,none⟩),.string (⟨#[44]⟩:ByteArray),.string (⟨#[41]⟩:ByteArray),.func (.func 118) #[.pointer (some ⟨c.P,0,none⟩)] #[]] w (RQ c e w (e.want (rPars e e.T.length [] [n0] p).2.2 (⟨#[41]⟩:ByteArray)) (KLr w (rPl e p).1)):=by
 refine (qplist_any (d:=e.T.length+1) (n0:=0) (st:=rPar e) hE (.inr (by decide +kernel)) ent_par (fun V p h hp hn _=>qparam hE h hp hn) (fun p=>(mv_par e p).1) (fun p=>(mv_par e p).2) h hp hn (Nat.zero_le _) (by omega)).mono ?_
 intro r w' hr
 exact RQ.smp (pars_sm hE n0 hp hn h1) hr
theorem prc_at : ∀(ks:List (Int × ByteArray)) (us:List Value) (k:Nat) (x:Int × ByteArray) (u:Value),ks[k]?=some x→us[k]?=some u→(prc ks us)[k*2]?=some (.int .i64 x.1)∧(prc ks us)[k*2+1]?=some u
 | [],_,k,x,u,h,_=>by simp at h
 |_::_,[],k,x,u,_,h=>by simp at h
 |a::ks,b::us,0,x,u,h,g=>by injection h with h;injection g with g;rw[← h,← g];exact⟨rfl,rfl⟩
 |a::ks,b::us,k+1,x,u,h,g=>by
  have ih:=prc_at ks us k x u (by simpa using h) (by simpa using g)
  have e:prc (a::ks) (b::us) = [.int .i64 a.1,b]++prc ks us:=rfl
  rw[e,show (k+1)*2=k*2+2 by omega]
  exact⟨ih.1,ih.2⟩
theorem rL_len {α:Type}{e:PsE}{st:Ps→α × Ps}{b cl:ByteArray}:∀d ks p,(rL e st b cl d ks p).1.length≤ks.length+d
 |0,ks,p=>Nat.le_refl _
 |d+1,ks,p=>by
  rw[rL]
  split
  ·simp only;omega
  ·split
   ·simp only;omega
   ·split
    ·simp only;omega
    ·have:=rL_len (e:=e) (st:=st) (b:=b) (cl:=cl) d (ks++[(st (rLq e b ks.length p)).1]) (st (rLq e b ks.length p)).2
     rw[List.length_append,List.length_singleton]at this
     omega
theorem rPl_len {e:PsE}{p:Ps}:(rPl e p).1.length≤e.T.length+1:=by
 have:=rL_len (e:=e) (st:=rPar e) (b:=(⟨#[44]⟩:ByteArray)) (cl:=(⟨#[41]⟩:ByteArray)) (e.T.length+1) [] p
 rw[List.length_nil,Nat.zero_add]at this
 exact this
structure NmB (w V:World)(N:Nat)(u:Value):Prop where
 blk:Blk V N 22 #[u]
 lo:w.heap.size≤N
theorem NmB.rd {w V V':World}{N:Nat}{u:Value}{c:PsC}(h:NmB w V N u)(hg:Gw (· = c.P) V V')(hP:c.P<w.heap.size):NmB w V' N u:=⟨hg.blk h.blk (by have:=h.lo;show ¬N=c.P;omega),h.lo⟩
theorem NmB.start (w V:World)(u:Value)(o:Obj)(hw:w.heap.size≤V.heap.size):NmB w ((V.alloc (.cells #[u] 22)).alloc o) V.heap.size u:=by
 have hB:Below (V.alloc (.cells #[u] 22)).heap.size (V.alloc (.cells #[u] 22)) ((V.alloc (.cells #[u] 22)).alloc o):=(Below.refl _ _).alloc (Nat.le_refl _) _
 exact⟨(hB.block _ (by simp)).trans (Blk.new V 22 #[u]),hw⟩
structure NmV (w V:World)(N:Nat)(v:Value)(s:ByteArray):Prop where
 bg:BGf V (fun g=>w.heap.size≤g∧g<N) v s
theorem NmV.rd {w V V':World}{N:Nat}{v:Value}{s:ByteArray}{c:PsC}(h:NmV w V N v s)(hg:Gw (· = c.P) V V')(hP:c.P<w.heap.size):NmV w V' N v s:=⟨h.bg.gw hg (fun k hk q=>by rw[hk]at q;omega)⟩
theorem NmV.below {w V V':World}{N:Nat}{v:Value}{s:ByteArray}(h:NmV w V N v s)(hb:Below V.heap.size V V'):NmV w V' N v s:=⟨h.bg.gw (P:=fun _=>False) (Gw.of_below hb) (fun _ q=>q.elim)⟩
theorem own_ne {w:World}{B B' e e' sz sz' n n' g:Nat}{v v':Value}{xs xs':List Value}(h:w.ownsRow B e sz v n xs)(h':w.ownsRow B' e' sz' v' n' xs')(he:e≠e')(hv:v.ownBlock=some g):v'.ownBlock≠some g:=fun hv'=>by
 rcases h.2 with⟨h1,_⟩|⟨b,c,cur,h1,_,h2,_⟩
 ·rw[h1]at hv;cases hv
 rcases h'.2 with⟨k1,_⟩|⟨b',c',cur',k1,_,k2,_⟩
 ·rw[k1]at hv';cases hv'
 rw[h1]at hv
 rw[k1]at hv'
 injection hv with hv
 injection hv' with hv'
 have q1:b=g:=hv
 have q2:b'=g:=hv'
 rw[q1]at h2
 rw[q2,h2]at k2
 injection k2 with k2
 injection k2 with _ k3
 exact he k3
set_option maxHeartbeats 4000000 in
set_option maxRecDepth 1000000 in
theorem qmacro {c:PsC}{e:PsE}{f:Nat}{m pl:Nat}(hE:EOk e)(HS:QSt c e f (m+1)){w:World}{p:Ps}(h:QsW w c e p.at_)(hp:p.bad<0)(hn:p.at_≤e.T.length)(hp1:1≤p.at_)(hm:lft e p≤m+1):
 Calls Tryz.prog 86 #[.pointer (some ⟨c.P,0,none⟩),.int .i64 (pl:Nat)] w (RQ c e w (rMac e f (m+1) pl p).2 (KP w (rMac e f (m+1) pl p).1)):=by
 have hPl:=h.blk.lt
 have HQ:=hide h
 have HG:=hide (Gw.refl (· = c.P) w)
 have HT0:=hide hn
 have hmf:∀(fn:Fn) (first cap:Array Value) (w:World),(Instr.makeFunc fn first cap).run Tryz.prog w = .ok (.func fn first cap) w:=fun _ _ _ _=>rfl
 unfold rMac
 simp only
 have HM1:=hide ((mv_ident e p).1)
 have HT1:=hide (HM1.out.top HT0.out)
 have HC1:=hide (fun W (hW:QsW W c e p.at_) (hb:p.bad<0)=>qname (p:=p) hW hb)
 obtain⟨I,hI⟩:∃zz,e.ident p=zz:=⟨_,rfl⟩
 simp only[hI]at HM1 HT1 HC1 ⊢
 have HM2:=hide ((mv_want e I.2 (⟨#[40]⟩:ByteArray)).1)
 have HT2:=hide (HM2.out.top HT1.out)
 have HC2:=hide (fun W (hW:QsW W c e I.2.at_) (hb:I.2.bad<0)=>qwant hE (⟨#[40]⟩:ByteArray) (by decide +kernel) hW hb HT1.out)
 obtain⟨Q,hQ⟩:∃zz,e.want I.2 (⟨#[40]⟩:ByteArray)=zz:=⟨_,rfl⟩
 simp only[hQ]at HM2 HT2 HC2 ⊢
 have HSM:=hide (fun (hb:Q.bad<0)=>pars_sm hE I.1 (p:=Q) hb HT2.out (Nat.le_trans hp1 (HM1.out.trans HM2.out).le))
 have HM3:=hide ((mv_pars e e.T.length [] [I.1] Q).trans (mv_want e (rPars e e.T.length [] [I.1] Q).2.2 (⟨#[41]⟩:ByteArray)).1)
 have HT3:=hide (HM3.out.top HT2.out)
 have HC3:=hide (fun W (hW:QsW W c e Q.at_) (hb:Q.bad<0)=>qpars hE I.1 hW hb HT2.out (Nat.le_trans hp1 (HM1.out.trans HM2.out).le))
 obtain⟨Z,hZ⟩:∃zz,e.want (rPars e e.T.length [] [I.1] Q).2.2 (⟨#[41]⟩:ByteArray)=zz:=⟨_,rfl⟩
 simp only[hZ]at HM3 HT3 HC3 ⊢
 simp only[hZ]at HSM
 obtain⟨A,hA⟩:∃zz,rPars e e.T.length [] [I.1] Q=zz:=⟨_,rfl⟩
 rw[hA]at HSM ⊢
 obtain⟨LG,hLG⟩:∃b,(Z.long||decide (10<A.1.length))=b:=⟨_,rfl⟩
 rw[hLG]
 obtain⟨PL,hPL⟩:∃zz,rPl e Q=zz:=⟨_,rfl⟩
 rw[hPL]at HSM HC3
 have HM4:=hide ((mv_block e (mv_stat e f (m+1)) e.T.length ({ Z with long:=LG }:Ps)))
 have HT4:=hide (HM4.out.top HT3.out)
 have HC4:=hide (fun W (hW:QsW W c e ({ Z with long:=LG }:Ps).at_) (hb:({ Z with long:=LG }:Ps).bad<0)=>qblock hE HS hW hb HT3.out (by have:=((HM1.out.trans HM2.out).trans HM3.out).le;unfold lft at hm ⊢;show e.T.length - Z.at_≤_;omega))
 obtain⟨U,hU⟩:∃zz,rBlock e e.T.length (rS e f (m+1)) ({ Z with long:=LG }:Ps)=zz:=⟨_,rfl⟩
 simp only[hU]at HM4 HT4 HC4 ⊢
 replace HM4:Hid (Mv e Z U.2):=⟨HM4.out.le,HM4.out.top,HM4.out.bad⟩
 have HPB:=hide (rPl_len (e:=e) (p:=Q))
 rw[hPL]at HPB
 clear h hn hI hQ hZ hA hLG hPL hU hE HS hm hp1
 go_enter Tryz.func86,Tryz.ntmps86
 go_wp2_with fail
 refine (HC1.out w HQ.out hp).mono ?_
 rintro r w1 ⟨hg,⟨hb1,hq,v,rfl,hv,hvs⟩|⟨hb1,rfl⟩⟩
 rotate_left 1
 ·exact⟨rfl,RQ.fault hb1 ((HM2.out.trans HM3.out).trans HM4.out) (HG.out.tr hg)⟩
 have hz1:w.heap.size≤w1.heap.size:=hg.size
 obtain⟨va,vc,rfl⟩:=hv.slc
 replace hv:=hide (hv.mono (fun g hg _=>Nat.le_trans HG.out.size hg))
 replace HG:=hide (HG.out.tr hg)
 replace HQ:=hide hq
 clear hg hq HC1
 have hNB:=NmB.start w w1 (.slice va I.1.size vc) (.cells #[.int .i64 1,.int .i64 0,.slice none 0 0,.slice (some ⟨w1.heap.size,0,none⟩) 1 1,.slice none 0 0,.int .i64 0] 51) HG.out.size
 have hNV:NmV w w1 w1.heap.size (.slice va I.1.size vc) I.1:=⟨hv.out.mono (fun g q hl=>⟨q,hl⟩)⟩
 have hND:=NdA.name (w:=w) (k:=1) HG.out.size hv.out hvs
 have hA:Below w1.heap.size w1 ((w1.alloc (.cells #[.slice va I.1.size vc] 22)).alloc (.cells #[.int .i64 1,.int .i64 0,.slice none 0 0,.slice (some ⟨w1.heap.size,0,none⟩) 1 1,.slice none 0 0,.int .i64 0] 51)):=((Below.refl _ _).alloc (Nat.le_refl _) _).alloc (by simp) _
 clear hv
 go_wp2_with fail
 obtain⟨wn,hwn⟩:∃W,(w1.alloc (.cells #[.slice va I.1.size vc] 22)).alloc (.cells #[.int .i64 1,.int .i64 0,.slice none 0 0,.slice (some ⟨w1.heap.size,0,none⟩) 1 1,.slice none 0 0,.int .i64 0] 51)=W:=⟨_,rfl⟩
 obtain⟨O,hO⟩:∃O,w1.heap.size+1=O:=⟨_,rfl⟩
 rw[hwn]at hND hA hNB ⊢
 rw[hO]at hND ⊢
 have HON:=hide hO.symm
 have HND:=hide hND
 have HNB:=hide hNB
 have HNV:=hide (hNV.below hA)
 replace HQ:=hide (HQ.out.below hA)
 replace HG:=hide (HG.out.blw hA)
 have hPO:c.P<O:=Nat.lt_of_lt_of_le hPl HND.out.lo
 clear hND hA hwn hO hNB hNV
 refine (HC2.out wn HQ.out hb1).mono ?_
 rintro r w2 ⟨hg,⟨hb2,hq,_,rfl,rfl⟩|⟨hb2,rfl⟩⟩
 rotate_left 1
 ·exact⟨rfl,RQ.fault hb2 (HM3.out.trans HM4.out) (HG.out.tr hg)⟩
 have hz2:wn.heap.size≤w2.heap.size:=hg.size
 replace HND:=hide (HND.out.rd hg hPl)
 replace HNB:=hide (HNB.out.rd hg hPl)
 replace HNV:=hide (HNV.out.rd hg hPl)
 replace HG:=hide (HG.out.tr hg)
 replace HQ:=hide hq
 clear hg hq HC2
 have hO2:O<w2.heap.size:=HND.out.blk.lt
 have hN2:w1.heap.size<w2.heap.size:=HNB.out.blk.lt
 go_wp2_with fail
 refine (HC3.out w2 HQ.out hb2).mono ?_
 rintro r w3 ⟨hg,⟨hb3,hq,v,rfl,⟨us,hpo⟩⟩|⟨hb3,rfl⟩⟩
 rotate_left 1
 ·exact⟨rfl,RQ.fault hb3 HM4.out (HG.out.tr hg)⟩
 obtain⟨hS1,hS2,_⟩:=(HSM.out hb2).1 hb3
 obtain⟨la,lc,rfl⟩:=own_sl hpo.own
 replace HND:=hide (HND.out.rd hg hPl)
 replace HNB:=hide (HNB.out.rd hg hPl)
 have hGsz:=HG.out.size
 replace HG:=hide (HG.out.tr hg)
 replace HQ:=hide hq
 have hw3:w2.heap.size≤w3.heap.size:=hg.size
 have HPO:=hide hpo
 have HSA:Hid (A.1=PL.1.map Prod.fst∧A.2.1=I.1::PL.1.map Prod.snd):=⟨hS1,hS2⟩
 have hPB:PL.1.length≤5001:=by have:=HPB.out;have:=HQ.out.tl;omega
 replace HNV:=hide (HNV.out.rd hg hPl)
 clear hg hq hpo HC3 hS1 hS2 HSM
 go_wp2_with fail
 go_loopw [19] (fun iv wr=>∃(k:Nat) (nv yv:Value),k≤PL.1.length∧iv = .int .i64 (k:Nat)∧Gw (fun g=>g=O∨g=w1.heap.size) w3 wr∧Blk wr O 51 #[.int .i64 1,.int .i64 0,.slice none 0 0,nv,yv,.int .i64 0]∧wr.ownsRow w.heap.size 22 1 nv (k+1) (.slice va I.1.size vc::us.take k)∧wr.ownsRow w.heap.size 3 1 yv k (inv ((PL.1.map Prod.fst).take k))∧(∀g,nv.ownBlock=some g→g=w1.heap.size∨w3.heap.size≤g)∧(∀g,yv.ownBlock=some g→w3.heap.size≤g)) (fun iv _=>PL.1.length - (intOf iv).toNat)
 case atStart=>exact⟨0,_,_,Nat.zero_le _,rfl,Gw.refl _ _,HND.out.blk,own_lit HNB.out.blk HNB.out.lo rfl (by omega),⟨rfl,.inl ⟨rfl,rfl⟩⟩,fun g hg=>.inl (by injection hg with hg;exact hg.symm),fun g hg=>(by cases hg)⟩
 case round=>
  obtain⟨k,nv,yv,hk,rfl,hgm,hbk,hno,hyo,hnb,hyb⟩:=hrel
  rename World=>V
  by_cases hlt:k<PL.1.length
  ·have hlti:(k:Int)<(PL.1.length:Int):=by omega
   have hul:=HPO.out.len
   obtain⟨x,hx⟩:∃x,PL.1[k]?=some x:=⟨_,List.getElem?_eq_getElem hlt⟩
   obtain⟨u,hu⟩:∃u,us[k]?=some u:=⟨_,List.getElem?_eq_getElem (by omega)⟩
   obtain⟨ra,rg,rc,hrv,hr1,hr2⟩:=RwG.of_own (G:=fun g=>w2.heap.size≤g) HPO.out.own (fun _ q=>q)
   obtain⟨PG,_,_,pe1⟩:=HPO.out.el
   have hel:=(pe1 k x u hx hu).1
   injection hrv with hrv hrn hrc
   obtain⟨hra,hrg⟩:=hr1 (by omega)
   rw[hra]at hrv
   subst hrv
   obtain⟨c0,c1⟩:=prc_at PL.1 us k x u hx hu
   have r0:=hgm.cell (hr2 (by omega) _ _ c0) (by show ¬(rg=O∨rg=w1.heap.size);omega)
   have r1:=hgm.cell (hr2 (by omega) _ _ c1) (by show ¬(rg=O∨rg=w1.heap.size);omega)
   obtain⟨ua,uc,rfl⟩:=hel.slc
   obtain⟨na,nc,rfl⟩:=own_sl hno
   obtain⟨ya,yc,rfl⟩:=own_sl hyo
   have hVs:w3.heap.size≤V.heap.size:=hgm.size
   have HYL:Hid (∀g,(Value.slice ya k yc).ownBlock=some g→g<V.heap.size):=fun g q=>(World.ownsRow.lt hyo g q).2
   have HNL:Hid (∀g,(Value.slice na (k+1) nc).ownBlock=some g→g<V.heap.size):=fun g q=>(World.ownsRow.lt hno g q).2
   have hOV:O<V.heap.size:=hbk.lt
   obtain⟨W1,hW1⟩:∃W,V.alloc (.cells #[.int .i64 x.1,.slice ua x.2.size uc] 174)=W:=⟨_,rfl⟩
   have hA1:Below V.heap.size V W1:=by rw[← hW1];exact (Below.refl _ _).alloc (Nat.le_refl _) _
   have hX1:Blk W1 V.heap.size 174 #[.int .i64 x.1,.slice ua x.2.size uc]:=by rw[← hW1];exact Blk.new _ _ _
   have hbk1:Blk W1 O 51 #[.int .i64 1,.int .i64 0,.slice none 0 0,.slice na (k+1) nc,.slice ya k yc,.int .i64 0]:=(hA1.block _ hbk.lt).trans hbk
   have hno1:=(Gw.of_below (P:=fun _=>False) hA1).own hno (fun _ _ q=>q.elim)
   have hyo1:=(Gw.of_below (P:=fun _=>False) hA1).own hyo (fun _ _ q=>q.elim)
   have y4:=Blk.cell hbk1 4
   have x0:=hX1.cell 0
   have x1:=hX1.cell 1
   simp only[List.getElem?_toArray,List.getElem?_cons_succ,List.getElem?_cons_zero]at y4 x0 x1
   have hW1s:W1.heap.size=V.heap.size+1:=by rw[← hW1];simp
   have HTK:Hid ((PL.1.map Prod.fst).take (k+1)=(PL.1.map Prod.fst).take k++[x.1]∧us.take (k+1)=us.take k++[.slice ua x.2.size uc]):=by
    refine⟨?_,?_⟩
    ·rw[List.take_add_one,List.getElem?_map,hx];rfl
    ·rw[List.take_add_one,hu];rfl
   have HYO:=hide hyo1
   have HNO:=hide hno1
   have HBK:=hide hbk1
   have HX1:=hide hX1
   have HGM:=hide (hgm.trans (Gw.of_below (P:=fun _=>False) hA1) (fun _ _ q=>q.elim))
   have HNB2:=hide hnb
   have HYB:=hide hyb
   have hs1:=hide hW1s
   clear hul hx hu hr1 hr2 hra hrn hrc c0 c1 hel pe1 hgm hbk hno hyo hnb hyb hA1 hX1 hbk1 hno1 hyo1 hW1s HPO
   go_wp2_with (at_builtin;refine wp_app1V rfl _ _ 24 3 rfl (.int .i64 0) 8 Tryz.underlying24 Tryz.infoGIn rfl (by decide) w.heap.size _ k (inv ((PL.1.map Prod.fst).take k)) rfl (HYO.out.alloc _) W1.heap.size 1 (.int .i64 x.1) rfl (by simp) rfl ?l1 ?b1 ?_)
   case l1=>omega
   case b1=>(have:=HG.out.size;have:=hs1.out;simp;omega)
   intro v6 V6 ho6 hg6 hob6
   have s1:=hs1.out
   have hNw:w1.heap.size+1=O:=HON.out.symm
   have hA2:Below W1.heap.size W1 (W1.alloc (.cells #[.int .i64 x.1] 3)):=(Below.refl _ _).alloc (Nat.le_refl _) _
   have hg6':Gw (fun j=>(Value.slice ya k yc).ownBlock=some j) (W1.alloc (.cells #[.int .i64 x.1] 3)) V6:=Gw.of_grown hg6 (fun j hj _=>hj)
   have hbk6:=hg6'.blk ((hA2.block _ HBK.out.lt).trans HBK.out) (fun q=>by have:=HYB.out O q;omega)
   have hX6:=hg6'.blk ((hA2.block _ HX1.out.lt).trans HX1.out) (fun q=>by have:=HYL.out _ q;omega)
   have hno6:=hg6'.own ((Gw.of_below (P:=fun _=>False) hA2).own HNO.out (fun _ _ q=>q.elim)) (fun g q=>own_ne HNO.out HYO.out (by decide) q)
   have hyb6:∀g,v6.ownBlock=some g→w3.heap.size≤g:=fun g q=>by
    rcases hob6 with z|z
    ·exact HYB.out g (by rw[← z];exact q)
    ·rw[z]at q;injection q with q;omega
   obtain⟨a6,c6,rfl⟩:=own_sl ho6
   have hgs:Gw (· = O) V6 (V6.setCell ⟨O,4,none⟩ (.slice a6 (k+1) c6)):=Gw.set V6 O 4 _
   have hbk7:=Blk.set hbk6 4 (.slice a6 (k+1) c6)
   have hX7:=hgs.blk hX6 (by show ¬V.heap.size=O;omega)
   have hno7:=hgs.own hno6 (fun g q z=>by have:=HNB2.out g q;have z':g=O:=z;omega)
   have hyo7:=hgs.own ho6 (fun g q z=>by have:=hyb6 g q;have z':g=O:=z;omega)
   have hG7:=((HGM.out.trans (Gw.of_below (P:=fun _=>False) hA2) (fun _ _ q=>q.elim)).trans hg6' (fun j hj q=>by have:=HYB.out j q;omega)).trans hgs (fun j hj q=>.inl q)
   have b4:=Blk.cell hbk6 4
   have f4:=Blk.frozen hbk6 4
   have b3:=Blk.cell hbk7 3
   have x71:=hX7.cell 1
   simp only[List.setIfInBounds_toArray,List.set_cons_zero,List.set_cons_succ,List.getElem?_toArray,List.getElem?_cons_succ,List.getElem?_cons_zero]at b4 b3 x71 hbk7
   obtain⟨V7,hV7⟩:∃W,V6.setCell ⟨O,4,none⟩ (.slice a6 (k+1) c6)=W:=⟨_,rfl⟩
   rw[hV7]at hbk7 hX7 hno7 hyo7 hG7 b3 x71
   have hV7s:w3.heap.size≤V7.heap.size:=hG7.size
   have HB7:=hide hbk7
   have HNO7:=hide hno7
   have HYO7:=hide hyo7
   have HG7:=hide hG7
   have HYB6:=hide hyb6
   clear hA2 hg6' hbk6 hX6 hno6 hgs hbk7 hX7 hno7 hyo7 hG7 hob6 hg6 ho6 hyb6 s1 HYB HYL HNL HBK HX1 HNO HYO HGM r0 r1 y4 x0 x1
   go_wp2_with (at_builtin;refine wp_app1V rfl _ _ 49 22 rfl (.slice none 0 0) 24 Tryz.underlying49 Tryz.infoGSn rfl (by decide) w.heap.size _ (k+1) (.slice va I.1.size vc::us.take k) rfl (HNO7.out.alloc _) V7.heap.size 1 (.slice ua x.2.size uc) rfl (by simp) rfl ?l1 ?b1 ?_)
   case l1=>omega
   case b1=>(have:=HG.out.size;simp;omega)
   intro v9 V9 ho9 hg9 hob9
   have hA8:Below V7.heap.size V7 (V7.alloc (.cells #[.slice ua x.2.size uc] 22)):=(Below.refl _ _).alloc (Nat.le_refl _) _
   have hg9':Gw (fun j=>(Value.slice na (k+1) nc).ownBlock=some j) (V7.alloc (.cells #[.slice ua x.2.size uc] 22)) V9:=Gw.of_grown hg9 (fun j hj _=>hj)
   have hbk9:=hg9'.blk ((hA8.block _ HB7.out.lt).trans HB7.out) (fun q=>by have:=HNB2.out O q;omega)
   have hyo9:=hg9'.own ((Gw.of_below (P:=fun _=>False) hA8).own HYO7.out (fun _ _ q=>q.elim)) (fun g q=>own_ne HYO7.out HNO7.out (by decide) q)
   have hnb9:∀g,v9.ownBlock=some g→g=w1.heap.size∨w3.heap.size≤g:=fun g q=>by
    rcases hob9 with z|z
    ·exact HNB2.out g (by rw[← z];exact q)
    ·rw[z]at q;injection q with q;omega
   obtain⟨a9,c9,rfl⟩:=own_sl ho9
   have hgt:Gw (· = O) V9 (V9.setCell ⟨O,3,none⟩ (.slice a9 (k+1+1) c9)):=Gw.set V9 O 3 _
   have hbk10:=Blk.set hbk9 3 (.slice a9 (k+1+1) c9)
   have hno10:=hgt.own ho9 (fun g q z=>by have:=hnb9 g q;have z':g=O:=z;omega)
   have hyo10:=hgt.own hyo9 (fun g q z=>by have:=HYB6.out g q;have z':g=O:=z;omega)
   have hG10:=((HG7.out.trans (Gw.of_below (P:=fun _=>False) hA8) (fun _ _ q=>q.elim)).trans hg9' (fun j hj q=>by have:=HNB2.out j q;omega)).trans hgt (fun j hj q=>.inl q)
   have b3':=Blk.cell hbk9 3
   have f3:=Blk.frozen hbk9 3
   simp only[List.setIfInBounds_toArray,List.set_cons_zero,List.set_cons_succ,List.getElem?_toArray,List.getElem?_cons_succ,List.getElem?_cons_zero]at b3' hbk10
   have HB10:=hide hbk10
   have HN10:=hide hno10
   have HY10:=hide hyo10
   have HG10:=hide hG10
   have HNB10:=hide hnb9
   clear hA8 hg9' hbk9 hyo9 hgt hbk10 hno10 hyo10 hG10 hob9 hg9 ho9 hnb9 b3 x71 b4 f4 hV7 HNB2 HB7 HNO7 HYO7 HG7
   go_wp2
   go_roundw
   case rel=>exact⟨k+1,_,_,hlt,by go_num,HG10.out,HB10.out,by rw[HTK.out.2];exact HN10.out,by rw[HTK.out.1];unfold inv;rw[List.map_append];exact HY10.out,HNB10.out,HYB6.out⟩
   case measure=>simp[intOf];omega
  ·obtain rfl:k=PL.1.length:=by omega
   have hul:=HPO.out.len
   have hnl:¬((PL.1.length:Int)<(PL.1.length:Int)):=by omega
   rw[List.take_of_length_le (by omega)]at hno
   rw[List.take_of_length_le (by rw[List.length_map];omega)]at hyo
   have hNw:w1.heap.size+1=O:=HON.out.symm
   obtain⟨na,nc,rfl⟩:=own_sl hno
   obtain⟨ya,yc,rfl⟩:=own_sl hyo
   obtain⟨PG,pd1,ps1,pe1⟩:=HPO.out.el
   have hN3:∀(j:Nat) (y:ByteArray),(I.1::PL.1.map Prod.snd)[j]?=some y→∃u,(.slice va I.1.size vc::us)[j]?=some u∧BGf V (match j with|0=>fun g=>w.heap.size≤g∧g<w1.heap.size|j+1=>PG j) u y∧y.size≤5000:=fun j y hj=>by
    cases j with
    |zero=>
     injection hj with hj
     rw[← hj]
     exact⟨_,rfl,HNV.out.bg.gw hgm (fun k hk q=>by omega),hvs⟩
    |succ j=>
     have hj':(PL.1.map Prod.snd)[j]?=some y:=by simpa using hj
     rw[List.getElem?_map]at hj'
     cases hx:PL.1[j]? with
     |none=>rw[hx]at hj';cases hj'
     |some x=>
      rw[hx]at hj'
      injection hj' with hj'
      have hjl:j<us.length:=by have:=(List.getElem?_eq_some_iff.1 hx).1;omega
      have h9:=pe1 j x us[j] hx (List.getElem?_eq_getElem hjl)
      rw[← hj']
      exact⟨us[j],by simp[List.getElem?_eq_getElem hjl],h9.1.gw hgm (fun k hk q=>by have:=ps1 _ _ q;omega),h9.2⟩
   have hNr:RwG V (fun g=>w.heap.size≤g) (.slice na (PL.1.length+1) nc) (PL.1.length+1) (.slice va I.1.size vc::us):=RwG.of_own hno (fun _ q=>q)
   have hTr:RGf V (fun g=>w3.heap.size≤g) (.slice ya PL.1.length yc) PL.1.length (inv (PL.1.map Prod.fst)):=RGf.of_own hyo hyb
   have hln:(I.1::PL.1.map Prod.snd).length=PL.1.length+1:=by rw[List.length_cons,List.length_map]
   have hlt':(PL.1.map Prod.fst).length=PL.1.length:=List.length_map _
   have hMl:(Value.slice va I.1.size vc::us).length=(I.1::PL.1.map Prod.snd).length:=by rw[hln,List.length_cons,hul]
   have HND2:Hid (NdA w V O V.heap.size ⟨{ ndK 1 with names:=I.1::PL.1.map Prod.snd,types:=PL.1.map Prod.fst },.slice none 0 0,.slice na (PL.1.length+1) nc,.slice ya PL.1.length yc⟩):=by
    refine⟨hbk,HND.out.lo,Nv.Od.mono (G:=fun g=>w.heap.size≤g) ?_ (fun g q hl=>⟨q,hl⟩)⟩
    refine⟨⟨RwG.nil _ _ _ _,⟨.slice va I.1.size vc::us,hMl,?_,fun j y hj=>?_⟩,?_,by show (0:Nat)≤_;omega,by show (I.1::PL.1.map Prod.snd).length≤_;omega,fun y hy=>?_,by show (PL.1.map Prod.fst).length≤_;omega⟩,fun j=>(match j with|0=>fun _=>False|1=>fun g=>w3.heap.size≤g|2=>fun g=>w.heap.size≤g∧g<w1.heap.size|j+3=>PG j),fun i j g q x z=>?_,fun j g x=>?_,RGf.nil _ _ _,?_,.slice va I.1.size vc::us,hMl,?_,fun j y hj=>?_⟩
    ·show RwG V _ _ (I.1::PL.1.map Prod.snd).length _
     rw[hln];exact hNr
    ·obtain⟨u,h1,h2,_⟩:=hN3 j y hj
     refine⟨u,h1,h2.bg.mono (fun g q _=>?_)⟩
     cases j with
     |zero=>exact q.1
     |succ j=>have:=ps1 _ _ q;omega
    ·show RwG V _ _ (PL.1.map Prod.fst).length _
     rw[hlt'];exact hTr.row.mono (ne_of_len (by unfold inv;rw[List.length_map,hlt'];exact Nat.le_refl _)) (fun g q _=>by show w.heap.size≤g;omega)
    ·obtain⟨j,hj,hjx⟩:=List.getElem_of_mem (show y∈I.1::PL.1.map Prod.snd from hy)
     obtain⟨u,_,_,h3⟩:=hN3 j y (by rw[List.getElem?_eq_getElem hj,hjx])
     omega
    ·match i,j,q,x,z with
     |0,_,_,x,_=>exact x
     |_,0,_,_,z=>exact z
     |1,1,q,_,_=>exact q rfl
     |1,2,_,x,z=>have z':=z.2;have x':w3.heap.size≤g:=x;omega
     |1,j+3,_,x,z=>have z':=ps1 _ _ z;have x':w3.heap.size≤g:=x;omega
     |2,1,_,x,z=>have x':=x.2;have z':w3.heap.size≤g:=z;omega
     |2,2,q,_,_=>exact q rfl
     |2,j+3,_,x,z=>have z':=ps1 _ _ z;have x':=x.2;omega
     |i+3,1,_,x,z=>have x':=ps1 _ _ x;have z':w3.heap.size≤g:=z;omega
     |i+3,2,_,x,z=>have x':=ps1 _ _ x;have z':=z.2;omega
     |i+3,j+3,q,x,z=>exact pd1 i j g (by omega) x z
    ·match j,x with
     |0,x=>exact x.elim
     |1,x=>have x':w3.heap.size≤g:=x;show w.heap.size≤g;omega
     |2,x=>exact x.1
     |j+3,x=>have x':=ps1 _ _ x;show w.heap.size≤g;omega
    ·show RGf V _ _ (PL.1.map Prod.fst).length _
     rw[hlt'];exact hTr
    ·show RwG V _ _ (I.1::PL.1.map Prod.snd).length _
     rw[hln];exact hNr
    ·obtain⟨u,h1,h2,_⟩:=hN3 j y hj
     refine⟨u,h1,?_⟩
     cases j with
     |zero=>exact h2
     |succ j=>exact h2
   replace HQ:=hide (HQ.out.far hgm (fun k hk=>by have:=HND.out.lo;have:=HNB.out.lo;omega))
   replace HG:=hide (HG.out.trans hgm (fun j hj q=>by have:=HND.out.lo;have:=HNB.out.lo;omega))
   have HRM:Hid (ptN { ndK 1 with names:=A.2.1,types:=A.1 } pl [U.1]=ptN { ndK 1 with names:=I.1::PL.1.map Prod.snd,types:=PL.1.map Prod.fst } pl [U.1]):=by show _=_;rw[HSA.out.1,HSA.out.2]
   clear hgm hno hyo hnb hyb hul HND HNB HNV HPO hk hlt hbk pe1 ps1 pd1 hN3 hNr hTr hln hlt' hMl
   obtain⟨n0,n1,n2,n3,n4,n5⟩:=HND2.out.cells
   simp only[ndK]at n0 n1 n2 n3 n4 n5
   go_wp2_with fail
   have hbd:Below V.heap.size V V.drew:=(Below.refl _ _).drew
   replace HND2:=hide (HND2.out.kept hbd)
   replace HQ:=hide (HQ.out.below hbd)
   replace HG:=hide (HG.out.blw hbd)
   have hzd:V.heap.size≤V.drew.heap.size:=Nat.le_refl _
   clear hbd
   refine wp_region_held_drew (S:=fun W=>Hid (W.cell? ⟨O,0,none⟩=some (.int .i64 1)∧W.cell? ⟨O,1,none⟩=some (.int .i64 0)∧W.cell? ⟨O,2,none⟩=some (.slice none 0 0)∧W.cell? ⟨O,3,none⟩=some (.slice na (PL.1.length+1) nc)∧W.cell? ⟨O,4,none⟩=some (.slice ya PL.1.length yc)∧W.cell? ⟨O,5,none⟩=some (.int .i64 0))) (by kernel_rfl) (⟨n0,n1,n2,n3,n4,n5⟩) (fun hHeld=>?_)
   refine wpAnyH_take (i:=0) (v:=?_) rfl (by kernel_rfl) (by kernel_rfl) (by kernel_rfl) (fun _ _ _ h=>h) (Or.inl ⟨by rfl,?_⟩) hHeld ?_
   rotate_left 1
   ·intro Wx hSW;simp only[List.getElem_toArray,List.getElem_cons_zero];obtain⟨u0,u1,u2,u3,u4,u5⟩:=hSW.out;go_simp;try with_reducible rfl
   try simp only[Act.put,List.getElem_toArray,List.getElem_cons_zero,List.setIfInBounds_toArray,List.set_cons_zero,List.set_cons_succ]
   refine wpAnyH_take (i:=1) (v:=?_) rfl (by kernel_rfl) (by kernel_rfl) (by kernel_rfl) (fun _ _ _ h=>h) (Or.inl ⟨by rfl,?_⟩) hHeld ?_
   rotate_left 1
   ·intro Wx hSW;simp only[List.getElem_toArray,List.getElem_cons_zero,List.getElem_cons_succ];go_simp;try with_reducible rfl
   try simp only[Act.put,List.getElem_toArray,List.getElem_cons_zero,List.getElem_cons_succ,List.setIfInBounds_toArray,List.set_cons_zero,List.set_cons_succ]
   refine wpAnyH_take (i:=2) (v:=?_) rfl (by kernel_rfl) (by kernel_rfl) (by kernel_rfl) (fun _ _ _ h=>h) (Or.inl ⟨by rfl,?_⟩) hHeld ?_
   rotate_left 1
   ·intro Wx hSW;simp only[List.getElem_toArray,List.getElem_cons_zero,List.getElem_cons_succ];go_simp;try with_reducible rfl
   try simp only[Act.put,List.getElem_toArray,List.getElem_cons_zero,List.getElem_cons_succ,List.setIfInBounds_toArray,List.set_cons_zero,List.set_cons_succ]
   refine wpAnyH_ready (rs:=[3]) (by kernel_rfl) (by simp) ?_
   refine AllReadyH.cons rfl (fun K hK=>?_) AllReadyH.nil
   go_simp
   refine (HC4.out V.drew HQ.out hb3).mono ?_
   rintro r w6 ⟨hg,⟨hb6,hq,v,rfl,⟨⟨t6,a6,rfl⟩,hpm⟩⟩|⟨hb6,rfl⟩⟩
   rotate_left 1
   ·exact⟨rfl,RQ.fault hb6 (Mv.refl e _) (HG.out.tr hg)⟩
   replace HND2:=hide (HND2.out.rd hg hPl)
   have HP6:Hid (PmI w.heap.size w6 V.drew.heap.size w6.heap.size U.1 (.iface t6 a6)):=⟨HG.out.size,hpm.iv⟩
   replace HG:=hide (HG.out.tr hg)
   replace HQ:=hide hq
   clear hg hq hpm HC4 n0 n1 n2 n3 n4 n5
   obtain⟨n0,n1,n2,n3,n4,n5⟩:=HND2.out.cells
   simp only[ndK]at n0 n1 n2 n3 n4 n5
   go_wp2_with fail
   refine hK.out _ _ ⟨n0,n1,n2,n3,n4,n5⟩ (fun hHeld=>?_)
   clear hK K
   try simp only[Act.put,List.getElem_toArray,List.getElem_cons_zero,List.getElem_cons_succ,List.setIfInBounds_toArray,List.set_cons_zero,List.set_cons_succ]
   have hA:Below w6.heap.size w6 (w6.alloc (.cells #[.iface t6 a6] 65)):=(Below.refl _ _).alloc (Nat.le_refl _) _
   refine wpAnyH_ready (rs:=[4]) (by kernel_rfl) (by simp) ?_
   refine AllReadyH.cons rfl (fun K hK=>?_) AllReadyH.nil
   go_simp
   refine hK.out _ _ (⟨cell_kept n0 hA,cell_kept n1 hA,cell_kept n2 hA,cell_kept n3 hA,cell_kept n4 hA,cell_kept n5 hA⟩) (fun hHeld=>?_)
   clear hK K
   try simp only[Act.put,List.getElem_toArray,List.getElem_cons_zero,List.getElem_cons_succ,List.setIfInBounds_toArray,List.set_cons_zero,List.set_cons_succ]
   have HMK:=hide (qmake_any pl (show (0:Int)≤1∧(1:Int)≤22 by decide) (Kids.of (HND2.out.kept hA).ok ((Pts.one HP6.out.pm).kept hA) hzd HP6.out.lo) (ks:=[U.1]) (us:=[.iface t6 a6]) rfl (RwG.of_blk (Blk.new w6 65 #[.iface t6 a6]) HG.out.size 1))
   replace HQ:=hide (HQ.out.below hA)
   replace HG:=hide (HG.out.blw hA)
   have HN:=hide (HND2.out.kept hA)
   refine wpAnyH_ready (rs:=[5]) (by kernel_rfl) (by simp) ?_
   refine AllReadyH.cons rfl (fun K hK=>?_) AllReadyH.nil
   go_simp
   clear n0 n1 n2 n3 n4 n5 hA HND2 HP6
   refine HMK.out.mono ?_
   rintro r v2 ⟨⟨t',a',rfl,hpm⟩,hb⟩
   obtain⟨n0,n1,n2,n3,n4,n5⟩:=(HN.out.kept hb).cells
   simp only[ndK]at n0 n1 n2 n3 n4 n5
   replace HG:=hide (HG.out.blw hb)
   replace HQ:=hide (HQ.out.below hb)
   have HPM:=hide hpm
   clear hpm hb HMK HN
   go_wp2_with fail
   refine hK.out _ _ ⟨n0,n1,n2,n3,n4,n5⟩ (fun hHeld=>?_)
   clear hK K n0 n1 n2 n3 n4 n5
   try simp only[Act.put,List.getElem_toArray,List.getElem_cons_zero,List.getElem_cons_succ,List.setIfInBounds_toArray,List.set_cons_zero,List.set_cons_succ]
   refine wpAnyH_take (i:=6) (v:=?_) rfl (by kernel_rfl) (by kernel_rfl) (by kernel_rfl) (fun _ _ _ h=>h) (Or.inl ⟨by rfl,?_⟩) hHeld ?_
   rotate_left 1
   ·intro Wx hSW;simp only[List.getElem_toArray,List.getElem_cons_zero,List.getElem_cons_succ];go_simp;try with_reducible rfl
   try simp only[Act.put,List.getElem_toArray,List.getElem_cons_zero,List.getElem_cons_succ,List.setIfInBounds_toArray,List.set_cons_zero,List.set_cons_succ]
   refine wpAnyH_done (by kernel_rfl) ?_ _
   go_wp2
   go_ret
   rw[HRM.out]
   exact RQ.ok hb6 HG.out HQ.out ⟨⟨_,_,rfl⟩,HPM.out⟩
end Go.Proofs.YtbiakdjpeblclaaGreatDoor
