/-
  Nodes that are marked.
-/
import Derived.Test.YtbiakdjpeblclaaGreatDoorJPaMKB
import Derived.Test.YtbiakdjpeblclaaGreatDoorJPaQMT
import Derived.Test.YtbiakdjpeblclaaGreatDoorJPaMK
namespace Go.Proofs.YtbiakdjpeblclaaGreatDoor
open Go.RowKit
def cst (d:Nd):Nat:=d.text.size+tS d.names d.names.length+d.types.length+3
def cN (M:List Nv)(j:Nat):Nat:=((M.take j).map fun m=>cst m.d).sum
theorem cN_succ {M:List Nv}{j:Nat}{m:Nv}(h:M[j]?=some m):cN M (j+1)=cN M j+cst m.d:=by
 unfold cN
 rw[List.take_add_one,h]
 simp
theorem cst_le {w:World}{G:Nat→Prop}{m:Nv}(h:m.Ok w G):cst m.d≤1099513724931:=by
 have h1:=h.b1
 have h2:=h.b2
 have h3:=tS_le h.b3 m.d.names.length
 have h4:=h.b4
 unfold cst
 omega
structure NkC (w:World)(b p:Nat)(x0 x1 x5:Int)(m:Nv):Prop where
 c0:w.cell? ⟨b,p,none⟩=some (.int .i64 x0)
 c1:w.cell? ⟨b,p+1,none⟩=some (.int .i64 x1)
 c2:w.cell? ⟨b,p+2,none⟩=some m.t
 c3:w.cell? ⟨b,p+3,none⟩=some m.n
 c4:w.cell? ⟨b,p+4,none⟩=some m.y
 c5:w.cell? ⟨b,p+5,none⟩=some (.int .i64 x5)
theorem off_ne {b i j:Nat}(h:i≠j):(⟨b,j,none⟩:Addr)≠⟨b,i,none⟩:=fun e=>by injection e with _ e _;omega
theorem cell_far {w:World}{b i j:Nat}{u x:Value}(h:w.cell? ⟨b,i,none⟩=some x)(hn:i≠j):(w.setCell ⟨b,j,none⟩ u).cell? ⟨b,i,none⟩=some x:=by rw[World.cell?_setCell_other _ _ _ _ (off_ne hn)];exact h
theorem NkC.gw {P:Nat→Prop}{w w':World}{b p:Nat}{x0 x1 x5:Int}{m:Nv}(h:NkC w b p x0 x1 x5 m)(hg:Gw P w w')(hp:¬P b):NkC w' b p x0 x1 x5 m:=
 ⟨hg.cell h.c0 hp,hg.cell h.c1 hp,hg.cell h.c2 hp,hg.cell h.c3 hp,hg.cell h.c4 hp,hg.cell h.c5 hp⟩
theorem NkC.far {w:World}{b p q:Nat}{x0 x1 x5:Int}{m:Nv}{u:Value}(h:NkC w b p x0 x1 x5 m)(hq:q<p∨p+6≤q):NkC (w.setCell ⟨b,q,none⟩ u) b p x0 x1 x5 m:=
 ⟨cell_far h.c0 (by omega),cell_far h.c1 (by omega),cell_far h.c2 (by omega),cell_far h.c3 (by omega),cell_far h.c4 (by omega),cell_far h.c5 (by omega)⟩
theorem NkC.set0 {w:World}{b p:Nat}{x0 x1 x5:Int}{m:Nv}(h:NkC w b p x0 x1 x5 m)(y:Int):NkC (w.setCell ⟨b,p,none⟩ (.int .i64 y)) b p y x1 x5 m:=
 ⟨World.cell?_setCell_same _ _ _ h.c0,cell_far h.c1 (by omega),cell_far h.c2 (by omega),cell_far h.c3 (by omega),cell_far h.c4 (by omega),cell_far h.c5 (by omega)⟩
theorem NkC.set1 {w:World}{b p:Nat}{x0 x1 x5:Int}{m:Nv}(h:NkC w b p x0 x1 x5 m)(y:Int):NkC (w.setCell ⟨b,p+1,none⟩ (.int .i64 y)) b p x0 y x5 m:=
 ⟨cell_far h.c0 (by omega),World.cell?_setCell_same _ _ _ h.c1,cell_far h.c2 (by omega),cell_far h.c3 (by omega),cell_far h.c4 (by omega),cell_far h.c5 (by omega)⟩
theorem NkC.set5 {w:World}{b p:Nat}{x0 x1 x5:Int}{m:Nv}(h:NkC w b p x0 x1 x5 m)(y:Int):NkC (w.setCell ⟨b,p+5,none⟩ (.int .i64 y)) b p x0 x1 y m:=
 ⟨cell_far h.c0 (by omega),cell_far h.c1 (by omega),cell_far h.c2 (by omega),cell_far h.c3 (by omega),cell_far h.c4 (by omega),World.cell?_setCell_same _ _ _ h.c5⟩
def MkN (w:World)(G:Nat→Prop)(m:Nv)(k:Nat):Prop:=∃Gs,Dj Gs∧(∀j g,Gs j g→G g)∧RwG w (Gs 0) m.t m.d.text.size (mks mkB k m.d.text.size)∧SMk w G Gs m.n m.d.names (k+m.d.text.size)∧RwG w (Gs 1) m.y m.d.types.length (mks mkI (k+m.d.text.size+tS m.d.names m.d.names.length) m.d.types.length)
theorem SMk.gw {P:Nat→Prop}{w w':World}{G:Nat→Prop}{Gs:Nat→Nat→Prop}{v:Value}{L:List ByteArray}{k:Nat}(h:SMk w G Gs v L k)(hg:Gw P w w')(hp:∀k,P k→¬G k)(hs:∀j g,Gs j g→G g):SMk w' G Gs v L k:=by
 obtain⟨M,h1,h2,h3⟩:=h
 refine⟨M,h1,h2.gw hg hp,fun j x hj=>?_⟩
 obtain⟨u,a,b⟩:=h3 j x hj
 exact⟨u,a,b.gw hg (fun k q z=>hp k q (hs _ _ z))⟩
theorem SMk.ints {P:Nat→Prop}{w w':World}{G:Nat→Prop}{Gs:Nat→Nat→Prop}{v:Value}{L:List ByteArray}{k:Nat}(h:SMk w G Gs v L k)(hg:Gw (fun g=>P g∧InB w g) w w')(hp:∀j k,P k→¬Gs (j+2) k):SMk w' G Gs v L k:=by
 obtain⟨M,h1,h2,h3⟩:=h
 refine⟨M,h1,h2.slcs (fun h0=>?_) hg,fun j x hj=>?_⟩
 ·obtain⟨u,a,⟨a',_,c',e,_⟩⟩:=h3 0 L[0] (List.getElem?_eq_getElem h0)
  rw[e]at a
  exact⟨_,_,_,a⟩
 ·obtain⟨u,a,b⟩:=h3 j x hj
  exact⟨u,a,b.gw hg (fun k q z=>hp _ k q.1 z)⟩
theorem SGd.ints {P:Nat→Prop}{w w':World}{G:Nat→Prop}{Gs:Nat→Nat→Prop}{v:Value}{L:List ByteArray}(h:SGd w G Gs v L)(hg:Gw (fun g=>P g∧InB w g) w w')(hp:∀j k,P k→¬Gs (j+2) k):SGd w' G Gs v L:=by
 obtain⟨M,h1,h2,h3⟩:=h
 refine⟨M,h1,h2.slcs (fun h0=>?_) hg,fun j x hj=>?_⟩
 ·obtain⟨u,a,b⟩:=h3 0 L[0] (List.getElem?_eq_getElem h0)
  obtain⟨a',c',e⟩:=b.slc
  rw[e]at a
  exact⟨_,_,_,a⟩
 ·obtain⟨u,a,b⟩:=h3 j x hj
  exact⟨u,a,b.gw hg (fun k q z=>hp _ k q.1 z)⟩
theorem MkN.gw {P:Nat→Prop}{w w':World}{G:Nat→Prop}{m:Nv}{k:Nat}(h:MkN w G m k)(hg:Gw P w w')(hp:∀k,P k→¬G k):MkN w' G m k:=by
 obtain⟨Gs,h1,h2,h3,h4,h5⟩:=h
 exact⟨Gs,h1,h2,h3.gw hg (fun k q z=>hp k q (h2 _ _ z)),h4.gw hg hp h2,h5.gw hg (fun k q z=>hp k q (h2 _ _ z))⟩
structure NdK (w:World)(b p:Nat)(G:Nat→Prop)(m:Nv)(k:Nat):Prop where
 cs:NkC w b p (k:Nat) ((k+1:Nat):Int) ((k+cst m.d - 1:Nat):Int) m
 sl:MkN w G m (k+2)
theorem NdK.gw {P:Nat→Prop}{w w':World}{b p:Nat}{G:Nat→Prop}{m:Nv}{k:Nat}(h:NdK w b p G m k)(hg:Gw P w w')(hp:∀k,P k→¬G k)(hb:¬P b):NdK w' b p G m k:=⟨h.cs.gw hg hb,h.sl.gw hg hp⟩
structure NKj (w0 w:World)(b:Nat)(Gs:Nat→Nat→Prop)(M:List Nv)(k j:Nat):Prop where
 fz:∀p,w.frozen? ⟨b,p,none⟩=false
 fst:∀(i:Nat) (m:Nv),M[i]?=some m→i<j→NdK w b (i*6) (Gs i) m (k+cN M i)
 nxt:∀(i:Nat) (m:Nv),M[i]?=some m→j≤i→NkC w b (i*6) m.d.kind m.d.n m.d.count m∧m.Od w (Gs i)
 frm:Gw (fun g=>(∃i,Gs i g)∨g=b) w0 w
theorem cN_le {w:World}{M:List Nv}(h:∀(i:Nat) (m:Nv),M[i]?=some m→∃G,m.Ok w G):∀j,cN M j≤j*1099513724931
 |0=>by unfold cN;simp
 |j+1=>by
  have ih:=cN_le h j
  cases e:M[j]? with
  |none=>
   have:cN M (j+1)=cN M j:=by unfold cN;rw[List.take_add_one,e];simp
   omega
  |some m=>
   rw[cN_succ e]
   obtain⟨G,hm⟩:=h j m e
   have:=cst_le hm
   omega
theorem fz_gw {P:Nat→Prop}{w w':World}{b:Nat}(hg:Gw P w w')(hb:b<w.heap.size)(hp:¬P b)(h:∀p,w.frozen? ⟨b,p,none⟩=false)(p:Nat):w'.frozen? ⟨b,p,none⟩=false:=by
 rw[World.frozen?_of_block (w:=w) (hg.block b hb hp)];exact h p
set_option maxHeartbeats 4000000 in
set_option maxRecDepth 1000000 in
theorem markNS_r {w:World}{b cap:Nat}{Gs:Nat→Nat→Prop}{M:List Nv}(hD:Dj Gs)(hnb:∀i,¬Gs i b)(hl:M.length≤100000)(h:NKj w w b Gs M 1 0)(a0:Option Addr)(ha:0<M.length→a0=some ⟨b,0,none⟩):
 Calls Tryz.prog 11 #[.slice a0 M.length cap,.int .i64 1] w fun r w'=>r = .returned (.int .i64 (1+cN M M.length:Nat))∧NKj w w' b Gs M 1 M.length:=by
 have HST:=hide h
 have HCN:=hide (cN_le (w:=w) (M:=M) (fun i m e=>⟨_,(h.nxt i m e (Nat.zero_le _)).2.ok⟩))
 have HD:=hide hD
 have HNB:=hide hnb
 clear h hD hnb
 go_enter Tryz.func11,Tryz.ntmps11
 go_wp2
 go_loopw [1,5] (fun kk ix wr=>∃j:Nat,j≤M.length∧ix = .int .i64 j∧kk = .int .i64 (1+cN M j:Nat)∧NKj w wr b Gs M 1 j) (fun _ ix _=>M.length - (intOf ix).toNat)
 case atStart=>exact⟨0,Nat.zero_le _,rfl,rfl,HST.out⟩
 case round=>
  obtain⟨j,hj,rfl,rfl,hst⟩:=hrel
  have HJ:=hide hst
  by_cases q:j<M.length
  ·have hqi:(j:Int)<(M.length:Int):=by omega
   obtain rfl:=ha (by omega)
   obtain⟨m,hm⟩:∃m,M[j]?=some m:=⟨M[j],List.getElem?_eq_getElem q⟩
   obtain⟨hc,hod⟩:=hst.nxt j m hm (Nat.le_refl _)
   have hcn:=HCN.out j
   have HCS:=hide (cN_succ hm)
   have hbz:b<wr.heap.size:=World.block_lt_of_cell? _ _ hc.c0
   obtain⟨kk,hkk⟩:∃kk,1+cN M j=kk:=⟨_,rfl⟩
   have hku:kk≤200000000000000000:=by omega
   have HKK:=hide hkk
   rw[hkk]
   have HMJ:=hide hm
   have h0:=hc.c0
   have fz0:=hst.fz (j*6)
   obtain⟨W1,hW1⟩:∃W,wr.setCell ⟨b,j*6,none⟩ (.int .i64 (kk:Nat))=W:=⟨_,rfl⟩
   have hc1:=hc.set0 (kk:Nat)
   have hg1:=Gw.set wr b (j*6) (.int .i64 (kk:Nat))
   have hod1:=hod.gw hg1 (fun z e y=>HNB.out j (e ▸ y))
   have hz1:∀p,(wr.setCell ⟨b,j*6,none⟩ (.int .i64 (kk:Nat))).frozen? ⟨b,p,none⟩=false:=fun p=>by rw[World.frozen?_setCell];exact hst.fz p
   have fr1:∀p' x0 x1 x5 m',p'+6≤j*6∨j*6+6≤p'→NkC wr b p' x0 x1 x5 m'→NkC (wr.setCell ⟨b,j*6,none⟩ (.int .i64 (kk:Nat))) b p' x0 x1 x5 m':=fun p' _ _ _ _ hp h=>h.far (by omega)
   rw[hW1]at hc1 hg1 hod1 hz1 fr1
   have h1:=hc1.c1
   have fz1:=hz1 (j*6+1)
   obtain⟨W2,hW2⟩:∃W,W1.setCell ⟨b,j*6+1,none⟩ (.int .i64 ((kk:Int)+1))=W:=⟨_,rfl⟩
   have hc2:=hc1.set1 ((kk:Int)+1)
   have hg2:=Gw.set W1 b (j*6+1) (.int .i64 ((kk:Int)+1))
   have hod2:=hod1.gw hg2 (fun z e y=>HNB.out j (e ▸ y))
   have hz2:∀p,(W1.setCell ⟨b,j*6+1,none⟩ (.int .i64 ((kk:Int)+1))).frozen? ⟨b,p,none⟩=false:=fun p=>by rw[World.frozen?_setCell];exact hz1 p
   have fr2:∀p' x0 x1 x5 m',p'+6≤j*6∨j*6+6≤p'→NkC wr b p' x0 x1 x5 m'→NkC (W1.setCell ⟨b,j*6+1,none⟩ (.int .i64 ((kk:Int)+1))) b p' x0 x1 x5 m':=fun p' _ _ _ _ hp h=>(fr1 _ _ _ _ _ hp h).far (by omega)
   rw[hW2]at hc2 hg2 hod2 hz2 fr2
   have hG2:=hg1.trans hg2 (fun _ _ e=>e)
   obtain⟨Gt,d1,s1,ht,hy,hnm⟩:=hod2.ap
   have hbt:∀i,¬Gt i b:=fun i z=>HNB.out j (s1 _ _ z)
   obtain⟨hb1,hb2,hb3,hb4⟩:m.d.text.size≤1048576∧m.d.names.length≤1048576∧(∀x∈m.d.names,x.size≤1048576)∧m.d.types.length≤1048576:=⟨hod.ok.b1,hod.ok.b2,hod.ok.b3,hod.ok.b4⟩
   have htl:=tS_le hb3 m.d.names.length
   have HB3:=hide hb3
   have hsb:cst m.d=m.d.text.size+tS m.d.names m.d.names.length+m.d.types.length+3:=rfl
   have HSB:=hide hsb
   obtain⟨a2,c2,e2⟩:=ht.slc
   obtain⟨a3,c3,e3⟩:∃a c,m.n = .slice a m.d.names.length c:=by obtain⟨_,_,⟨a,_,c,e,_⟩,_⟩:=hnm;exact⟨a,c,e⟩
   obtain⟨a4,c4,e4⟩:∃a c,m.y = .slice a m.d.types.length c:=by obtain⟨⟨a,_,c,e,_⟩,_⟩:=hy;exact⟨a,c,e⟩
   have h2:=hc2.c2
   rw[e2]at h2
   have HC2:=hide (markB_r (k:=kk+2) (by omega) (by omega) ht)
   rw[e2,show ((kk+2:Nat):Int)=(kk:Int)+2 by omega]at HC2
   have HE:=hide (And.intro e2 (And.intro e3 e4))
   have HX2:=hide (And.intro hc2 (And.intro hz2 (And.intro fr2 hG2)))
   have HGT:=hide (And.intro d1 (And.intro s1 hbt))
   have HY2:=hide hy
   have HN2:=hide hnm
   have hb2z:b<W2.heap.size:=World.block_lt_of_cell? _ _ hc2.c0
   have HBZ:=hide hb2z
   clear hst hc hod hm hkk hc1 hc2 hg1 hg2 hod1 hod2 hz1 hz2 fr1 fr2 hG2 d1 s1 hbt ht hy hnm e2 e3 e4 hsb hb3 hcn hb2z hbz
   go_wp2_with fail
   refine HC2.out.mono ?_
   rintro r V3 ⟨rfl,hr3,hg3⟩
   have hbn:¬(Gt 0 b∧InB W2 b):=fun z=>HGT.out.2.2 0 z.1
   obtain⟨x2,y2,z2,u2⟩:=HX2.out
   have hc3:=x2.gw hg3 hbn
   have hy3:=HY2.out.gw hg3 (fun z p y=>HGT.out.1 0 1 z (by omega) p.1 y)
   have hn3:=HN2.out.ints hg3 (fun i z p y=>HGT.out.1 0 (i+2) z (by omega) p y)
   have hz3:=fz_gw hg3 HBZ.out hbn y2
   have fr3:∀p' x0 x1 x5 m',p'+6≤j*6∨j*6+6≤p'→NkC wr b p' x0 x1 x5 m'→NkC V3 b p' x0 x1 x5 m':=fun p' _ _ _ _ hp h=>(z2 _ _ _ _ _ hp h).gw hg3 hbn
   have hG3:Gw (fun g=>Gs j g∨g=b) wr V3:=(u2.mono (Q:=fun g=>Gs j g∨g=b) (fun _ _ e=>.inr e)).trans hg3 (fun _ _ e=>.inl (HGT.out.2.1 _ _ e.1))
   obtain⟨M3,hM3⟩:∃M,kk+2+m.d.text.size=M:=⟨_,rfl⟩
   rw[hM3]
   have hM3u:M3≤300000000000000000:=by omega
   have h3:=hc3.c3
   rw[HE.out.2.1]at h3
   have HC3:=hide (markSS_r M3 HGT.out.1 hb2 HB3.out (by omega) hn3)
   rw[HE.out.2.1]at HC3
   have HM3:=hide hM3
   have HX3:=hide (And.intro hc3 (And.intro hz3 (And.intro fr3 hG3)))
   have HY3:=hide hy3
   have HR3:=hide hr3
   have hb3z:b<V3.heap.size:=World.block_lt_of_cell? _ _ hc3.c0
   have HBZ3:=hide hb3z
   clear hr3 hg3 hbn x2 y2 z2 u2 hc3 hy3 hn3 hz3 fr3 hG3 hM3 hb3z h0 h1 h2 hW1 hW2 fz0 fz1 HC2 HX2 HY2 HN2 HBZ
   go_wp2_with fail
   refine HC3.out.mono ?_
   rintro r V4 ⟨rfl,hs4,hg4⟩
   have hbn:¬((∃i,Gt (i+2) b)∧InB V3 b):=fun z=>by obtain⟨i,z⟩:=z.1;exact HGT.out.2.2 _ z
   obtain⟨x2,y2,z2,u2⟩:=HX3.out
   have hc4:=x2.gw hg4 hbn
   have hy4:=HY3.out.gw hg4 (fun z p y=>by obtain⟨i,p⟩:=p.1;exact HGT.out.1 _ 1 z (by omega) p y)
   have hr4:=HR3.out.gw hg4 (fun z p y=>by obtain⟨i,p⟩:=p.1;exact HGT.out.1 _ 0 z (by omega) p y)
   have hz4:=fz_gw hg4 HBZ3.out hbn y2
   have fr4:∀p' x0 x1 x5 m',p'+6≤j*6∨j*6+6≤p'→NkC wr b p' x0 x1 x5 m'→NkC V4 b p' x0 x1 x5 m':=fun p' _ _ _ _ hp h=>(z2 _ _ _ _ _ hp h).gw hg4 hbn
   have hG4:Gw (fun g=>Gs j g∨g=b) wr V4:=u2.trans hg4 (fun _ _ e=>.inl (by obtain⟨i,z⟩:=e.1;exact HGT.out.2.1 _ _ z))
   obtain⟨M4,hM4⟩:∃M,M3+tS m.d.names m.d.names.length=M:=⟨_,rfl⟩
   rw[hM4]
   have hM4u:M4≤400000000000000000:=by omega
   have h4:=hc4.c4
   rw[HE.out.2.2]at h4
   have HC4:=hide (markI_r (k:=M4) (by omega) (by omega) hy4 (inv_int _))
   rw[HE.out.2.2]at HC4
   have HM4:=hide hM4
   have HX4:=hide (And.intro hc4 (And.intro hz4 (And.intro fr4 hG4)))
   have HS4:=hide hs4
   have HR4:=hide hr4
   have hb4z:b<V4.heap.size:=World.block_lt_of_cell? _ _ hc4.c0
   have HBZ4:=hide hb4z
   clear hg4 hbn x2 y2 z2 u2 hc4 hy4 hr4 hs4 hz4 fr4 hG4 hM4 hb4z h3 HC3 HX3 HY3 HR3 HBZ3
   go_wp2_with fail
   refine HC4.out.mono ?_
   rintro r V5 ⟨rfl,hr5,hg5⟩
   have hbn:¬(Gt 1 b∧InB V4 b):=fun z=>HGT.out.2.2 1 z.1
   obtain⟨x2,y2,z2,u2⟩:=HX4.out
   have hc5:=x2.gw hg5 hbn
   have ht5:=HR4.out.gw hg5 (fun z p y=>HGT.out.1 1 0 z (by omega) p.1 y)
   have hs5:=HS4.out.ints hg5 (fun i z p y=>HGT.out.1 1 (i+2) z (by omega) p y)
   have hz5:=fz_gw hg5 HBZ4.out hbn y2
   have fr5:∀p' x0 x1 x5 m',p'+6≤j*6∨j*6+6≤p'→NkC wr b p' x0 x1 x5 m'→NkC V5 b p' x0 x1 x5 m':=fun p' _ _ _ _ hp h=>(z2 _ _ _ _ _ hp h).gw hg5 hbn
   have hG5:Gw (fun g=>Gs j g∨g=b) wr V5:=u2.trans hg5 (fun _ _ e=>.inl (HGT.out.2.1 _ _ e.1))
   obtain⟨M5,hM5⟩:∃M,M4+m.d.types.length=M:=⟨_,rfl⟩
   rw[hM5]
   have hM5u:M5≤500000000000000000:=by omega
   have h5:=hc5.c5
   have fz5:=hz5 (j*6+5)
   have HN:Hid (NKj w (V5.setCell ⟨b,j*6+5,none⟩ (.int .i64 (M5:Nat))) b Gs M 1 (j+1)):=by
    have hg6:=Gw.set V5 b (j*6+5) (.int .i64 (M5:Nat))
    have hG6:Gw (fun g=>Gs j g∨g=b) wr (V5.setCell ⟨b,j*6+5,none⟩ (.int .i64 (M5:Nat))):=hG5.trans hg6 (fun _ _ e=>.inr e)
    have hK:NdK (V5.setCell ⟨b,j*6+5,none⟩ (.int .i64 (M5:Nat))) b (j*6) (Gs j) m kk:=by
     refine⟨?_,MkN.gw (w:=V5) ?_ hg6 (fun z e y=>HNB.out j (e ▸ y))⟩
     ·have h9:=hc5.set5 (M5:Nat)
      rw[show ((kk+1:Nat):Int)=(kk:Int)+1 by omega,show kk+cst m.d - 1=M5 by have:=HSB.out;have:=HM3.out;have:=HM4.out;omega]
      exact h9
     ·refine⟨Gt,HGT.out.1,HGT.out.2.1,?_,?_,?_⟩
      ·rw[HE.out.1];exact ht5
      ·rw[HE.out.2.1,HM3.out];exact hs5
      ·rw[HE.out.2.2,HM3.out,HM4.out];exact hr5
    refine⟨fun p=>by rw[World.frozen?_setCell];exact hz5 p,fun i y hy hi=>?_,fun i y hy hi=>?_,?_⟩
    ·by_cases e:i=j
     ·subst e
      rw[HMJ.out]at hy
      injection hy with hy
      subst hy
      rw[HKK.out]
      exact hK
     ·have h9:=HJ.out.fst i y hy (by omega)
      exact⟨(fr5 _ _ _ _ _ (by omega) h9.cs).far (by omega),h9.sl.gw hG6 (fun z p y=>by
       rcases p with p|p
       ·exact HD.out j i z (fun e'=>e e'.symm) p y
       ·exact HNB.out i (p ▸ y))⟩
    ·have h9:=HJ.out.nxt i y hy (by omega)
     exact⟨(fr5 _ _ _ _ _ (by omega) h9.1).far (by omega),h9.2.gw hG6 (fun z p y=>by
      rcases p with p|p
      ·exact HD.out j i z (by omega) p y
      ·exact HNB.out i (p ▸ y))⟩
    ·exact HJ.out.frm.trans hG6 (fun z _ p=>by
      rcases p with p|p
      ·exact .inl ⟨j,p⟩
      ·exact .inr p)
   have HM5:=hide hM5
   clear hr5 hg5 hbn x2 y2 z2 u2 hc5 ht5 hs5 hz5 fr5 hG5 hM5 h4 HC4 HX4 HS4 HR4 HBZ4
   go_wp2
   go_roundw
   case rel=>exact⟨j+1,by omega,by go_num,by rw[HCS.out];have:=HKK.out;have:=HSB.out;have:=HM3.out;have:=HM4.out;have:=HM5.out;congr 1;omega,HN.out⟩
   case measure=>simp[intOf];omega
  ·obtain rfl:j=M.length:=by omega
   clear hst
   go_wp2
   go_ret
   exact⟨rfl,HJ.out⟩
set_option maxHeartbeats 400000 in
set_option maxRecDepth 1000000 in
theorem heldB_w (a0:Option Addr)(b o n cap k0:Nat)(w:World)(hn:n≤100000000)(hk0:k0≤1000000000000000000)(ha:0<n→a0=some ⟨b,o,none⟩)(hc:∀j,j<n→w.cell? ⟨b,o+j,none⟩=some (mkB (k0+j))):
 Calls Tryz.prog 30 #[.slice a0 n cap,.int .i64 k0] w fun e w'=>e = .returned (.int .i64 (k0+n:Nat))∧w'=w:=by
 have HC:=hide hc
 clear hc
 go_enter Tryz.func30,Tryz.ntmps30
 go_wp2
 go_loop [1,5] (fun kk i=>∃m:Nat,m≤n∧i = .int .i64 m∧kk = .int .i64 (k0+m:Nat)) (fun _ i=>n - (intOf i).toNat)
 case atStart=>exact⟨0,Nat.zero_le _,rfl,rfl⟩
 case round=>
  obtain⟨m,hm,rfl,rfl⟩:=hrel
  by_cases hlt:m<n
  ·obtain rfl:=ha (by omega)
   have g1:w.cell? ⟨b,o+m,none⟩=some (.int .u8 (((k0:Int)+(m:Int)) % 256)):=by
    rw[HC.out m hlt];unfold mkB;congr 2
   have hne:((((k0:Int)+(m:Int)) % 256) != (((k0:Int)+(m:Int)) % 256))=false:=by simp
   go_wp2
   go_round
   case rel=>exact⟨m+1,by omega,by go_num,by go_num⟩
   case measure=>simp[intOf];omega
  ·have e:m=n:=by omega
   subst e
   go_wp2
   go_ret
   exact⟨rfl,rfl⟩
set_option maxHeartbeats 400000 in
set_option maxRecDepth 1000000 in
theorem heldI_w (a0:Option Addr)(b o n cap k0:Nat)(w:World)(hn:n≤100000000)(hk0:k0≤1000000000000000000)(ha:0<n→a0=some ⟨b,o,none⟩)(hc:∀j,j<n→w.cell? ⟨b,o+j,none⟩=some (mkI (k0+j))):
 Calls Tryz.prog 14 #[.slice a0 n cap,.int .i64 k0] w fun e w'=>e = .returned (.int .i64 (k0+n:Nat))∧w'=w:=by
 have HC:=hide hc
 clear hc
 go_enter Tryz.func14,Tryz.ntmps14
 go_wp2
 go_loop [1,5] (fun kk i=>∃m:Nat,m≤n∧i = .int .i64 m∧kk = .int .i64 (k0+m:Nat)) (fun _ i=>n - (intOf i).toNat)
 case atStart=>exact⟨0,Nat.zero_le _,rfl,rfl⟩
 case round=>
  obtain⟨m,hm,rfl,rfl⟩:=hrel
  by_cases hlt:m<n
  ·obtain rfl:=ha (by omega)
   have g1:w.cell? ⟨b,o+m,none⟩=some (.int .i64 ((k0:Int)+(m:Int))):=by
    rw[HC.out m hlt];unfold mkI;congr 2
   have hne:(((k0:Int)+(m:Int)) != ((k0:Int)+(m:Int)))=false:=by simp
   go_wp2
   go_round
   case rel=>exact⟨m+1,by omega,by go_num,by go_num⟩
   case measure=>simp[intOf];omega
  ·have e:m=n:=by omega
   subst e
   go_wp2
   go_ret
   exact⟨rfl,rfl⟩
theorem heldB_r {w:World}{G:Nat→Prop}{v:Value}{n k:Nat}(hs:n≤100000000)(hk:k≤1000000000000000000)(h:RwG w G v n (mks mkB k n)):
 Calls Tryz.prog 30 #[v,.int .i64 (k:Nat)] w fun e w'=>e = .returned (.int .i64 (k+n:Nat))∧w'=w:=by
 obtain⟨a,g,c,rfl,h2,h3⟩:=h
 exact heldB_w a g 0 n c k w hs hk (fun h0=>(h2 h0).1) (fun j hj=>by rw[Nat.zero_add];exact h3 (by omega) j _ (mks_at hj))
theorem heldI_r {w:World}{G:Nat→Prop}{v:Value}{n k:Nat}(hs:n≤100000000)(hk:k≤1000000000000000000)(h:RwG w G v n (mks mkI k n)):
 Calls Tryz.prog 14 #[v,.int .i64 (k:Nat)] w fun e w'=>e = .returned (.int .i64 (k+n:Nat))∧w'=w:=by
 obtain⟨a,g,c,rfl,h2,h3⟩:=h
 exact heldI_w a g 0 n c k w hs hk (fun h0=>(h2 h0).1) (fun j hj=>by rw[Nat.zero_add];exact h3 (by omega) j _ (mks_at hj))
set_option maxHeartbeats 2000000 in
set_option maxRecDepth 1000000 in
theorem heldSS_r {w:World}{G:Nat→Prop}{Gs:Nat→Nat→Prop}{v:Value}{L:List ByteArray}(k:Nat)(hn:L.length≤1048576)(hz:∀x∈L,x.size≤1048576)(hk:k≤900000000000000000)(h:SMk w G Gs v L k):
 Calls Tryz.prog 31 #[v,.int .i64 (k:Nat)] w fun r w'=>r = .returned (.int .i64 (k+tS L L.length:Nat))∧w'=w:=by
 obtain⟨M,hML,hrow,hel⟩:=h
 have HEL:=hide hel
 have HTS:=hide (tS_le hz)
 have HZ:=hide hz
 obtain⟨a0,g,c,rfl,h2,h3⟩:=hrow
 have H3:=hide h3
 clear hz hel h3
 go_enter Tryz.func31,Tryz.ntmps31
 go_wp2
 go_loop [1,5] (fun kk ix=>∃j:Nat,j≤L.length∧ix = .int .i64 j∧kk = .int .i64 (k+tS L j:Nat)) (fun _ ix=>L.length - (intOf ix).toNat)
 case atStart=>exact⟨0,Nat.zero_le _,rfl,rfl⟩
 case round=>
  obtain⟨j,hj,rfl,rfl⟩:=hrel
  by_cases q:j<L.length
  ·have hqi:(j:Int)<(L.length:Int):=by omega
   obtain rfl:=(h2 (by omega)).1
   obtain⟨x,hx⟩:∃x,L[j]?=some x:=⟨L[j],List.getElem?_eq_getElem q⟩
   obtain⟨u,hu,hb⟩:=HEL.out j x hx
   obtain⟨a',c',rfl⟩:∃a c,u = .slice a x.size c:=by obtain⟨a,_,c,e,_⟩:=hb;exact⟨a,c,e⟩
   have hcell:=H3.out (by omega) j _ hu
   have hts:=HTS.out j
   have hxs:=HZ.out x (List.mem_of_getElem? hx)
   have HXS:=hide (tS_succ hx)
   obtain⟨m,hm⟩:∃m,k+tS L j=m:=⟨_,rfl⟩
   have hmu:m≤1000000000000000000:=by omega
   rw[hm]at hb
   have HC:=hide (heldB_r (k:=m) (by omega) hmu hb)
   have HMM:=hide hm
   rw[hm]
   have hneg:decide (((m+x.size:Nat):Int)<0)=false:=decide_eq_false (by omega)
   clear hx hu hb hm hts
   go_wp2_with fail
   refine HC.out.mono ?_
   rintro r w2 ⟨rfl,rfl⟩
   obtain⟨m2,hm2⟩:∃m2,m+x.size=m2:=⟨_,rfl⟩
   rw[hm2]at hneg ⊢
   have HM2:=hide hm2
   clear hm2 HC
   go_wp2
   go_round
   case rel=>exact⟨j+1,by omega,by go_num,by rw[HXS.out];have:=HMM.out;have:=HM2.out;congr 1;omega⟩
   case measure=>simp[intOf];omega
  ·obtain rfl:j=L.length:=by omega
   go_wp2
   go_ret
   exact⟨rfl,rfl⟩
set_option maxHeartbeats 4000000 in
set_option maxRecDepth 1000000 in
theorem heldNS_r {w:World}{b cap:Nat}{Gs:Nat→Nat→Prop}{M:List Nv}(hl:M.length≤100000)(hok:∀m∈M,m.d.text.size≤1048576∧m.d.names.length≤1048576∧(∀x∈m.d.names,x.size≤1048576)∧m.d.types.length≤1048576)(hcn:∀j,cN M j≤j*1099513724931)(h:∀(i:Nat) (m:Nv),M[i]?=some m→NdK w b (i*6) (Gs i) m (1+cN M i))(a0:Option Addr)(ha:0<M.length→a0=some ⟨b,0,none⟩):
 Calls Tryz.prog 13 #[.slice a0 M.length cap,.int .i64 1] w fun r w'=>r = .returned (.int .i64 (1+cN M M.length:Nat))∧w'=w:=by
 have HST:=hide h
 have HCN:=hide hcn
 have HOK:=hide hok
 clear h hcn hok
 go_enter Tryz.func13,Tryz.ntmps13
 go_wp2
 go_loop [1,5] (fun kk ix=>∃j:Nat,j≤M.length∧ix = .int .i64 j∧kk = .int .i64 (1+cN M j:Nat)) (fun _ ix=>M.length - (intOf ix).toNat)
 case atStart=>exact⟨0,Nat.zero_le _,rfl,rfl⟩
 case round=>
  obtain⟨j,hj,rfl,rfl⟩:=hrel
  by_cases q:j<M.length
  ·have hqi:(j:Int)<(M.length:Int):=by omega
   obtain rfl:=ha (by omega)
   obtain⟨m,hm⟩:∃m,M[j]?=some m:=⟨M[j],List.getElem?_eq_getElem q⟩
   have hnk:=HST.out j m hm
   have hcn:=HCN.out j
   have HCS:=hide (cN_succ hm)
   obtain⟨kk,hkk⟩:∃kk,1+cN M j=kk:=⟨_,rfl⟩
   have hku:kk≤200000000000000000:=by omega
   have HKK:=hide hkk
   rw[hkk]at hnk ⊢
   obtain⟨hb1,hb2,hb3,hb4⟩:=HOK.out m (List.mem_of_getElem? hm)
   have htl:=tS_le hb3 m.d.names.length
   have HSB:Hid (cst m.d=m.d.text.size+tS m.d.names m.d.names.length+m.d.types.length+3):=rfl
   obtain⟨⟨h0,h1,h2,h3,h4,h5⟩,Gt,d1,s1,ht,hnm,hy⟩:=hnk
   obtain⟨a2,c2,e2⟩:∃a c,m.t = .slice a m.d.text.size c:=by obtain⟨a,_,c,e,_⟩:=ht;exact⟨a,c,e⟩
   obtain⟨a3,c3,e3⟩:∃a c,m.n = .slice a m.d.names.length c:=by obtain⟨_,_,⟨a,_,c,e,_⟩,_⟩:=hnm;exact⟨a,c,e⟩
   obtain⟨a4,c4,e4⟩:∃a c,m.y = .slice a m.d.types.length c:=by obtain⟨a,_,c,e,_⟩:=hy;exact⟨a,c,e⟩
   rw[e2]at h2 ht
   rw[e3]at h3 hnm
   rw[e4]at h4 hy
   obtain⟨M3,hM3⟩:∃M,kk+2+m.d.text.size=M:=⟨_,rfl⟩
   rw[hM3]at hnm hy
   obtain⟨M4,hM4⟩:∃M,M3+tS m.d.names m.d.names.length=M:=⟨_,rfl⟩
   rw[hM4]at hy
   obtain⟨M5,hM5⟩:∃M,M4+m.d.types.length=M:=⟨_,rfl⟩
   rw[show kk+cst m.d - 1=M5 by have:=HSB.out;omega]at h5
   rw[show ((kk+1:Nat):Int)=(kk:Int)+1 by omega]at h1
   have HC2:=hide (heldB_r (k:=kk+2) (by omega) (by omega) ht)
   have HC3:=hide (heldSS_r M3 hb2 hb3 (by omega) hnm)
   have HC4:=hide (heldI_r (k:=M4) (by omega) (by omega) hy)
   rw[hM3,show ((kk+2:Nat):Int)=(kk:Int)+2 by omega]at HC2
   rw[hM4]at HC3
   rw[hM5]at HC4
   have n0:((kk:Int) != (kk:Int))=false:=by simp
   have n1:((kk:Int)+1 != (kk:Int)+1)=false:=by simp
   have n5:((M5:Int) != (M5:Int))=false:=by simp
   have g3:decide ((M3:Int)<0)=false:=decide_eq_false (by omega)
   have g4:decide ((M4:Int)<0)=false:=decide_eq_false (by omega)
   have g5:decide ((M5:Int)<0)=false:=decide_eq_false (by omega)
   have hM5u:M5≤500000000000000000:=by omega
   have HMM:=hide (And.intro hM3 (And.intro hM4 hM5))
   clear hkk hm hcn hb3 htl d1 s1 ht hnm hy e2 e3 e4 hM3 hM4 hM5
   go_wp2_with fail
   refine HC2.out.mono ?_
   rintro r w2 ⟨rfl,rfl⟩
   clear HC2
   go_wp2_with fail
   refine HC3.out.mono ?_
   rintro r w2 ⟨rfl,rfl⟩
   clear HC3
   go_wp2_with fail
   refine HC4.out.mono ?_
   rintro r w2 ⟨rfl,rfl⟩
   clear HC4
   go_wp2
   go_round
   case rel=>exact⟨j+1,by omega,by go_num,by rw[HCS.out];have:=HKK.out;have:=HSB.out;obtain⟨_,_,_⟩:=HMM.out;congr 1;omega⟩
   case measure=>simp[intOf];omega
  ·obtain rfl:j=M.length:=by omega
   go_wp2
   go_ret
   exact⟨rfl,rfl⟩
end Go.Proofs.YtbiakdjpeblclaaGreatDoor
