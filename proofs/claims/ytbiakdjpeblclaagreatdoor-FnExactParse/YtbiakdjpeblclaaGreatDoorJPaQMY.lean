/-
  The program's own reader of trees, on: the kind of what stands next.
-/
import Derived.Test.YtbiakdjpeblclaaGreatDoorJPaMKB
import Derived.Test.YtbiakdjpeblclaaGreatDoorJPaRF
import Derived.Test.YtbiakdjpeblclaaGreatDoorJPaQPL
import Derived.Test.YtbiakdjpeblclaaGreatDoorJPaPSA
import Derived.Test.YtbiakdjpeblclaaGreatDoorJPaRL
import Derived.Test.YtbiakdjpeblclaaGreatDoorJPaMK
namespace Go.Proofs.YtbiakdjpeblclaaGreatDoor
open Go.RowKit
set_option maxHeartbeats 1000000 in
set_option maxRecDepth 1000000 in
theorem qnext_any {w:World}{c:PsC}{e:PsE}{n:Nat}(k:Nat)(hk:k≠0)(h:QsW w c e n):
 Calls Tryz.prog 135 #[.pointer (some ⟨c.P,0,none⟩),.int .i64 (k:Nat)] w fun r w'=>r = .returned (.bool (decide (e.knd n=k)))∧Below w.heap.size w w':=by
 obtain⟨g0,g1,g2⟩:=h.cells
 have htl:=h.tl
 have hat:=h.at_
 by_cases hn:n<e.T.length
 ·have d0:decide (n<e.T.length)=true:=decide_eq_true hn
  obtain⟨k0,k1,k2⟩:=h.tok n hn
  have hin:=h.tin n hn
  have HX:Hid (e.knd n=(e.T.getD n (0,0,0)).1):=by show _=_;unfold PsE.knd;rw[if_pos hn]
  obtain⟨hta,htb⟩:=h.ta (by omega)
  rw[hta]at g1
  obtain⟨K,hK⟩:∃K,(e.T.getD n (0,0,0)).1=K:=⟨_,rfl⟩
  rw[hK]at HX k0
  have HE:Hid (((K:Int)==(k:Int))=decide (K=k)):=by
   show _=_
   by_cases q:K=k
   ·rw[q,decide_eq_true rfl,beq_iff_eq]
   ·rw[decide_eq_false q,beq_eq_false_iff_ne];omega
  clear hK hin k1 k2
  go_enter Tryz.func135,Tryz.ntmps135
  go_wp2_with fail
  go_quiet (fail)
  go_wp2_with fail
  go_ret
  exact⟨by rw[HX.out,← HE.out];rfl,by first|exact Below.refl _ _|exact below_drewN (Below.refl _ _) _⟩
 ·have d0:decide (n<e.T.length)=false:=decide_eq_false hn
  have HX:Hid (e.knd n=0):=by show _=_;unfold PsE.knd;rw[if_neg hn]
  have HK:=hide hk
  clear hn hk
  go_enter Tryz.func135,Tryz.ntmps135
  go_wp2_with fail
  go_quiet (fail)
  go_wp2
  go_ret
  exact⟨by rw[HX.out,decide_eq_false (fun q=>HK.out q.symm)];rfl,by first|exact Below.refl _ _|exact below_drewN (Below.refl _ _) _|exact below_drewN (below_drewN (Below.refl _ _) _) _⟩
set_option maxHeartbeats 1000000 in
set_option maxRecDepth 1000000 in
theorem qname_no {w:World}{c:PsC}{e:PsE}{n:Nat}(h:QsW w c e n)(hk:e.knd n≠1):
 Calls Tryz.prog 116 #[.pointer (some ⟨c.P,0,none⟩)] w fun r w'=>r=Flt (e.place ⟨n, -1,false⟩:Nat)∧QdQ c e n w w':=by
 have HT:=hide (qnext_any 1 (by decide) h)
 have HF:=hide (fun W (hW:Below w.heap.size w W)=>qfault_any (h.below hW))
 have HH:=hide h
 rw[decide_eq_false hk]at HT
 unfold Flt
 obtain⟨Q,hQ⟩:∃Q,e.place ⟨n, -1,false⟩=Q:=⟨_,rfl⟩
 rw[hQ]at HF ⊢
 clear hQ h hk
 go_enter Tryz.func116,Tryz.ntmps116
 go_wp2_with fail
 refine HT.out.mono ?_
 rintro r w1 ⟨rfl,hb1⟩
 have HB1:=hide hb1
 clear hb1
 go_wp2_with fail
 refine (HF.out w1 HB1.out).mono ?_
 rintro r w2 ⟨rfl,hb⟩
 have HB:=hide (QdQ.of_below HH.out (HB1.out.trans (hb.mono HB1.out.size)))
 clear hb
 go_wp2
 exact⟨rfl,rfl,HB.out⟩
set_option maxHeartbeats 1000000 in
set_option maxRecDepth 1000000 in
theorem qname_yes {w:World}{c:PsC}{e:PsE}{n:Nat}(h:QsW w c e n)(hk:e.knd n=1)(hn:n<e.T.length):
 Calls Tryz.prog 116 #[.pointer (some ⟨c.P,0,none⟩)] w fun r w'=>(∃v,r = .returned v∧BGf w' (fun g=>w.heap.size≤g) v (e.txt n)∧(e.txt n).size≤5000)∧QdQ c e (n+1) w w':=by
 have HT:=hide (qnext_any 1 (by decide) h)
 have HX:=hide (fun W (hW:Below w.heap.size w W)=>qtext_any (h.below hW))
 have HH:=hide h
 have hPl:=h.blk.lt
 have hat:=h.tl
 have hns:(e.txt n).size≤5000:=by
  have:=h.szl
  unfold PsE.txt
  rw[if_pos hn,ByteArray.size_extract];omega
 rw[decide_eq_true hk]at HT
 obtain⟨R,hR⟩:∃R,e.txt n=R:=⟨_,rfl⟩
 rw[hR]at hns ⊢
 simp only[hR]at HX
 have HN:=hide hn
 have hn5:(n:Int)≤5000:=by omega
 clear hR h hk hn
 go_enter Tryz.func116,Tryz.ntmps116
 go_wp2_with fail
 refine HT.out.mono ?_
 rintro r w0 ⟨rfl,hb1⟩
 have HB1:=hide hb1
 clear hb1
 go_wp2_with fail
 refine (HX.out w0 HB1.out).mono ?_
 rintro r w1 ⟨rfl,hb⟩
 have hB:=HB1.out.trans (hb.mono HB1.out.size)
 obtain⟨gc,W',hcv,hb2,hbg⟩:=conv_bf w1 R
 have hBW:=hB.trans (hb2.mono hB.size)
 have hps:=HH.out.below hBW
 obtain⟨g0,g1,g2⟩:=hps.cells
 have f2:=hps.fz 2
 have HQ:=hide (HH.out.onQ hBW (Nat.le_of_lt HN.out))
 have HBG:=hide (BGf.gw (hbg.mono (fun g hg _=>Nat.le_trans hB.size hg)) (Gw.set W' c.P 2 (.int .i64 ((n:Nat)+1:Int))) (fun k hk=>by rw[hk];show ¬w.heap.size≤c.P;omega))
 clear hb hb2 hbg hBW hps g0 g1 hB HX HT
 go_wp2
 go_ret
 exact⟨⟨_,rfl,HBG.out,hns⟩,HQ.out⟩
def RQ (c:PsC)(e:PsE)(w:World)(q:Ps)(K:World→Value→Prop)(x:Ending)(w':World):Prop:=
 Gw (· = c.P) w w'∧((q.bad<0∧QsW w' c e q.at_∧∃v,x = .returned v∧K w' v)∨(0≤q.bad∧x=Flt q.bad))
def KP (w:World)(x:Pt)(w':World)(v:Value):Prop:=(∃t a,v = .iface t a)∧PM w' (fun g=>w.heap.size≤g) x v
structure PO (w:World)(B hi:Nat)(v:Value)(ks:List Pt)(us:List Value):Prop where
 len:us.length=ks.length
 own:w.ownsRow B 65 1 v ks.length us
 one:∀u∈us,u.oneCell'=true
 el:∃Gs,Dj Gs∧(∀j g,Gs j g→B≤g∧g<hi∧v.ownBlock≠some g)∧∀(j:Nat) (k:Pt) (u:Value),ks[j]?=some k→us[j]?=some u→PM w (Gs j) k u
def KL (w:World)(ks:List Pt)(w':World)(v:Value):Prop:=∃us,PO w' w.heap.size w'.heap.size v ks us
theorem PO.pts {w:World}{B hi:Nat}{v:Value}{ks:List Pt}{us:List Value}(h:PO w B hi v ks us):Pts w B hi ks us:=by
 obtain⟨Gs,d1,s1,e1⟩:=h.el
 exact⟨Gs,d1,fun j g a=>⟨(s1 j g a).1,(s1 j g a).2.1⟩,e1⟩
theorem PO.rwg {w:World}{B hi:Nat}{v:Value}{ks:List Pt}{us:List Value}{lo:Nat}(h:PO w B hi v ks us)(hl:lo≤B):RwG w (fun g=>lo≤g) v ks.length us:=RwG.of_own h.own (fun _ q=>Nat.le_trans hl q)
def KN (w:World)(s:ByteArray)(w':World)(v:Value):Prop:=BGf w' (fun g=>w.heap.size≤g) v s∧s.size≤5000
def KU (_:World)(v:Value):Prop:=v = .tuple #[]
theorem PO.gw {P:Nat→Prop}{w w':World}{B hi:Nat}{v:Value}{ks:List Pt}{us:List Value}(h:PO w B hi v ks us)(hg:Gw P w w')(hB:∀k,P k→k<B):PO w' B hi v ks us:=by
 obtain⟨Gs,d1,s1,e1⟩:=h.el
 exact⟨h.len,hg.own h.own (fun k hk q=>by have:=hB k q;have:=(World.ownsRow.lt h.own k hk).1;omega),h.one,Gs,d1,s1,fun j k u a b=>(e1 j k u a b).gw hg (fun k hk q=>by have:=hB k hk;have:=(s1 _ _ q).1;omega)⟩
theorem PO.rd {V V':World}{B hi:Nat}{v:Value}{ks:List Pt}{us:List Value}{c:PsC}(h:PO V B hi v ks us)(hg:Gw (· = c.P) V V')(hP:c.P<B):PO V' B hi v ks us:=h.gw hg (fun k hk=>by subst hk;exact hP)
theorem PO.kept {V V':World}{B hi:Nat}{v:Value}{ks:List Pt}{us:List Value}(h:PO V B hi v ks us)(hb:Below V.heap.size V V'):PO V' B hi v ks us:=h.gw (P:=fun _=>False) (Gw.of_below hb) (fun _ q=>q.elim)
theorem RQ.fault {c:PsC}{e:PsE}{w w':World}{q r:Ps}{K:World→Value→Prop}(hb:0≤q.bad)(hm:Mv e q r)(hg:Gw (· = c.P) w w'):RQ c e w r K (Flt q.bad) w':=
 ⟨hg,.inr ⟨by rw[(hm.bad hb).1];exact hb,by rw[(hm.bad hb).1]⟩⟩
theorem RQ.ok {c:PsC}{e:PsE}{w w':World}{q:Ps}{K:World→Value→Prop}{v:Value}(hb:q.bad<0)(hg:Gw (· = c.P) w w')(hq:QsW w' c e q.at_)(hv:K w' v):RQ c e w q K (.returned v) w':=⟨hg,.inl ⟨hb,hq,v,rfl,hv⟩⟩
theorem Gw.tr {R:Nat}{a b c:World}(h:Gw (· = R) a b)(k:Gw (· = R) b c):Gw (· = R) a c:=h.trans k (fun _ _ g=>g)
theorem Gw.blw {R:Nat}{a b c:World}(h:Gw (· = R) a b)(k:Below b.heap.size b c):Gw (· = R) a c:=h.trans (Gw.of_below k (P:=fun _=>False)) (fun _ _ g=>g.elim)
theorem PM.rd {w w' V:World}{c:PsC}{x:Pt}{v:Value}(h:PM w (fun g=>V.heap.size≤g) x v)(hg:Gw (· = c.P) w w')(hP:c.P<V.heap.size):PM w' (fun g=>V.heap.size≤g) x v:=h.gw hg (fun k hk q=>by rw[hk]at q;omega)
theorem PM.low {w:World}{a b:Nat}{x:Pt}{v:Value}(h:PM w (fun g=>a≤g) x v)(hl:b≤a):PM w (fun g=>b≤g) x v:=h.mono (fun _ q _=>Nat.le_trans hl q)
theorem qwant {w:World}{c:PsC}{e:PsE}{p:Ps}(hE:EOk e)(s:ByteArray)(hw:wOk s=true)(h:QsW w c e p.at_)(hp:p.bad<0)(hn:p.at_≤e.T.length):
 Calls Tryz.prog 84 #[.pointer (some ⟨c.P,0,none⟩),.string s] w (RQ c e w (e.want p s) KU):=by
 have hi:=hE.is hp hw
 by_cases hs:e.txt p.at_=s
 ·refine (qwant_yes s h hn hs).mono ?_
  rintro r w' ⟨rfl,hq⟩
  rw[want_yes (by rw[hi];exact decide_eq_true hs)]
  exact RQ.ok hp hq.2 hq.1 rfl
 ·refine (qwant_no s h hn hs).mono ?_
  rintro r w' ⟨rfl,hq⟩
  have hb:=want_no (e:=e) (p:=p) (w:=s) (by rw[hi];exact decide_eq_false hs) hp
  exact⟨hq.2,.inr ⟨by rw[hb];omega,by rw[hb];rfl⟩⟩
theorem knd_kind {e:PsE}{p:Ps}(hp:p.bad<0):e.knd p.at_=e.kind p:=by
 unfold PsE.knd PsE.kind
 by_cases c:p.at_<e.T.length
 ·rw[if_pos c,if_neg (by omega)];rfl
 ·rw[if_neg c,if_pos (by omega)]
theorem now_txt {e:PsE}{p:Ps}(hk:e.kind p≠0):e.now p=e.txt p.at_:=by
 unfold PsE.now PsE.txt
 rw[if_neg hk,if_pos (kind_pos hk).2]
 rfl
theorem qname {w:World}{c:PsC}{e:PsE}{p:Ps}(h:QsW w c e p.at_)(hp:p.bad<0):
 Calls Tryz.prog 116 #[.pointer (some ⟨c.P,0,none⟩)] w (RQ c e w (e.ident p).2 (KN w (e.ident p).1)):=by
 have hk:=knd_kind (e:=e) hp
 unfold PsE.ident
 by_cases k1:e.kind p=1
 ·have hn:=(kind_pos (e:=e) (p:=p) (by omega)).2
  rw[if_pos k1]
  refine (qname_yes h (by omega) hn).mono ?_
  rintro r w' ⟨⟨v,rfl,hv,hs⟩,hq⟩
  refine RQ.ok hp hq.2 hq.1 ?_
  rw[now_txt (by omega)]
  exact⟨hv,hs⟩
 ·rw[if_neg k1]
  refine (qname_no h (by omega)).mono ?_
  rintro r w' ⟨rfl,hq⟩
  have hb:(e.wrong p).bad=(e.place p:Nat):=by unfold PsE.wrong;rw[if_pos hp]
  exact⟨hq.2,.inr ⟨by show 0≤(e.wrong p).bad;rw[hb];omega,by show _=Flt (e.wrong p).bad;rw[hb];rfl⟩⟩
def Nv.put (m:Nv)(n:Nat):Nv:={ m with d:={ m.d with count:=(n:Int) } }
theorem Nv.Od.put {w:World}{G:Nat→Prop}{m:Nv}(h:m.Od w G)(n:Nat):(m.put n).Od w G:=⟨⟨h.ok.text,h.ok.names,h.ok.types,h.ok.b1,h.ok.b2,h.ok.b3,h.ok.b4⟩,h.ap⟩
def nvg (m:Nv):Value:=.agg #[.int .i64 m.d.kind,.int .i64 m.d.n,m.t,m.n,m.y,.int .i64 m.d.count]
set_option maxHeartbeats 1000000 in
set_option maxRecDepth 1000000 in
theorem qmake_any {w:World}{G:Nat→Prop}{m:Nv}{ks:List Pt}{vb:Value}{us:List Value}(pl:Nat)(hk:0≤m.d.kind∧m.d.kind≤22)(hK:Kids w G m ks us)(hl:us.length=ks.length)(hb:RwG w G vb ks.length us):
 Calls Tryz.prog 53 #[nvg m,.int .i64 (pl:Nat),vb] w fun r w'=>(∃t a,r = .returned (.iface t a)∧PM w' G (ptN m.d pl ks) (.iface t a))∧Below w.heap.size w w':=by
 obtain⟨Gs,d1,s1,hmd,e1⟩:=hK
 have hm:=hmd.ok
 have HM:Hid (∀W,Below w.heap.size w W→PM W G (ptN m.d pl ks) (.iface (ptK m.d.kind) (prv (m.put ks.length) pl vb))):=fun W hW=>by
  have h:=PM.mk (w:=w) G Gs (m.put ks.length) pl ks vb us d1 s1 hk rfl (hmd.put _) hl hb e1
  have e:ptM (m.put ks.length) pl ks=ptN m.d pl ks:=ptM_eq rfl
  rw[e]at h
  exact h.kept hW
 obtain⟨d,vt,vn,vy⟩:=m
 obtain⟨K,Z,T,M,Y,C⟩:=d
 obtain⟨a1,c1,h1⟩:=hm.text.slc
 obtain⟨_,_,⟨a2,_,c2,h2,_⟩,_⟩:=hm.names
 obtain⟨a3,_,c3,h3,_⟩:=hm.types
 obtain⟨a4,_,c4,h4,_⟩:=hb
 simp only at h1 h2 h3 hk
 subst h1 h2 h3 h4
 unfold nvg
 simp only at HM ⊢
 have HK:=hide hk
 clear hm hmd hl hk d1 s1 e1
 obtain⟨W1,hW1⟩:∃W1,w.alloc (.cells #[.int .i64 K,.int .i64 Z,.slice a1 T.size c1,.slice a2 M.length c2,.slice a3 Y.length c3,.int .i64 C] 51)=W1:=⟨_,rfl⟩
 have hB1:Below w.heap.size w W1:=by rw[← hW1];exact (Below.refl _ _).alloc (Nat.le_refl _) _
 have hBk:Blk W1 w.heap.size 51 #[.int .i64 K,.int .i64 Z,.slice a1 T.size c1,.slice a2 M.length c2,.slice a3 Y.length c3,.int .i64 C]:=by rw[← hW1];exact Blk.new _ _ _
 have g0:=hBk.cell 0
 have g1:=hBk.cell 1
 have g2:=hBk.cell 2
 have g3:=hBk.cell 3
 have g4:=hBk.cell 4
 have g5:=hBk.cell 5
 have f5:=hBk.frozen 5
 simp only[List.getElem?_toArray,List.getElem?_cons_succ,List.getElem?_cons_zero]at g0 g1 g2 g3 g4 g5
 have HB1:=hide hB1
 have HBk:=hide hBk
 clear hB1 hBk
 go_enter Tryz.func53,Tryz.ntmps53
 go_wp2_with fail
 refine (newPartP_any ⟨K,Z,T,M,Y,(ks.length:Int)⟩ pl a1 a2 a3 a4 T.size M.length Y.length ks.length c1 c2 c3 c4 _ HK.out.1 HK.out.2).mono ?_
 rintro r w' ⟨rfl,hb⟩
 have HB:=hide ((HB1.out.setCell (p:=⟨w.heap.size,5,none⟩) (Nat.le_refl _) (.int .i64 (ks.length:Int))).trans (hb.mono (by simp[World.size_setCell];exact HB1.out.size)))
 clear hb g0 g1 g2 g3 g4 g5
 go_wp2
 go_ret
 exact⟨⟨_,_,rfl,HM.out _ HB.out⟩,HB.out⟩
end Go.Proofs.YtbiakdjpeblclaaGreatDoor
namespace Go.Proofs.YtbiakdjpeblclaaGreatDoor
theorem nvl_val : ∀(l:List UInt8) (v:Nat),0≤nvl l v→∃u:Nat,Lib.parseUint10 v l = .ok u∧nvl l v=(u:Int)∧(v≤99999→u≤99999)
 | [],v,_=>⟨v,rfl,by rw[nvl],fun h=>h⟩
 |c::r,v,h=>by
  rw[nvl]at h ⊢
  by_cases hd:isD c.toNat=true
  ·have hd':=(isD_iff _).1 hd
   rw[if_pos hd]at h ⊢
   by_cases hb:99999<v*10+(c.toNat - 48)
   ·rw[if_pos hb]at h;omega
   ·rw[if_neg hb]at h ⊢
    obtain⟨u,h1,h2,h3⟩:=nvl_val r _ h
    refine⟨u,?_,h2,fun _=>h3 (by omega)⟩
    simp only[Lib.parseUint10]
    rw[if_pos hd',if_neg (by omega),if_neg (by omega)]
    exact h1
  ·rw[if_neg hd]at h;omega
theorem ext_list (s:ByteArray)(p k:Nat):(s.extract p (p+k)).data.toList=(s.data.toList.drop p).take k:=by
 rw[ByteArray.data_extract,Array.toList_extract,List.extract_eq_take_drop,Nat.add_sub_cancel_left]
theorem EOk.num {e:PsE}(h:EOk e){n:Nat}(hn:n<e.T.length)(hk:(e.T.getD n (0,0,0)).1=3):∃u:Nat,Lib.atoiAll (e.txt n).data.toList = .ok (u:Int)∧vl (e.txt n)=(u:Int)∧u≤99999:=by
 have k:=h.at hn
 have kl:=tkw_le k
 obtain⟨h1,h2,h3,h4⟩:=k
 have htx:e.txt n=e.s.extract (e.T.getD n (0,0,0)).2.1 ((e.T.getD n (0,0,0)).2.1+(e.T.getD n (0,0,0)).2.2):=by unfold PsE.txt;rw[if_pos hn]
 rw[hk]at h2
 obtain⟨p,hp⟩:∃p,(e.T.getD n (0,0,0)).2.1=p:=⟨_,rfl⟩
 rw[hp]at h1 h2 h3 h4 kl htx
 rw[h3]at htx kl
 unfold tok at h2 h4 htx kl
 by_cases c:isL (e.s.get! p).toNat=true
 ·rw[if_pos c]at h2
  simp only at h2
  split at h2<;>cases h2
 rw[if_neg c]at h2 h4 htx kl
 by_cases c1:0<run e.s p
 ·rw[if_pos c1]at h2 h4 htx kl
  by_cases c2:nval e.s (run e.s p) p 0<0
  ·rw[if_pos c2]at h2;cases h2
  rw[if_neg c2]at h2 h4 htx kl
  simp only at htx kl
  have hl:=ext_list e.s p (run e.s p)
  have hv:nvl (e.txt n).data.toList 0=nval e.s (run e.s p) p 0:=by rw[htx,hl,nvl_nval e.s _ _ _ kl.1]
  have hvl:vl (e.txt n)=nvl (e.txt n).data.toList 0:=by
   unfold vl
   have:=nvl_nval (e.txt n) (e.txt n).size 0 0 (by omega)
   rw[← this,List.drop_zero,List.take_of_length_le]
   rw[Array.length_toList];exact Nat.le_refl _
  obtain⟨u,g1,g2,g3⟩:=nvl_val (e.txt n).data.toList 0 (by rw[hv];omega)
  obtain⟨g0,gs⟩:=ext_get0 kl.1 kl.2
  obtain⟨cc,r,hcr⟩:∃cc r,(e.txt n).data.toList=cc::r:=by
   cases hh:(e.txt n).data.toList with
   |nil=>
    have:=congrArg List.length hh
    rw[Array.length_toList]at this
    rw[htx]at this
    have gs':(e.s.extract p (p+run e.s p)).data.size=run e.s p:=gs
    simp only[List.length_nil]at this
    omega
   |cons a b=>exact⟨a,b,rfl⟩
  have hd:isD cc.toNat=true:=by
   have hh:0≤nvl (cc::r) 0:=by rw[← hcr,hv];omega
   rw[nvl]at hh
   by_cases q:isD cc.toNat=true
   ·exact q
   ·rw[if_neg q]at hh;omega
  refine⟨u,?_,by rw[hvl,g2],g3 (by omega)⟩
  rw[hcr]at g1 ⊢
  exact (atoi_digit cc r hd).1 u g1 (by have:=g3 (by omega);omega)
 rw[if_neg c1]at h2
 split at h2
 ·cases h2
 ·split at h2<;>cases h2
end Go.Proofs.YtbiakdjpeblclaaGreatDoor
namespace Go.Proofs.YtbiakdjpeblclaaGreatDoor
open Go.RowKit
theorem own_typed {w w':World}{B e sz n:Nat}{v:Value}{xs:List Value}(h:w.ownsRow B e sz v n xs)(hk:∀g cur,Blk w g e cur→Blk w' g e cur):w'.ownsRow B e sz v n xs:=by
 refine⟨h.1,?_⟩
 rcases h.2 with hn|⟨g,cap,cur,hv,hb,hgg,rest⟩
 ·exact .inl hn
 ·exact .inr ⟨g,cap,cur,hv,hb,hk g cur hgg,rest⟩
theorem app_typed {w w':World}{B b e sz n:Nat}{v:Value}{xs:List Value}{t:TypeId}{cs:Array Value}(h:Blk w b t cs)(ht:t≠e)(hown:w.ownsRow B e sz v n xs)(hg:w.grownBy w' v.ownBlock):Blk w' b t cs:=by
 refine (hg.block b h.lt (fun q=>ht ?_)).trans h
 rcases hown.2 with⟨rfl,_⟩|⟨g,cap,cur,rfl,_,hgg,_⟩
 ·simp[Value.ownBlock]at q
 ·simp only[Value.ownBlock,Option.some.injEq]at q
  subst q
  unfold Blk at h
  rw[h]at hgg
  injection hgg with h1
  injection h1 with _ h2
theorem set_typed {w:World}{M k g:Nat}{v:Value}{t T:TypeId}{cs cs0:Array Value}(hM:Blk w M T cs0)(h:Blk w g t cs)(ht:t≠T):Blk (w.setCell ⟨M,k,none⟩ v) g t cs:=
 h.other k v (fun e=>by
  subst e
  unfold Blk at h hM
  rw[h]at hM
  injection hM with h1
  injection h1 with _ h2
  exact ht h2)
theorem own_base {w:World}{B B' e sz n:Nat}{v:Value}{xs:List Value}(h:w.ownsRow B e sz v n xs)(hB:B'≤B):w.ownsRow B' e sz v n xs:=by
 refine⟨h.1,?_⟩
 rcases h.2 with h|⟨g,cap,cur,h1,h2,h3⟩
 ·exact .inl h
 ·exact .inr ⟨g,cap,cur,h1,Nat.le_trans hB h2,h3⟩
end Go.Proofs.YtbiakdjpeblclaaGreatDoor
