/-
  The program's own reader of trees, on: chain.
-/
import Derived.Test.YtbiakdjpeblclaaGreatDoorJPaQMU
import Derived.Test.YtbiakdjpeblclaaGreatDoorJPaQPL
namespace Go.Proofs.YtbiakdjpeblclaaGreatDoor
open Go.RowKit
theorem sgB_rng : ∀k,k<14→1≤sgB.getD k 0∧sgB.getD k 0≤6:=by decide
theorem rEl_stop {e:PsE}(hE:EOk e){g l:Nat}{x:Pt}{p:Ps}(hp:p.bad<0)(h:opK e l p.at_ 14=none):rEl e (g+1) (l+1) x p=(x,p):=by
 have hc:opAt e p 14<0∨sgB.getD (opAt e p 14).toNat 0<l+1:=by
  by_cases q:∃k,k<14∧e.txt p.at_=sgW.getD k ⟨#[]⟩
  ·obtain⟨k,hk,ht⟩:=q
   have h1:=hE.op hp hk ht
   have h2:=opK_none 14 h k hk
   have h3:=sgB_rng k hk
   refine .inr ?_
   rw[h1.2,Int.toNat_natCast]
   by_cases c:sgB.getD k 0<l+1
   ·exact c
   ·exact absurd ⟨by omega,ht⟩ h2
  ·exact .inl (by rw[hE.noop hp (fun k hk ht=>q ⟨k,hk,ht⟩)];decide)
 rw[rEl,if_pos hc]
 split<;>rfl
theorem rEl_go {e:PsE}(hE:EOk e){g l k:Nat}{x:Pt}{p:Ps}(hp:p.bad<0)(h:opK e l p.at_ 14=some k):rEl e (g+1) (l+1) x p=rEl e g (l+1) (ptN { ndK 20 with n:=(k:Nat) } (e.place p) [x,(rE e g (sgB.getD k 0+1) p.on).1]) (rE e g (sgB.getD k 0+1) p.on).2∧p.at_<e.T.length∧k<14:=by
 obtain⟨hk,hl,ht⟩:=opK_some 14 h
 have h1:=hE.op hp hk ht
 have h3:=sgB_rng k hk
 refine⟨?_,(kind_pos (e:=e) (p:=p) (by omega)).2,hk⟩
 rw[rEl,if_pos h1.1,h1.2,if_neg (by rw[Int.toNat_natCast];omega),Int.toNat_natCast]
set_option maxHeartbeats 4000000 in
set_option maxRecDepth 1000000 in
theorem qchain {c:PsC}{e:PsE}{f:Nat}(hE:EOk e)(IHu:QUn c e f)(IHe:∀g,g≤f→QEx c e g):QEx c e (f+1):=fun l w p hl h hp hn hf=>by
 have HU:=hide (IHu w p h hp hn (by omega))
 have hPl:=h.blk.lt
 have htl:=h.tl
 have HRE:Hid (rE e (f+1) (l+1) p=rEl e f (l+1) (rU e f p).1 (rU e f p).2):=by show _=_;rw[rE]
 have hMU:=(mv_expr e f).2.2 p
 have HF0:Hid ((rU e f p).2.at_≤e.T.length∧2*lft e (rU e f p).2+2≤f):=⟨hMU.top hn,by have:=hMU.le;unfold lft at hf ⊢;omega⟩
 have HME:=hide ((mv_expr e f).2.1 (l+1) (rU e f p).1 (rU e f p).2)
 obtain⟨X0,hX0⟩:∃X,rU e f p=X:=⟨_,rfl⟩
 rw[hX0]at HU HRE HF0 HME
 obtain⟨F,hF⟩:∃F,rE e (f+1) (l+1) p=F:=⟨_,rfl⟩
 rw[hF]at HRE ⊢
 clear hF hX0 hMU h IHu hf hp hn
 go_enter Tryz.func168,Tryz.ntmps168
 go_wp2_with fail
 refine HU.out.mono ?_
 rintro r w1 ⟨hg1,⟨hb1,hq1,v,rfl,⟨⟨t,a,rfl⟩,hpm⟩⟩|⟨hb1,rfl⟩⟩
 ·have HPM:Hid (KP w X0.1 w1 (.iface t a)):=⟨⟨_,_,rfl⟩,hpm⟩
  have HQ1:=hide hq1
  have HG1:=hide hg1
  clear hpm hq1 hg1 HU
  go_wp2_with fail
  go_loopw [5] (fun lv wr=>∃(g:Nat) (x:Pt) (p:Ps),g≤f∧2*lft e p+2≤g∧rEl e g (l+1) x p=F∧p.bad<0∧p.at_≤e.T.length∧QsW wr c e p.at_∧Gw (· = c.P) w wr∧KP w x wr lv) (fun _ wr=>e.T.length+1 - atQ c wr)
  case atStart=>exact⟨f,X0.1,X0.2,Nat.le_refl _,HF0.out.2,HRE.out.symm,hb1,HF0.out.1,HQ1.out,HG1.out,HPM.out⟩
  case round=>
   obtain⟨g,x,p,hgf,hgl,hEl,hp,hn,hq,hg,⟨⟨t,a,rfl⟩,hpm⟩⟩:=hrel
   rename World=>V
   have HPL:=hide (qplace_any hq)
   have hpe:e.place ⟨p.at_, -1,false⟩=e.place p:=rfl
   rw[hpe]at HPL
   obtain⟨Z,hZ⟩:∃Z,e.place p=Z:=⟨_,rfl⟩
   rw[hZ]at HPL
   have HZ:=hide hZ
   have hmu:=atQ_of hq
   have HOP:=hide (fun W (hW:Below V.heap.size V W)=>qop_any l (hq.below hW) hn)
   have HQ:=hide hq
   have HG:=hide hg
   have HPV:=hide hpm
   clear HPM HF0 HRE HQ1 HG1 hq hg hpm hpe hZ HME
   obtain⟨g,rfl⟩:∃k,g=k+1:=⟨g - 1,by omega⟩
   cases hop:opK e l p.at_ 14 with
   |none=>
    rw[rEl_stop hE hp hop]at hEl
    simp only[hop]at HOP
    clear hop
    go_wp2_with fail
    refine HPL.out.mono ?_
    rintro r V1 ⟨rfl,hb⟩
    have HB:=hide hb
    clear hb HPL
    go_wp2_with fail
    refine (HOP.out V1 HB.out).mono ?_
    rintro r V2 ⟨rfl,hqq⟩
    have HG2:=hide ((HG.out.blw HB.out).tr hqq.2)
    have HPM2:=hide ((HPV.out.kept HB.out).rd hqq.2 hPl)
    have HQ2:=hide hqq.1
    clear hqq HOP
    go_wp2
    go_ret
    rw[← hEl]
    exact RQ.ok hp HG2.out HQ2.out ⟨⟨_,_,rfl⟩,HPM2.out⟩
   |some k=>
    obtain⟨hgo,hlt,hk⟩:=rEl_go (g:=g) (x:=x) hE hp hop
    rw[hgo]at hEl
    simp only[hop]at HOP
    have hki:(k:Int)<14:=by omega
    have hsb:=sgB_rng k hk
    have HEX:=hide (fun W (hW:QsW W c e (p.at_+1))=>IHe g (by omega) (sgB.getD k 0) W p.on (by omega) hW hp hlt (by unfold lft at hgl ⊢;rw[on_at];omega))
    have hME:=(mv_expr e g).1 (sgB.getD k 0+1) p.on
    have hml:=hME.le
    have hmt:=hME.top hlt
    rw[on_at]at hml
    have HOC:Hid (∀W,TabQ W→W.cell? ⟨9,k*2+1,none⟩=some (.int .i64 ((sgB.getD k 0 - 1:Nat):Int))):=fun W hW=>by
     rw[(hW.ops k hk).2]
     congr 2
     omega
    obtain⟨bk,hbk⟩:∃b,sgB.getD k 0=b+1:=⟨sgB.getD k 0 - 1,by omega⟩
    have HME:=hide ((mv_expr e g).2.1 (l+1) (ptN { ndK 20 with n:=(k:Nat) } (e.place p) [x,(rE e g (sgB.getD k 0+1) p.on).1]) (rE e g (sgB.getD k 0+1) p.on).2)
    simp only[hbk,Nat.add_sub_cancel]at HEX HOC hsb hml hmt hEl HME
    obtain⟨Y,hY⟩:∃Y,rE e g (bk+1+1) p.on=Y:=⟨_,rfl⟩
    simp only[hY]at HEX hml hmt hEl HME
    rw[HZ.out]at hEl HME
    rw[hEl]at HME
    rw[show ((bk+1:Nat):Int)=(bk:Int)+1 from by omega]at HEX
    clear hop hgo hbk hY hME
    go_wp2_with fail
    refine HPL.out.mono ?_
    rintro r V1 ⟨rfl,hb⟩
    have HB:=hide hb
    clear hb HPL
    go_wp2_with fail
    refine (HOP.out V1 HB.out).mono ?_
    rintro r V2 ⟨rfl,hqq⟩
    have HG2:=hide ((HG.out.blw HB.out).tr hqq.2)
    have HPM2:Hid (PmI w.heap.size V2 w.heap.size V2.heap.size x (.iface t a)):=⟨Nat.le_refl _,((HPV.out.kept HB.out).rd hqq.2 hPl).iv⟩
    have HQ2:=hide hqq.1
    have hoc:=HOC.out V2 hqq.1.env.tab
    clear hqq HOP HOC
    go_wp2_with fail
    refine (HEX.out V2 HQ2.out).mono ?_
    rintro r V3 ⟨hg3,⟨hb3,hq3,v,rfl,⟨⟨t3,a3,rfl⟩,hpm3⟩⟩|⟨hb3,rfl⟩⟩
    ·have hA:Below V3.heap.size V3 (V3.alloc (.cells #[.iface t a,.iface t3 a3] 65)):=(Below.refl _ _).alloc (Nat.le_refl _) _
     have hG3:=HG2.out.tr hg3
     have HMK:=hide (qmake_any Z (show (0:Int)≤20∧(20:Int)≤22 by decide) (Kids.plain (k:=20) (n:=(k:Nat)) ((Pts.two (HPM2.out.rd hg3 hPl).pm hpm3.iv (Nat.le_refl _) HG2.out.size hg3.size).kept hA)) (ks:=[x,Y.1]) (us:=[.iface t a,.iface t3 a3]) rfl (RwG.of_blk (Blk.new V3 65 #[.iface t a,.iface t3 a3]) hG3.size 2))
     have HQ3:=hide (hq3.below hA)
     have HG3:=hide (hG3.blw hA)
     clear hpm3 hq3 hg3 hG3 hA HEX hoc
     go_wp2_with fail
     refine HMK.out.mono ?_
     rintro r V4 ⟨⟨t4,a4,rfl,hpm⟩,hb4⟩
     have HPM4:=hide hpm
     have HB4:=hide hb4
     have hQ4:=HQ3.out.below hb4
     have hm4:=atQ_of hQ4
     have HQ4:=hide hQ4
     clear hpm hb4 hQ4
     go_wp2
     go_roundw
     case rel=>exact⟨g,_,Y.2,by omega,by unfold lft at hgl ⊢;omega,hEl,hb3,hmt,HQ4.out,HG3.out.blw HB4.out,⟨_,_,rfl⟩,HPM4.out⟩
     case measure=>omega
    ·exact⟨rfl,RQ.fault hb3 HME.out (HG2.out.tr hg3)⟩
 ·rw[HRE.out]
  exact⟨rfl,RQ.fault hb1 HME.out hg1⟩
theorem qx_all {c:PsC}{e:PsE}(hE:EOk e):∀f,QUn c e f∧∀g,g≤f→QEx c e g
 |0=>⟨fun w p _ _ _ hf=>absurd hf (by omega),fun g hg l w p _ _ _ _ hf=>absurd hf (by omega)⟩
 |f+1=>by
  obtain⟨h1,h2⟩:=qx_all hE f
  refine⟨qunary hE h1 (h2 f (Nat.le_refl _)),fun g hg=>?_⟩
  by_cases q:g=f+1
  ·rw[q];exact qchain hE h1 h2
  ·exact h2 g (by omega)
def QE (c:PsC)(e:PsE)(f:Nat):Prop:=∀w p,QsW w c e p.at_→p.bad<0→p.at_≤e.T.length→Calls Tryz.prog 150 #[.pointer (some ⟨c.P,0,none⟩)] w (RQ c e w (rE e f 1 p).2 (KP w (rE e f 1 p).1))
theorem qe_all {c:PsC}{e:PsE}{f:Nat}(hE:EOk e)(hf:2*e.T.length+3≤f):QE c e f:=fun _ _ h hp hn=>qexpr ((qx_all hE f).2 f (Nat.le_refl _)) h hp hn (by unfold lft;omega)
theorem PO.lit {V:World}{B:Nat}{ks:List Pt}{us:List Value}(hl:us.length=ks.length)(hs:us.length≤1000)(h1:∀u∈us,u.oneCell'=true)(hB:B≤V.heap.size)(h:Pts V B V.heap.size ks us):
 PO (V.alloc (.cells us.toArray 65)) B V.heap.size (.slice (some ⟨V.heap.size,0,none⟩) ks.length ks.length) ks us:=by
 obtain⟨Gs,d1,s1,e1⟩:=h
 refine⟨hl,?_,h1,Gs,d1,fun j g a=>⟨(s1 j g a).1,(s1 j g a).2,fun q=>by injection q with q;have q':V.heap.size=g:=q;have:=s1 j g a;omega⟩,fun j k u hk hu=>(e1 j k u hk hu).kept ((Below.refl _ _).alloc (Nat.le_refl _) _)⟩
 have:=own_lit (n:=ks.length) (B:=B) (sz:=1) (Blk.new V 65 us.toArray) hB (by simp[hl]) (by omega)
 simpa using this
theorem wp_appsV {P:Program}{ops:Array Oper}{rest:List Oper}{o:Oper}{a:Act}{Q:Exit→Act→World→Prop}{w:World}(hgd:o.guard=none)(s x:Operand)(t e:TypeId)
 (ho:o.op = .call { callee:=.builtin .append,args:=#[s,x],argTypes:=#[t,t] }) (z:Value) (bytes:Nat) (ht:P.underlying t=some (.slice e)) (hinfo:(P.info? e).map (fun i=>(i.zero,i.size,i.bytes))=some (some z,1,bytes)) (hzc:z.cells.size=1) (hby:bytes≤1000)
 (B:Nat) (v:Value) (n:Nat) (xs:List Value) (hs:a.eval s=v) (hown:w.ownsRow B e 1 v n xs)
 (g c m:Nat) (ys:List Value) (hx:a.eval x = .slice (some ⟨g,0,none⟩) m c) (hy:ys.length=m) (hnew:Cs w g ys) (hone:∀u∈ys,u.oneCell'=true) (hlen:n+m≤10000000) (hbase:B≤w.heap.size)
 (h:∀v' w',w'.ownsRow B e 1 v' (n+m) (xs++ys)→w.grownBy w' v.ownBlock→(v'.ownBlock=v.ownBlock∨v'.ownBlock=some w.heap.size)→wpList P ops Q rest (a.put o.dst v') w'):wpList P ops Q (o::rest) a w:=by
 obtain⟨i0,hi,hz0,hz1,hz2⟩:=info_partsV hinfo
 refine wpList_append_own_at _ hgd s x t ho B e i0 z 1 bytes ht hi hz0 hz1 hz2 hzc (by decide) v n xs hs hown ⟨g,0,none⟩ m c ys hx (by omega) (fun j u hj=>?_) hone (by unfold maxLen;omega) ?_ hbase (fun v' w' h1 h2 _ h4=>h v' w' h1 h2 h4)
 ·have e:(⟨g,0,none⟩:Addr).add j = ⟨g,j,none⟩:=by unfold Addr.add;split<;>simp_all
  rw[e];exact hnew j u hj
 ·have:(n+m)*bytes≤10000001*1000:=Nat.mul_le_mul (by omega) hby
  omega
set_option maxHeartbeats 2000000 in
set_option maxRecDepth 1000000 in
theorem qcell {c:PsC}{e:PsE}{f:Nat}(hE:EOk e)(HEx:QE c e f){w:World}{p:Ps}(h:QsW w c e p.at_)(hp:p.bad<0)(hn:p.at_≤e.T.length):
 Calls Tryz.prog 152 #[.pointer (some ⟨c.P,0,none⟩)] w (RQ c e w (rCell e f p).2 (KL w (rCell e f p).1)):=by
 have HC:=hide (HEx w p h hp hn)
 have hPl:=h.blk.lt
 have hm1:=(mv_expr e f).1 1 p
 have hm2:=(mv_want e (rE e f 1 p).2 (⟨#[44]⟩:ByteArray)).1
 have hm3:=(mv_expr e f).1 1 (e.want (rE e f 1 p).2 (⟨#[44]⟩:ByteArray))
 unfold rCell
 simp only
 obtain⟨X,hX⟩:∃X,rE e f 1 p=X:=⟨_,rfl⟩
 rw[hX]at HC hm1 hm2 hm3 ⊢
 have HT1:=hide (hm1.top hn)
 have HT2:=hide (hm2.top HT1.out)
 have HEY:=hide (fun W (hW:QsW W c e (e.want X.2 (⟨#[44]⟩:ByteArray)).at_) (hb:(e.want X.2 (⟨#[44]⟩:ByteArray)).bad<0)=>HEx W _ hW hb HT2.out)
 have HM2:=hide hm2
 have HM3:=hide hm3
 obtain⟨Q,hQ⟩:∃Q,e.want X.2 (⟨#[44]⟩:ByteArray)=Q:=⟨_,rfl⟩
 rw[hQ]at HM2 HM3 HEY HT2 ⊢
 have HQQ:=hide hQ
 obtain⟨Y,hY⟩:∃Y,rE e f 1 Q=Y:=⟨_,rfl⟩
 rw[hY]at HM3 HEY ⊢
 clear h hX hm1 hm2 hm3 hQ hY hp hn HEx
 go_enter Tryz.func152,Tryz.ntmps152
 go_wp2_with fail
 refine HC.out.mono ?_
 rintro r w1 ⟨hg1,⟨hb1,hq1,v,rfl,⟨⟨t,a,rfl⟩,hpm⟩⟩|⟨hb1,rfl⟩⟩
 ·have HWT:=hide (qwant hE (⟨#[44]⟩:ByteArray) (by decide +kernel) hq1 hb1 HT1.out)
  rw[HQQ.out]at HWT
  have HPM:=hide hpm
  have HG1:=hide hg1
  clear hpm hq1 hg1 HC
  go_wp2_with fail
  refine HWT.out.mono ?_
  rintro r w2 ⟨hg2,⟨hb2,hq2,_,rfl,rfl⟩|⟨hb2,rfl⟩⟩
  ·have HG2:=hide (HG1.out.tr hg2)
   have HPM2:Hid (PmI w.heap.size w2 w.heap.size w2.heap.size X.1 (.iface t a)):=⟨Nat.le_refl _,(HPM.out.rd hg2 hPl).iv⟩
   have HQ2:=hide hq2
   clear hg2 hq2 HWT
   go_wp2_with fail
   refine (HEY.out w2 HQ2.out hb2).mono ?_
   rintro r w3 ⟨hg3,⟨hb3,hq3,v3,rfl,⟨⟨t3,a3,rfl⟩,hpm3⟩⟩|⟨hb3,rfl⟩⟩
   ·have hG3:=HG2.out.tr hg3
    have HPO:=hide (PO.lit (V:=w3) (B:=w.heap.size) (ks:=[X.1,Y.1]) (us:=[.iface t a,.iface t3 a3]) rfl (by simp) (fun u hu=>by simp only[List.mem_cons,List.not_mem_nil,or_false]at hu;rcases hu with rfl|rfl<;>rfl) hG3.size (Pts.two (HPM2.out.rd hg3 hPl).pm hpm3.iv (Nat.le_refl _) HG2.out.size hg3.size))
    have hA:Below w3.heap.size w3 (w3.alloc (.cells #[.iface t a,.iface t3 a3] 65)):=(Below.refl _ _).alloc (Nat.le_refl _) _
    have HQ3:=hide (hq3.below hA)
    have HG3:=hide (hG3.blw hA)
    clear hpm3 hq3 hg3 hG3 hA HEY
    go_wp2
    go_ret
    exact RQ.ok hb3 HG3.out HQ3.out ⟨_,HPO.out.up (by simp)⟩
   ·exact⟨rfl,RQ.fault hb3 (Mv.refl _ _) (HG2.out.tr hg3)⟩
  ·exact⟨rfl,RQ.fault hb2 HM3.out (HG1.out.tr hg2)⟩
 ·exact⟨rfl,RQ.fault hb1 (HM2.out.trans HM3.out) hg1⟩
set_option maxHeartbeats 2000000 in
set_option maxRecDepth 1000000 in
theorem qarea {c:PsC}{e:PsE}{f:Nat}(hE:EOk e)(HEx:QE c e f){w:World}{p:Ps}(h:QsW w c e p.at_)(hp:p.bad<0)(hn:p.at_≤e.T.length):
 Calls Tryz.prog 153 #[.pointer (some ⟨c.P,0,none⟩)] w (RQ c e w (rArea e f p).2 (KL w (rArea e f p).1)):=by
 have HC:=hide (qcell hE HEx h hp hn)
 have hPl:=h.blk.lt
 have hm1:=mv_cell e f p
 have HMA:=hide (mv_area e f p)
 have HT1:=hide (hm1.top hn)
 have hl2:Hid ((rCell e f p).1.length=2):=rfl
 obtain⟨X,hX⟩:∃X,rCell e f p=X:=⟨_,rfl⟩
 have HRA:Hid (rArea e f p=if e.is X.2 (⟨#[116,111]⟩:ByteArray) then (X.1++(rCell e f X.2.on).1,(rCell e f X.2.on).2) else X):=by show _=_;rw[← hX];rfl
 rw[hX]at HC HT1 hl2
 clear h hX hm1 hp hn
 go_enter Tryz.func153,Tryz.ntmps153
 go_wp2_with fail
 refine HC.out.mono ?_
 rintro r w1 ⟨hg1,⟨hb1,hq1,v,rfl,⟨us,hpo⟩⟩|⟨hb1,rfl⟩⟩
 ·have hi:=hE.is hb1 (w:=(⟨#[116,111]⟩:ByteArray)) (by decide +kernel)
  obtain⟨la,lc,rfl⟩:=own_sl hpo.own
  have HPO:=hide hpo
  have HG1:=hide hg1
  have HQ1:=hide hq1
  clear hpo hg1 hq1 HC
  by_cases hto:e.txt X.2.at_=(⟨#[116,111]⟩:ByteArray)
  ·have HTK:=hide (tk_yes (c:=c) _ HT1.out hto)
   have hlt:X.2.at_<e.T.length:=by
    by_cases q:X.2.at_<e.T.length
    ·exact q
    ·have:=(hE.end_ X.2.at_).mpr q
     rw[hto]at this
     exact absurd this (by decide)
   have HR2:Hid (rArea e f p=(X.1++(rCell e f X.2.on).1,(rCell e f X.2.on).2)):=by show _=_;rw[HRA.out,hi,decide_eq_true hto,if_pos rfl]
   have HCY:=hide (fun W (hW:QsW W c e (X.2.at_+1))=>qcell hE HEx (p:=X.2.on) hW hb1 hlt)
   have hl3:Hid ((rCell e f X.2.on).1.length=2):=rfl
   have hl2':X.1.length≤2:=Nat.le_of_eq hl2.out
   obtain⟨Y,hY⟩:∃Y,rCell e f X.2.on=Y:=⟨_,rfl⟩
   rw[hY]at HCY hl3 HR2
   clear hi hto hY HRA HEx
   go_wp2_with fail
   refine (HTK.out w1 HQ1.out).mono ?_
   rintro r w2 ⟨rfl,hq⟩
   have HG2:=hide (HG1.out.tr hq.2)
   have hPO2:=HPO.out.rd hq.2 hPl
   have HPO2:=hide hPO2
   have hz12:w1.heap.size≤w2.heap.size:=hq.2.size
   have HQ2:=hide hq.1
   clear hq HTK hPO2
   go_wp2_with fail
   refine (HCY.out w2 HQ2.out).mono ?_
   rintro r w3 ⟨hg3,⟨hb3,hq3,v3,rfl,⟨ys,hpy⟩⟩|⟨hb3,rfl⟩⟩
   ·have hG3:=HG2.out.tr hg3
    have hPO3:=HPO2.out.rd hg3 hPl
    have hz23:w2.heap.size≤w3.heap.size:=hg3.size
    have HPY:=hide hpy.pts
    obtain⟨ya,yg,yc,hyv,hy1,hy2⟩:=RwG.of_own (G:=fun _=>True) hpy.own (fun _ _=>trivial)
    have hyl:=hpy.len
    rw[hl3.out]at hy1 hy2 hyv hyl
    obtain⟨rfl,_⟩:=hy1 (by omega)
    subst hyv
    have HCS:=hide (hy2 (by omega))
    have HY1:=hide hpy.one
    have HPO3:=hide hPO3
    have HO3:=hide hPO3.own
    have HQ3:=hide hq3
    have HG3:=hide hG3
    clear hpy hg3 hq3 hG3 hPO3 hy1 hy2 HCY
    go_wp2_with (at_builtin;refine wp_appsV rfl _ _ 96 65 rfl .nilIface 16 Tryz.underlying96 Tryz.infoPart rfl (by decide) w.heap.size _ X.1.length us rfl HO3.out yg yc 2 ys rfl hyl HCS.out HY1.out ?l1 ?b1 ?_)
    case l1=>omega
    case b1=>exact HG3.out.size
    intro v6 V6 ho6 hg6 hob6
    have HP6:=hide ((HPO3.out.apps (xs:=Y.1) (by rw[hl3.out];exact hyl) HY1.out HPY.out HPO2.out.olt hz12 HG2.out.size (by omega) (Nat.le_refl _) (Below.refl _ _) (by rw[hl3.out];exact ho6) hg6 hob6).up hg6.size)
    have HQ6:=hide (HQ3.out.row HO3.out hPl hg6)
    have HG6:=hide (HG3.out.row HO3.out (Nat.le_refl _) hg6)
    obtain⟨a6,c6,rfl⟩:=own_sl ho6
    clear ho6 hg6 hob6
    go_wp2
    go_ret
    rw[HR2.out]
    exact RQ.ok hb3 HG6.out HQ6.out ⟨_,HP6.out⟩
   ·exact⟨rfl,by rw[HR2.out];exact RQ.fault hb3 (Mv.refl _ _) (HG2.out.tr hg3)⟩
  ·have HTK:=hide (tk_no (c:=c) _ HT1.out hto)
   have HR2:Hid (rArea e f p=X):=by show _=_;rw[HRA.out,hi,decide_eq_false hto,if_neg Bool.false_ne_true]
   clear hi hto HRA
   go_wp2_with fail
   refine (HTK.out w1 HQ1.out).mono ?_
   rintro r w2 ⟨rfl,hq⟩
   have HG2:=hide (HG1.out.tr hq.2)
   have HPO2:=hide ((HPO.out.rd hq.2 hPl).up hq.2.size)
   have HQ2:=hide hq.1
   clear hq HTK
   go_wp2
   go_ret
   rw[HR2.out]
   exact RQ.ok hb1 HG2.out HQ2.out ⟨_,HPO2.out⟩
 ·refine⟨rfl,?_⟩
  have:rArea e f p=X:=by rw[HRA.out,is_bad _ hb1,if_neg Bool.false_ne_true]
  rw[this]
  exact RQ.fault hb1 (Mv.refl _ _) hg1
def wyL : List Value:=wyN.map Value.string
theorem TabQ.wyR {w:World}(h:TabQ w):w.rangeAt 6 0 wyL:=by
 intro j v hj
 have hlt:j<4:=(List.getElem?_eq_some_iff.1 hj).1
 rw[Nat.zero_add]
 have q:j=0∨j=1∨j=2∨j=3:=by omega
 rcases q with rfl|rfl|rfl|rfl<;>injection hj with hj<;>rw[← hj]<;>exact h.wyw _ (by omega)
theorem wy_idx (k:Nat)(hk:k<4)(W:World):(Instr.index 207 (.agg wyL.toArray) (.int .i64 (k:Nat))).run Tryz.prog W = .ok (.string (wyN.getD k ⟨#[]⟩)) W:=
 match k,hk with
 |0,_=>by kernel_rfl
 |1,_=>by kernel_rfl
 |2,_=>by kernel_rfl
 |3,_=>by kernel_rfl
theorem wyN_ok : ∀k,k<4→wOk (wyN.getD k ⟨#[]⟩)=true:=by decide +kernel
theorem rWay_at {e:PsE}(hE:EOk e){p:Ps}(hp:p.bad<0){k:Nat}(hk:k<4)(hno:∀j,j<k→e.txt p.at_≠wyN.getD j ⟨#[]⟩)(ht:e.txt p.at_=wyN.getD k ⟨#[]⟩):rWay e p=(k,p.on):=by
 have hi:=fun j (hj:j<4)=>hE.is hp (wyN_ok j hj)
 unfold rWay
 rw[hi 0 (by omega),hi 1 (by omega),hi 2 (by omega),hi 3 (by omega)]
 have q:k=0∨k=1∨k=2∨k=3:=by omega
 rcases q with rfl|rfl|rfl|rfl
 ·rw[decide_eq_true ht,if_pos rfl]
 ·rw[decide_eq_false (hno 0 (by omega)),if_neg Bool.false_ne_true,decide_eq_true ht,if_pos rfl]
 ·rw[decide_eq_false (hno 0 (by omega)),if_neg Bool.false_ne_true,decide_eq_false (hno 1 (by omega)),if_neg Bool.false_ne_true,decide_eq_true ht,if_pos rfl]
 ·rw[decide_eq_false (hno 0 (by omega)),if_neg Bool.false_ne_true,decide_eq_false (hno 1 (by omega)),if_neg Bool.false_ne_true,decide_eq_false (hno 2 (by omega)),if_neg Bool.false_ne_true,decide_eq_true ht,if_pos rfl]
theorem rWay_no {e:PsE}(hE:EOk e){p:Ps}(hp:p.bad<0)(hno:∀j,j<4→e.txt p.at_≠wyN.getD j ⟨#[]⟩):rWay e p=(0,e.wrong p):=by
 have hi:=fun j (hj:j<4)=>hE.is hp (wyN_ok j hj)
 unfold rWay
 rw[hi 0 (by omega),hi 1 (by omega),hi 2 (by omega),hi 3 (by omega),decide_eq_false (hno 0 (by omega)),if_neg Bool.false_ne_true,decide_eq_false (hno 1 (by omega)),if_neg Bool.false_ne_true,decide_eq_false (hno 2 (by omega)),if_neg Bool.false_ne_true,decide_eq_false (hno 3 (by omega)),if_neg Bool.false_ne_true]
theorem RQ.here {c:PsC}{e:PsE}{w W:World}{p:Ps}{K:World→Value→Prop}(hp:p.bad<0)(hg:Gw (· = c.P) w W):RQ c e w (e.wrong p) K (Flt (e.place ⟨p.at_, -1,false⟩:Nat)) W:=by
 have hb:(e.wrong p).bad=(e.place p:Nat):=by unfold PsE.wrong;rw[if_pos hp]
 exact⟨hg,.inr ⟨by rw[hb];omega,by rw[hb];rfl⟩⟩
def KI (n:Nat)(_:World)(v:Value):Prop:=v = .int .i64 (n:Nat)
set_option maxHeartbeats 2000000 in
set_option maxRecDepth 1000000 in
theorem qway {c:PsC}{e:PsE}(hE:EOk e){w:World}{p:Ps}(h:QsW w c e p.at_)(hp:p.bad<0)(hn:p.at_≤e.T.length):
 Calls Tryz.prog 154 #[.pointer (some ⟨c.P,0,none⟩)] w (RQ c e w (rWay e p).2 (KI (rWay e p).1)):=by
 have HRG:=hide h.env.tab.wyR
 have HIX:=hide wy_idx
 obtain⟨OA,hOA⟩:∃OA,Value.agg wyL.toArray=OA:=⟨_,rfl⟩
 rw[hOA]at HIX
 have HOA:=hide hOA
 have HH:=hide h
 have HF:=hide (fun W (hW:QsW W c e p.at_)=>qfault_any hW)
 clear h hOA
 go_enter Tryz.func154,Tryz.ntmps154
 go_wp2_with (refine wpList_load_mid rfl 207 (.global 6) rfl 6 0 rfl wyL _ HRG.out Tryz.underlying207 rfl (by kernel_rfl) ?_;rw[HOA.out])
 go_loopw [6] (fun iv wr=>∃k:Nat,k≤4∧iv = .int .i64 (k:Nat)∧(∀j,j<k→e.txt p.at_≠wyN.getD j ⟨#[]⟩)∧QdQ c e p.at_ w wr) (fun iv _=>4 - (intOf iv).toNat)
 case atStart=>exact⟨0,by omega,rfl,fun j hj=>absurd hj (by omega),⟨HH.out,Gw.refl _ _⟩⟩
 case round=>
  obtain⟨k,hk,rfl,hno,hq⟩:=hrel
  rename World=>V
  by_cases hlt:k<4
  ·have hlti:(k:Int)<4:=by omega
   have hix:=HIX.out k hlt V
   have HNO:=hide hno
   have HQ:=hide hq
   by_cases hs:e.txt p.at_=wyN.getD k ⟨#[]⟩
   ·have HTK:=hide (tk_yes (c:=c) _ hn hs V hq.1)
    have HR:Hid (rWay e p=(k,p.on)):=rWay_at hE hp hlt hno hs
    obtain⟨S,hS⟩:∃S,wyN.getD k ⟨#[]⟩=S:=⟨_,rfl⟩
    rw[hS]at hix HTK
    clear hS hq hno HIX HH hs
    go_wp2_with fail
    refine HTK.out.mono ?_
    rintro r V1 ⟨rfl,hqq⟩
    have HQ2:=hide (HQ.out.trans hqq)
    clear hqq HTK HQ
    go_wp2
    go_ret
    rw[HR.out]
    exact RQ.ok (q:=p.on) hp HQ2.out.2 HQ2.out.1 rfl
   ·have HTK:=hide (tk_no (c:=c) _ hn hs V hq.1)
    have HS:=hide hs
    obtain⟨S,hS⟩:∃S,wyN.getD k ⟨#[]⟩=S:=⟨_,rfl⟩
    rw[hS]at hix HTK
    clear hS hq hno HIX HH hs
    go_wp2_with fail
    refine HTK.out.mono ?_
    rintro r V1 ⟨rfl,hqq⟩
    have HQ2:=hide (HQ.out.trans hqq)
    clear hqq HTK HQ
    go_wp2
    go_roundw
    case rel=>exact⟨k+1,by omega,by go_num,fun j hj=>(by
     by_cases q:j=k
     ·rw[q];exact HS.out
     ·exact HNO.out j (by omega)),HQ2.out⟩
    case measure=>simp[intOf];omega
  ·obtain rfl:k=4:=by omega
   have HQ:=hide hq
   have HR:Hid (rWay e p=(0,e.wrong p)):=rWay_no hE hp hno
   have HFV:=hide (HF.out V hq.1)
   have HRQ:Hid (∀W,Below V.heap.size V W→RQ c e w (e.wrong p) (KI 0) (Flt (e.place ⟨p.at_, -1,false⟩:Nat)) W):=fun W hW=>RQ.here hp (HQ.out.2.blw hW)
   obtain⟨Q,hQ⟩:∃Q,e.place ⟨p.at_, -1,false⟩=Q:=⟨_,rfl⟩
   rw[hQ]at HFV HRQ
   clear hq hno hk hlt hQ HH HF
   go_wp2_with fail
   refine HFV.out.mono ?_
   rintro r V1 ⟨rfl,hb⟩
   have HB:=hide hb
   clear hb HFV
   go_wp2
   exact⟨rfl,by rw[HR.out];exact HRQ.out _ HB.out⟩
end Go.Proofs.YtbiakdjpeblclaaGreatDoor
namespace Go.Proofs.YtbiakdjpeblclaaGreatDoor
def rLet (e:PsE)(f pl:Nat)(p:Ps):Pt × Ps:=
 let x:=e.ident p
 let y:=rE e f 1 (e.want x.2 (⟨#[61]⟩:ByteArray))
 rEnd e { ndK 3 with names:=[x.1] } pl ([y.1],y.2)
def rCall (e:PsE)(f pl:Nat)(p:Ps):Pt × Ps:=
 let x:=e.ident p
 let y:=rArgs e f e.T.length [] (e.want x.2 (⟨#[40]⟩:ByteArray))
 let z:=e.want y.2 (⟨#[41]⟩:ByteArray)
 rEnd e { ndK 4 with names:=[x.1] } pl (y.1,{ z with long:=z.long||decide (10<y.1.length) })
def rFor (e:PsE)(f:Nat)(blk:Ps→Pt × Ps)(pl:Nat)(p:Ps):Pt × Ps:=
 let x:=e.ident p
 let y:=rE e f 1 (e.want x.2 (⟨#[61]⟩:ByteArray))
 let z:=rE e f 1 (e.want y.2 (⟨#[116,111]⟩:ByteArray))
 let u:=blk z.2
 (ptN { ndK 5 with names:=[x.1] } pl [y.1,z.1,u.1],u.2)
def rDb (e:PsE)(f k:Nat)(p:Ps):Int × List Pt × Ps:=
 if k=7 then (0,rCell e f p)
 else if k=8∨k=9 then (0,rArea e f p)
 else if k=10 then (let x:=rArea e f p;let y:=rWay e x.2;((y.1:Nat),x.1,y.2))
 else if k=11∨k=12 then (let x:=rCell e f p;let y:=rWay e x.2;((y.1:Nat),x.1,y.2))
 else if k=13 then (let x:=rArea e f p;let y:=rE e f 1 (e.want x.2 (⟨#[99,111,115,116]⟩:ByteArray));(0,x.1++[y.1],y.2))
 else (let x:=rE e f 1 p;let y:=rCell e f (e.want x.2 (⟨#[97,116]⟩:ByteArray));(0,x.1::y.1,y.2))
def rDec (e:PsE)(f k pl:Nat)(p:Ps):Pt × Ps:=rEnd e { ndK (k:Nat) with n:=(rDb e f k p).1 } pl (rDb e f k p).2
def rWd (e:PsE)(f m k pl:Nat)(p:Ps):Pt × Ps:=
 if k=3 then rLet e f pl p else if k=4 then rCall e f pl p
 else if k=5 then rFor e f (rBlock e e.T.length (rS e f m)) pl p
 else if k=6 then rIf e f (rBlock e e.T.length (rS e f m)) e.T.length pl p
 else rDec e f k pl p
theorem EOk.rS {e:PsE}(hE:EOk e)(f m:Nat){p:Ps}(hp:p.bad<0){k:Nat}(hk:k<16)(h3:3≤k)(ht:e.txt p.at_=sWd.getD k ⟨#[]⟩):rS e f (m+1) p=rWd e f m k (e.place p) p.on:=by
 have hi:=hE.stw hp hk h3 ht
 have i3:=hi 3 (by omega) (by omega)
 have i4:=hi 4 (by omega) (by omega)
 have i5:=hi 5 (by omega) (by omega)
 have i6:=hi 6 (by omega) (by omega)
 have i7:=hi 7 (by omega) (by omega)
 have i8:=hi 8 (by omega) (by omega)
 have i9:=hi 9 (by omega) (by omega)
 have i10:=hi 10 (by omega) (by omega)
 have i11:=hi 11 (by omega) (by omega)
 have i12:=hi 12 (by omega) (by omega)
 have i13:=hi 13 (by omega) (by omega)
 have i14:=hi 14 (by omega) (by omega)
 have i15:=hi 15 (by omega) (by omega)
 have q:k=3∨k=4∨k=5∨k=6∨k=7∨k=8∨k=9∨k=10∨k=11∨k=12∨k=13∨k=14∨k=15:=by omega
 clear hi ht
 simp only[show sWd.getD 3 (⟨#[]⟩:ByteArray) = ⟨#[108,101,116]⟩ from rfl,show sWd.getD 4 (⟨#[]⟩:ByteArray) = ⟨#[99,97,108,108]⟩ from rfl,show sWd.getD 5 (⟨#[]⟩:ByteArray) = ⟨#[102,111,114]⟩ from rfl,show sWd.getD 6 (⟨#[]⟩:ByteArray) = ⟨#[105,102]⟩ from rfl,show sWd.getD 7 (⟨#[]⟩:ByteArray) = ⟨#[103,114,105,100]⟩ from rfl,show sWd.getD 8 (⟨#[]⟩:ByteArray) = ⟨#[119,97,108,108]⟩ from rfl,show sWd.getD 9 (⟨#[]⟩:ByteArray) = ⟨#[111,112,101,110]⟩ from rfl,show sWd.getD 10 (⟨#[]⟩:ByteArray) = ⟨#[108,97,110,101]⟩ from rfl,show sWd.getD 11 (⟨#[]⟩:ByteArray) = ⟨#[103,97,116,101]⟩ from rfl,show sWd.getD 12 (⟨#[]⟩:ByteArray) = ⟨#[98,97,114]⟩ from rfl,show sWd.getD 13 (⟨#[]⟩:ByteArray) = ⟨#[122,111,110,101]⟩ from rfl,show sWd.getD 14 (⟨#[]⟩:ByteArray) = ⟨#[115,116,97,116,105,111,110]⟩ from rfl,show sWd.getD 15 (⟨#[]⟩:ByteArray) = ⟨#[99,104,97,114,103,101,114]⟩ from rfl]at i3 i4 i5 i6 i7 i8 i9 i10 i11 i12 i13 i14 i15
 rw[Go.Proofs.YtbiakdjpeblclaaGreatDoor.rS]
 unfold rFlat rWd
 rcases q with rfl|rfl|rfl|rfl|rfl|rfl|rfl|rfl|rfl|rfl|rfl|rfl|rfl<;>
  simp only[i3,i4,i5,i6,i7,i8,i9,i10,i11,i12,i13,i14,i15]<;>rfl
end Go.Proofs.YtbiakdjpeblclaaGreatDoor
namespace Go.Proofs.YtbiakdjpeblclaaGreatDoor
open Go.RowKit
structure NdA (w V:World)(O hi:Nat)(m:Nv):Prop where
 blk:Blk V O 51 #[.int .i64 m.d.kind,.int .i64 m.d.n,m.t,m.n,m.y,.int .i64 m.d.count]
 lo:w.heap.size≤O
 ok:m.Od V (Iv w.heap.size hi)
theorem NdA.rd {w V V':World}{O hi:Nat}{m:Nv}{c:PsC}(h:NdA w V O hi m)(hg:Gw (· = c.P) V V')(hP:c.P<w.heap.size):NdA w V' O hi m:=
 ⟨hg.blk h.blk (by have:=h.lo;show ¬O=c.P;omega),h.lo,h.ok.gw hg (fun k hk q=>by rw[hk]at q;have:=q.1;omega)⟩
theorem NdA.kept {w V V':World}{O hi:Nat}{m:Nv}(h:NdA w V O hi m)(hb:Below V.heap.size V V'):NdA w V' O hi m:=
 ⟨(hb.block _ h.blk.lt).trans h.blk,h.lo,h.ok.kept hb⟩
def nm1 (k:Int)(s:ByteArray)(g:Nat):Nv:=⟨{ ndK k with names:=[s] },.slice none 0 0,.slice (some ⟨g,0,none⟩) 1 1,.slice none 0 0⟩
theorem NdA.name {w V:World}{k:Int}{s:ByteArray}{u:Value}(hw:w.heap.size≤V.heap.size)(h:BGf V (fun g=>w.heap.size≤g) u s)(hs:s.size≤5000):
 NdA w ((V.alloc (.cells #[u] 22)).alloc (.cells #[.int .i64 k,.int .i64 0,.slice none 0 0,.slice (some ⟨V.heap.size,0,none⟩) 1 1,.slice none 0 0,.int .i64 0] 51)) (V.heap.size+1) (V.heap.size+1) (nm1 k s V.heap.size):=by
 have hA:Below V.heap.size V (V.alloc (.cells #[u] 22)):=(Below.refl _ _).alloc (Nat.le_refl _) _
 have hB:Below (V.alloc (.cells #[u] 22)).heap.size (V.alloc (.cells #[u] 22)) ((V.alloc (.cells #[u] 22)).alloc (.cells #[.int .i64 k,.int .i64 0,.slice none 0 0,.slice (some ⟨V.heap.size,0,none⟩) 1 1,.slice none 0 0,.int .i64 0] 51)):=(Below.refl _ _).alloc (Nat.le_refl _) _
 refine⟨?_,by omega,?_⟩
 ·have h:=Blk.new (V.alloc (.cells #[u] 22)) 51 #[.int .i64 k,.int .i64 0,.slice none 0 0,.slice (some ⟨V.heap.size,0,none⟩) 1 1,.slice none 0 0,.int .i64 0]
  rw[World.size_alloc]at h
  exact h
 ·have hn:=od_name (k:=k) (G:=Iv w.heap.size (V.heap.size+1)) (Blk.new V 22 #[u]) ⟨hw,Nat.lt_succ_self _⟩ ((BGf.mono h (G':=Iv w.heap.size (V.heap.size+1)) (fun g q hl=>⟨q,by omega⟩)).gw (P:=fun _=>False) (Gw.of_below hA) (fun _ q=>q.elim)) (by omega)
  exact Nv.Od.kept hn hB
theorem NdA.cells {w V:World}{O hi:Nat}{m:Nv}(h:NdA w V O hi m):V.cell? ⟨O,0,none⟩=some (.int .i64 m.d.kind)∧V.cell? ⟨O,1,none⟩=some (.int .i64 m.d.n)∧V.cell? ⟨O,2,none⟩=some m.t∧V.cell? ⟨O,3,none⟩=some m.n∧V.cell? ⟨O,4,none⟩=some m.y∧V.cell? ⟨O,5,none⟩=some (.int .i64 m.d.count):=
 ⟨h.blk.cell 0,h.blk.cell 1,h.blk.cell 2,h.blk.cell 3,h.blk.cell 4,h.blk.cell 5⟩
set_option maxHeartbeats 4000000 in
set_option maxRecDepth 1000000 in
theorem qlet {c:PsC}{e:PsE}{f:Nat}{pl:Nat}(hE:EOk e)(HEx:QE c e f){w:World}{p:Ps}(h:QsW w c e p.at_)(hp:p.bad<0)(hn:p.at_≤e.T.length):
 Calls Tryz.prog 136 #[.pointer (some ⟨c.P,0,none⟩),.int .i64 (pl:Nat)] w (RQ c e w (rLet e f pl p).2 (KP w (rLet e f pl p).1)):=by
 have hPl:=h.blk.lt
 have HQ:=hide h
 have HG:=hide (Gw.refl (· = c.P) w)
 have HT0:=hide hn
 unfold rLet rEnd
 simp only
 have HM1:=hide ((mv_ident e p).1)
 have HT1:=hide (HM1.out.top HT0.out)
 have HC1:=hide (fun W (hW:QsW W c e p.at_) (hb:p.bad<0)=>qname (p:=p) hW hb)
 obtain⟨I,hI⟩:∃zz,e.ident p=zz:=⟨_,rfl⟩
 simp only[hI]at HM1 HT1 HC1 ⊢
 have HM2:=hide ((mv_want e I.2 (⟨#[61]⟩:ByteArray)).1)
 have HT2:=hide (HM2.out.top HT1.out)
 have HC2:=hide (fun W (hW:QsW W c e I.2.at_) (hb:I.2.bad<0)=>qwant hE (⟨#[61]⟩:ByteArray) (by decide +kernel) hW hb HT1.out)
 obtain⟨Q,hQ⟩:∃zz,e.want I.2 (⟨#[61]⟩:ByteArray)=zz:=⟨_,rfl⟩
 simp only[hQ]at HM2 HT2 HC2 ⊢
 have HM3:=hide ((mv_expr e f).1 1 Q)
 have HT3:=hide (HM3.out.top HT2.out)
 have HC3:=hide (fun W (hW:QsW W c e Q.at_) (hb:Q.bad<0)=>HEx W Q hW hb HT2.out)
 obtain⟨Y,hY⟩:∃zz,rE e f 1 Q=zz:=⟨_,rfl⟩
 simp only[hY]at HM3 HT3 HC3 ⊢
 have HM4:=hide ((mv_want e Y.2 (⟨#[59]⟩:ByteArray)).1)
 have HT4:=hide (HM4.out.top HT3.out)
 have HC4:=hide (fun W (hW:QsW W c e Y.2.at_) (hb:Y.2.bad<0)=>qwant hE (⟨#[59]⟩:ByteArray) (by decide +kernel) hW hb HT3.out)
 obtain⟨Z,hZ⟩:∃zz,e.want Y.2 (⟨#[59]⟩:ByteArray)=zz:=⟨_,rfl⟩
 simp only[hZ]at HM4 HT4 HC4 ⊢
 clear h hn HEx hI hQ hY hZ hE
 go_enter Tryz.func136,Tryz.ntmps136
 go_wp2_with fail
 refine (HC1.out w HQ.out hp).mono ?_
 rintro r w1 ⟨hg,⟨hb1,hq,v,rfl,hv,hvs⟩|⟨hb1,rfl⟩⟩
 rotate_left 1
 ·exact⟨rfl,RQ.fault hb1 ((HM2.out.trans HM3.out).trans HM4.out) (HG.out.tr hg)⟩
 have hz1:w.heap.size≤w1.heap.size:=hg.size
 obtain⟨va,vc,rfl⟩:=hv.slc
 replace hv:=hide (hv.mono (fun g hg _=>Nat.le_trans HG.out.size hg))
 replace HG:=hide (HG.out.tr hg)
 replace HQ:=hide hq
 clear hg hq HC1
 have hND:=NdA.name (w:=w) (k:=3) HG.out.size hv.out hvs
 have hA:Below w1.heap.size w1 ((w1.alloc (.cells #[.slice va I.1.size vc] 22)).alloc (.cells #[.int .i64 3,.int .i64 0,.slice none 0 0,.slice (some ⟨w1.heap.size,0,none⟩) 1 1,.slice none 0 0,.int .i64 0] 51)):=((Below.refl _ _).alloc (Nat.le_refl _) _).alloc (by simp) _
 clear hv
 go_wp2_with fail
 obtain⟨wn,hwn⟩:∃W,(w1.alloc (.cells #[.slice va I.1.size vc] 22)).alloc (.cells #[.int .i64 3,.int .i64 0,.slice none 0 0,.slice (some ⟨w1.heap.size,0,none⟩) 1 1,.slice none 0 0,.int .i64 0] 51)=W:=⟨_,rfl⟩
 obtain⟨O,hO⟩:∃O,w1.heap.size+1=O:=⟨_,rfl⟩
 rw[hwn]at hND hA ⊢
 rw[hO]at hND ⊢
 have HND:=hide hND
 replace HQ:=hide (HQ.out.below hA)
 replace HG:=hide (HG.out.blw hA)
 have hPO:c.P<O:=Nat.lt_of_lt_of_le hPl HND.out.lo
 clear hND hA hwn hO
 refine (HC2.out wn HQ.out hb1).mono ?_
 rintro r w2 ⟨hg,⟨hb2,hq,_,rfl,rfl⟩|⟨hb2,rfl⟩⟩
 rotate_left 1
 ·exact⟨rfl,RQ.fault hb2 (HM3.out.trans HM4.out) (HG.out.tr hg)⟩
 have hz2:wn.heap.size≤w2.heap.size:=hg.size
 replace HND:=hide (HND.out.rd hg hPl)
 replace HG:=hide (HG.out.tr hg)
 replace HQ:=hide hq
 clear hg hq HC2
 go_wp2_with fail
 refine (HC3.out w2 HQ.out hb2).mono ?_
 rintro r w3 ⟨hg,⟨hb3,hq,v,rfl,⟨⟨t3,a3,rfl⟩,hpm⟩⟩|⟨hb3,rfl⟩⟩
 rotate_left 1
 ·exact⟨rfl,RQ.fault hb3 HM4.out (HG.out.tr hg)⟩
 have hz3:w2.heap.size≤w3.heap.size:=hg.size
 have hlo3:O≤w2.heap.size:=Nat.le_of_lt HND.out.blk.lt
 replace HND:=hide (HND.out.rd hg hPl)
 have HP3:Hid (PmI O w3 w2.heap.size w3.heap.size Y.1 (.iface t3 a3)):=⟨hlo3,hpm.iv⟩
 clear hpm hlo3
 replace HG:=hide (HG.out.tr hg)
 replace HQ:=hide hq
 clear hg hq HC3
 go_wp2_with fail
 refine (HC4.out w3 HQ.out hb3).mono ?_
 rintro r w4 ⟨hg,⟨hb4,hq,_,rfl,rfl⟩|⟨hb4,rfl⟩⟩
 rotate_left 1
 ·exact⟨rfl,RQ.fault hb4 (Mv.refl e _) (HG.out.tr hg)⟩
 have hz4:w3.heap.size≤w4.heap.size:=hg.size
 replace HND:=hide (HND.out.rd hg hPl)
 replace HP3:=hide (HP3.out.rd hg hPO)
 replace HG:=hide (HG.out.tr hg)
 replace HQ:=hide hq
 clear hg hq HC4
 obtain⟨n0,n1,n2,n3,n4,n5⟩:=HND.out.cells
 unfold nm1 at n0 n1 n2 n3 n4 n5
 simp only at n0 n1 n2 n3 n4 n5
 have hA:Below w4.heap.size w4 (w4.alloc (.cells #[.iface t3 a3] 65)):=(Below.refl _ _).alloc (Nat.le_refl _) _
 have HMK:=hide (qmake_any pl (show (0:Int)≤3∧(3:Int)≤22 by decide) (Kids.of (HND.out.kept hA).ok ((Pts.one HP3.out.pm).kept hA) HP3.out.lo (Nat.le_trans HND.out.lo HP3.out.lo)) (ks:=[Y.1]) (us:=[.iface t3 a3]) rfl (RwG.of_blk (Blk.new w4 65 #[.iface t3 a3]) HG.out.size 1))
 replace HQ:=hide (HQ.out.below hA)
 replace HG:=hide (HG.out.blw hA)
 clear hA
 go_wp2_with fail
 refine HMK.out.mono ?_
 rintro r v2 ⟨⟨t',a',rfl,hpm⟩,hb⟩
 replace HG:=hide (HG.out.blw hb)
 replace HQ:=hide (HQ.out.below hb)
 have HPM:=hide hpm
 clear hpm hb HMK n0 n1 n2 n3 n4 n5 HND HP3
 go_wp2
 go_ret
 exact RQ.ok hb4 HG.out HQ.out ⟨⟨_,_,rfl⟩,HPM.out⟩
end Go.Proofs.YtbiakdjpeblclaaGreatDoor
