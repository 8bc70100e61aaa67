/-
  Rows of parts that grow.
-/
import Derived.Test.YtbiakdjpeblclaaGreatDoorJPaVB
namespace Go.Proofs.YtbiakdjpeblclaaGreatDoor
open Go.RowKit
theorem Gw.own_of {w w':World}{B e sz n:Nat}{v:Value}{xs:List Value}(_h:w.ownsRow B e sz v n xs)(hg:w.grownBy w' v.ownBlock):Gw (fun k=>v.ownBlock=some k) w w':=Gw.of_grown hg (fun _ hk _=>hk)
theorem KO.app {w w':World}{B:Nat}{G:Nat→Prop}{v v':Value}{ks ks':List Pt}{M M':List (Value × Value)}(h:Ms w (fun g=>G g∧v.ownBlock≠some g) M ks)(h':Ms w (fun g=>G g∧v.ownBlock≠some g) M' ks')(ho:w.ownsRow B 45 2 v ks.length (pcs M))
 (hown:w'.ownsRow B 45 2 v' (ks.length+ks'.length) (pcs M++pcs M')) (hg:w.grownBy w' v.ownBlock) (hat:v'.ownBlock=v.ownBlock∨v'.ownBlock=some w.heap.size):KO w' B G v' (ks++ks'):=by
 have hgw:=Gw.own_of ho hg
 have h1:=(h.app h').mono (G':=fun g=>(G g∧v.ownBlock≠some g)∧v'.ownBlock≠some g) (fun g hg hl=>⟨hg,by
  rcases hat with e|e
  ·rw[e];exact hg.2
  ·rw[e];intro q;injection q with q;omega⟩)
 refine⟨M++M',by rw[List.length_append,pcs_app];exact hown,?_⟩
 have h2:=h1.gw hgw (fun k hk q=>q.1.2 hk)
 exact h2.mono (fun g hg _=>⟨hg.1.1,hg.2⟩)
theorem wp_appKO {ops:Array Oper}{rest:List Oper}{o:Oper}{a:Act}{Q:Exit→Act→World→Prop}{w:World}(hgd:o.guard=none)(s x:Operand)
 (ho:o.op = .call { callee:=.builtin .append,args:=#[s,x],argTypes:=#[41,41] }) (B:Nat) {G:Nat→Prop} {v:Value} {ks ks':List Pt} {M':List (Value × Value)} (hs:a.eval s=v) (h:KO w B G v ks)
 (g c m:Nat) (hm:m=ks'.length) (hx:a.eval x = .slice (some ⟨g,0,none⟩) m c) (hM:Ms w (fun g=>G g∧v.ownBlock≠some g) M' ks') (hc:Cs w g (pcs M')) (hlen:ks.length+ks'.length≤1000000) (hbase:B≤w.heap.size)
 (hk:∀v' w',KO w' B G v' (ks++ks')→w.grownBy w' v.ownBlock→wpList Tryz.prog ops Q rest (a.put o.dst v') w'):wpList Tryz.prog ops Q (o::rest) a w:=by
 obtain⟨M,h1,h2⟩:=h
 refine wp_appGPt hgd s x ho B v ks.length (pcs M) hs h1 g 0 c m (pcs M') hx (by rw[pcs_len,hM.1,hm]) (fun j u hj=>by rw[Nat.zero_add];exact hc j u hj) hM.ones (by omega) hbase (fun v' w' h3 h4 h5=>hk v' w' (KO.app h2 hM h1 (by rw[← hm];exact h3) h4 h5) h4)
theorem step_appKO {ops:Array Oper}{o:Oper}{a:Act}{w:World}{K:Act→World→Prop}{Q:Exit→Act→World→Prop}{E:Prop}(hgd:o.guard=none)(s x:Operand)
 (ho:o.op = .call { callee:=.builtin .append,args:=#[s,x],argTypes:=#[41,41] }) (B:Nat) {G:Nat→Prop} {v:Value} {ks ks':List Pt} {M':List (Value × Value)} (hs:a.eval s=v) (h:KO w B G v ks)
 (g c m:Nat) (hm:m=ks'.length) (hx:a.eval x = .slice (some ⟨g,0,none⟩) m c) (hM:Ms w (fun g=>G g∧v.ownBlock≠some g) M' ks') (hc:Cs w g (pcs M')) (hlen:ks.length+ks'.length≤1000000) (hbase:B≤w.heap.size)
 (hk:∀v' w',KO w' B G v' (ks++ks')→w.grownBy w' v.ownBlock→K (a.put o.dst v') w'):
 if Region.wanted o (yielded ops a.tmps)=true then Oper.wp Tryz.prog o a w K Q else E:=by
 obtain⟨M,h1,h2⟩:=h
 refine step_appGPt hgd s x ho B v ks.length (pcs M) hs h1 g 0 c m (pcs M') hx (by rw[pcs_len,hM.1,hm]) (fun j u hj=>by rw[Nat.zero_add];exact hc j u hj) hM.ones (by omega) hbase (fun v' w' h3 h4 h5=>hk v' w' (KO.app h2 hM h1 (by rw[← hm];exact h3) h4 h5) h4)
structure CSt (w V:World)(c:PsC)(e:PsE)(p:Ps):Prop where
 ps:PsW V c e p
 gw:Gw (· = c.P) w V
 lt:c.P<w.heap.size
theorem CSt.rd {w V V':World}{c:PsC}{e:PsE}{p p':Ps}(h:CSt w V c e p)(hq:RdQ c e p' V V'):CSt w V' c e p':=⟨hq.1,h.gw.trans hq.2 (fun _ _ q=>q),h.lt⟩
theorem CSt.below {w V V':World}{c:PsC}{e:PsE}{p:Ps}(h:CSt w V c e p)(hb:Below V.heap.size V V'):CSt w V' c e p:=⟨h.ps.below hb,h.gw.trans (Gw.of_below (P:=fun _=>False) hb) (fun _ _ q=>q.elim),h.lt⟩
theorem CSt.start {w:World}{c:PsC}{e:PsE}{p:Ps}(h:PsW w c e p):CSt w w c e p:=⟨h,Gw.refl _ _,h.blk.lt⟩
theorem CSt.size {w V:World}{c:PsC}{e:PsE}{p:Ps}(h:CSt w V c e p):w.heap.size≤V.heap.size:=h.gw.size
theorem CSt.app {w V V':World}{c:PsC}{e:PsE}{p:Ps}{B e' sz n:Nat}{v:Value}{xs:List Value}(h:CSt w V c e p)(ho:V.ownsRow B e' sz v n xs)(hB:w.heap.size≤B)(hg:V.grownBy V' v.ownBlock):CSt w V' c e p:=by
 have g1:=Gw.own_of ho hg
 have hp:=h.lt
 have hb:=h.ps
 have key:∀k,k≤c.P→¬v.ownBlock=some k:=fun k hk q=>by have:=(ho.lt k q).1;omega
 refine⟨⟨g1.blk hb.blk (key _ (Nat.le_refl _)),hb.sa,fun j hj=>g1.cell (hb.src j hj) (key _ (Nat.le_of_lt (hb.sa (by omega)).2)),hb.cap,hb.ta,fun i hi=>?_,hb.tin,hb.tl,hb.szl,hb.at_,hb.bad⟩,h.gw.trans g1 (fun j hj q=>by have:=(ho.lt j q).1;omega),hp⟩
 have n:=key c.tb (Nat.le_of_lt (hb.ta (by omega)).2)
 exact⟨g1.cell (hb.tok i hi).1 n,g1.cell (hb.tok i hi).2.1 n,g1.cell (hb.tok i hi).2.2 n⟩
def CeQ (c:PsC)(e:PsE)(w:World)(x:List Pt × Ps)(r:Ending)(w':World):Prop:=
 ∃v,r = .returned v∧KO w' w.heap.size (fun g=>w.heap.size≤g) v x.1∧RdQ c e x.2 w w'
theorem KO.rd {w V V':World}{c:PsC}{e:PsE}{p':Ps}{B:Nat}{v:Value}{ks:List Pt}(h:KO V B (fun g=>w.heap.size≤g) v ks)(hB:w.heap.size≤B)(hc:c.P<w.heap.size)(hq:RdQ c e p' V V'):KO V' B (fun g=>w.heap.size≤g) v ks:=
 h.gw hq.2 (fun k hk=>by rw[hk];omega) (fun g hg=>by omega)
theorem KO.bel {V V':World}{B:Nat}{G:Nat→Prop}{v:Value}{ks:List Pt}(h:KO V B G v ks)(hb:Below V.heap.size V V'):KO V' B G v ks:=by
 obtain⟨M,h1,h2⟩:=h
 exact⟨M,(Gw.of_below (P:=fun _=>False) hb).own h1 (fun _ _ q=>q),h2.gw (P:=fun _=>False) (Gw.of_below hb) (fun _ q=>q.elim)⟩
theorem ko_two {w:World}{B g:Nat}{G:Nat→Prop}{vt vp ut up:Value}{x y:Pt}(hb:Blk w g 45 #[vt,vp,ut,up])(hg:B≤g)(h:PV w (fun k=>G k∧k≠g) vt vp x)(k:PV w (fun k=>G k∧k≠g) ut up y):KO w B G (.slice (some ⟨g,0,none⟩) 2 2) [x,y]:=
 ⟨[(vt,vp),(ut,up)],own_lit (n:=2) (sz:=2) hb hg rfl (by omega),((Ms.one h).app (Ms.one k)).mono (fun j hj _=>⟨hj.1,fun q=>by simp only[Value.ownBlock,Option.some.injEq]at q;exact hj.2 q.symm⟩)⟩
theorem expr_all (c:PsC)(e:PsE):∀f g,g≤f→UnC c e g∧ExC c e g
 |0,g,hg=>by
  obtain rfl:g=0:=by omega
  exact⟨fun w p _ h=>by omega,fun l w p _ _ h=>by omega⟩
 |f+1,g,hg=>by
  by_cases q:g≤f
  ·exact expr_all c e f g q
  ·obtain rfl:g=f+1:=by omega
   exact⟨unary_any (expr_all c e f f (Nat.le_refl _)).1 (expr_all c e f f (Nat.le_refl _)).2,expr_step (expr_all c e f f (Nat.le_refl _)).1 (fun g hg=>(expr_all c e f g hg).2)⟩
theorem ex_any {w:World}{c:PsC}{e:PsE}{p:Ps}(h:PsW w c e p){f:Nat}(hf:2*e.T.length+3≤f):Calls Tryz.prog 40 #[.pointer (some ⟨c.P,0,none⟩),.int .i64 1] w (ExQ c e w (rE e f 1 p)):=
 (expr_all c e f f (Nat.le_refl _)).2 1 w p (by omega) h (by unfold lft;omega)
set_option maxHeartbeats 4000000 in
set_option maxRecDepth 1000000 in
theorem cell_any {w:World}{c:PsC}{e:PsE}{p:Ps}(h:PsW w c e p){f:Nat}(hf:2*e.T.length+3≤f):Calls Tryz.prog 41 #[.pointer (some ⟨c.P,0,none⟩)] w (CeQ c e w (rCell e f p)):=by
 have HS0:=hide (CSt.start h)
 have HC:=hide (ex_any h hf)
 have HE:Hid (rCell e f p=([(rE e f 1 p).1,(rE e f 1 (e.want (rE e f 1 p).2 (⟨#[44]⟩:ByteArray))).1],(rE e f 1 (e.want (rE e f 1 p).2 (⟨#[44]⟩:ByteArray))).2)):=rfl
 obtain⟨X,hX⟩:∃X,rE e f 1 p=X:=⟨_,rfl⟩
 rw[hX]at HC HE
 clear hX h
 go_enter Tryz.func41,Tryz.ntmps41
 go_wp2_with fail
 refine HC.out.mono ?_
 rintro r V1 ⟨vt,vp,rfl,hv,hq⟩
 have hS1:=HS0.out.rd hq
 obtain⟨xa,xc,xb,xd,rfl,rfl,_,_⟩:=hv.slc
 obtain⟨V2,hV2⟩:∃W,V1.alloc (.cells #[.slice none 0 0,.slice none 0 0] 45)=W:=⟨_,rfl⟩
 have hbA:Below V1.heap.size V1 V2:=by rw[← hV2];exact (Below.refl _ _).alloc (Nat.le_refl _) _
 have hBK:Blk V2 V1.heap.size 45 #[.slice none 0 0,.slice none 0 0]:=by rw[← hV2];exact Blk.new _ _ _
 have q0:=hBK.cell 0
 have q1:=hBK.cell 1
 have qf0:=hBK.frozen 0
 have qf1:=hBK.frozen 1
 simp only[List.getElem?_toArray,List.getElem?_cons_succ,List.getElem?_cons_zero]at q0 q1
 obtain⟨V3,hV3⟩:∃W,(V2.setCell ⟨V1.heap.size,0,none⟩ (.slice (some ⟨xa,0,none⟩) X.1.t.length xc)).setCell ⟨V1.heap.size,1,none⟩ (.slice (some ⟨xb,0,none⟩) X.1.t.length xd)=W:=⟨_,rfl⟩
 have hbB:Below V1.heap.size V1 V3:=by rw[← hV3];exact (hbA.setCell (Nat.le_refl _) _).setCell (Nat.le_refl _) _
 have HBX:Hid (Blk V3 V1.heap.size 45 #[.slice (some ⟨xa,0,none⟩) X.1.t.length xc,.slice (some ⟨xb,0,none⟩) X.1.t.length xd]):=by rw[← hV3];exact (hBK.set 0 _).set 1 _
 have HS3:=hide (hS1.below hbB)
 have HV3:=hide (hv.gw (P:=fun _=>False) (Gw.of_below hbB) (fun _ q=>q.elim))
 have HXL:Hid (w.heap.size≤V1.heap.size):=hS1.size
 clear hv hq hS1 hbA hBK hbB HC HS0
 go_wp2_with fail
 refine (l2want_any (⟨#[44]⟩:ByteArray) HS3.out.ps).mono ?_
 rintro r V4 ⟨rfl,hq⟩
 have HS4:=hide (HS3.out.rd hq)
 have hlt:=HS3.out.lt
 have hxl:=HXL.out
 have HB4:=hide (hq.2.blk HBX.out (by show ¬V1.heap.size=c.P;omega))
 have HV4:=hide (HV3.out.gw hq.2 (fun k hk=>by rw[hk];omega))
 obtain⟨XB,hXB⟩:∃X,V1.heap.size=X:=⟨_,rfl⟩
 rw[hXB]at HB4 hxl ⊢
 clear hq HS3 HBX HV3 HXL hXB q0 q1 qf0 qf1 hV2 hV3
 obtain⟨P2,hP2⟩:∃q,e.want X.2 (⟨#[44]⟩:ByteArray)=q:=⟨_,rfl⟩
 rw[hP2]at HS4 HE
 obtain⟨Y,hY⟩:∃Y,rE e f 1 P2=Y:=⟨_,rfl⟩
 rw[hY]at HE
 have HC:=hide (fun W (hW:PsW W c e P2)=>ex_any hW hf)
 rw[hY]at HC
 clear hP2 hY
 go_wp2_with fail
 refine wp_region_held_drew (S:=fun W=>Hid (Blk W XB 45 #[.slice (some ⟨xa,0,none⟩) X.1.t.length xc,.slice (some ⟨xb,0,none⟩) X.1.t.length xd])) (by kernel_rfl) (HB4.out.below (Below.refl _ _).drew) (fun hHeld=>?_)
 refine wpAnyH_take (i:=0) (v:=?_) rfl (by kernel_rfl) (by kernel_rfl) (by kernel_rfl) (fun _ _ _ h=>h) (Or.inl ⟨by rfl,?_⟩) hHeld ?_
 rotate_left 1
 ·intro Wx hSW;simp only[List.getElem_toArray,List.getElem_cons_zero];have u0:=hSW.out.cell 0;have u1:=hSW.out.cell 1;simp only[List.getElem?_toArray,List.getElem?_cons_succ,List.getElem?_cons_zero]at u0 u1;go_simp;try with_reducible rfl
 try simp only[Act.put,List.getElem_toArray,List.getElem_cons_zero,List.setIfInBounds_toArray,List.set_cons_zero,List.set_cons_succ]
 refine wpAnyH_take (i:=1) (v:=?_) rfl (by kernel_rfl) (by kernel_rfl) (by kernel_rfl) (fun _ _ _ h=>h) (Or.inl ⟨by rfl,?_⟩) hHeld ?_
 rotate_left 1
 ·intro Wx hSW;simp only[List.getElem_toArray,List.getElem_cons_zero,List.getElem_cons_succ];go_simp;try with_reducible rfl
 try simp only[Act.put,List.getElem_toArray,List.getElem_cons_zero,List.getElem_cons_succ,List.setIfInBounds_toArray,List.set_cons_zero,List.set_cons_succ]
 refine wpAnyH_ready (rs:=[2]) (by kernel_rfl) (by simp) ?_
 refine AllReadyH.cons rfl (fun K hK=>?_) AllReadyH.nil
 go_simp
 go_at_call 40
 refine (HC.out _ (HS4.out.below (Below.refl _ _).drew).ps).mono ?_
 rintro r V5 ⟨ut,up,rfl,hv,hq⟩
 have HS5:=hide ((HS4.out.below (Below.refl _ _).drew).rd hq)
 have HB5:=hide (hq.2.blk (HB4.out.below (Below.refl _ _).drew) (by show ¬XB=c.P;omega))
 have HV5:=hide ((HV4.out.gw (P:=fun _=>False) (Gw.of_below (Below.refl _ _).drew) (fun _ q=>q.elim)).gw hq.2 (fun k hk=>by rw[hk];omega))
 have HU5:=hide (hv.mono (G':=fun g=>w.heap.size≤g) (fun g hg _=>Nat.le_trans HS4.out.size hg))
 obtain⟨ua,uc,ub,ud,rfl,rfl,_,_⟩:=hv.slc
 clear hv hq
 go_wp2_with fail
 refine hK.out _ _ (HB5.out) (fun hHeld=>?_)
 clear hK K
 try simp only[Act.put,List.getElem_toArray,List.getElem_cons_zero,List.getElem_cons_succ,List.setIfInBounds_toArray,List.set_cons_zero,List.set_cons_succ]
 refine wpAnyH_ready (rs:=[3]) (by kernel_rfl) (by simp) ?_
 refine AllReadyH.cons rfl (fun K hK=>?_) AllReadyH.nil
 go_simp
 refine hK.out _ _ ((HB5.out.alloc _)) (fun hHeld=>?_)
 clear hK K
 try simp only[Act.put,List.getElem_toArray,List.getElem_cons_zero,List.getElem_cons_succ,List.setIfInBounds_toArray,List.set_cons_zero,List.set_cons_succ]
 refine wpAnyH_take (i:=4) (v:=?_) rfl (by kernel_rfl) (by kernel_rfl) (by kernel_rfl) (fun _ _ _ h=>h) (Or.inl ⟨by rfl,?_⟩) hHeld ?_
 rotate_left 1
 ·intro Wx hSW;simp only[List.getElem_toArray,List.getElem_cons_zero,List.getElem_cons_succ];go_simp;try with_reducible rfl
 try simp only[Act.put,List.getElem_toArray,List.getElem_cons_zero,List.getElem_cons_succ,List.setIfInBounds_toArray,List.set_cons_zero,List.set_cons_succ]
 refine wpAnyH_done (by kernel_rfl) ?_ _
 have hbC:Below V5.heap.size V5 (V5.alloc (.cells #[.slice (some ⟨xa,0,none⟩) X.1.t.length xc,.slice (some ⟨xb,0,none⟩) X.1.t.length xd,.slice (some ⟨ua,0,none⟩) Y.1.t.length uc,.slice (some ⟨ub,0,none⟩) Y.1.t.length ud] 45)):=(Below.refl _ _).alloc (Nat.le_refl _) _
 have HF:=hide (HS5.out.below hbC)
 have HK:Hid (KO (V5.alloc (.cells #[.slice (some ⟨xa,0,none⟩) X.1.t.length xc,.slice (some ⟨xb,0,none⟩) X.1.t.length xd,.slice (some ⟨ua,0,none⟩) Y.1.t.length uc,.slice (some ⟨ub,0,none⟩) Y.1.t.length ud] 45)) w.heap.size (fun g=>w.heap.size≤g) (.slice (some ⟨V5.heap.size,0,none⟩) 2 2) [X.1,Y.1]):=by
  refine ko_two (Blk.new _ _ _) HS5.out.size ?_ ?_
  ·exact (HV5.out.mono (G':=fun k=>w.heap.size≤k∧k≠V5.heap.size) (fun g hg hl=>⟨hg,Nat.ne_of_lt hl⟩)).gw (P:=fun _=>False) (Gw.of_below hbC) (fun _ q=>q.elim)
  ·exact (HU5.out.mono (G':=fun k=>w.heap.size≤k∧k≠V5.heap.size) (fun g hg hl=>⟨hg,Nat.ne_of_lt hl⟩)).gw (P:=fun _=>False) (Gw.of_below hbC) (fun _ q=>q.elim)
 go_wp2
 go_ret
 rw[HE.out]
 exact⟨_,rfl,HK.out,HF.out.ps,HF.out.gw⟩
set_option maxHeartbeats 4000000 in
set_option maxRecDepth 1000000 in
theorem area_any {w:World}{c:PsC}{e:PsE}{p:Ps}(h:PsW w c e p){f:Nat}(hf:2*e.T.length+3≤f):Calls Tryz.prog 42 #[.pointer (some ⟨c.P,0,none⟩)] w (CeQ c e w (rArea e f p)):=by
 have HS0:=hide (CSt.start h)
 have HC:=hide (cell_any h hf)
 have HC2:=hide (fun W p (hW:PsW W c e p)=>cell_any hW hf)
 have hl2:∀q,(rCell e f q).1.length=2:=fun q=>rfl
 have HL2:=hide hl2
 have HE:Hid (rArea e f p=if e.is (rCell e f p).2 (⟨#[116,111]⟩:ByteArray) then ((rCell e f p).1++(rCell e f (rCell e f p).2.on).1,(rCell e f (rCell e f p).2.on).2) else rCell e f p):=rfl
 have hx2:=hl2 p
 obtain⟨X,hX⟩:∃X,rCell e f p=X:=⟨_,rfl⟩
 rw[hX]at HC HE hx2
 have HX2:=hide hx2
 clear hX h hl2 hx2
 go_enter Tryz.func42,Tryz.ntmps42
 go_wp2_with fail
 refine HC.out.mono ?_
 rintro r V1 ⟨v,rfl,hk,hq⟩
 have HS1:=hide (HS0.out.rd hq)
 obtain⟨ka,kc,rfl⟩:=hk.slc
 have HK1:=hide hk
 clear hk hq HS0 HC
 go_wp2_with fail
 refine (l2got_any (⟨#[116,111]⟩:ByteArray) HS1.out.ps).mono ?_
 rintro r V2 ⟨rfl,hq⟩
 have hlt:=HS1.out.lt
 cases hi:e.is X.2 (⟨#[116,111]⟩:ByteArray) with
 |false=>
  rw[hi,if_neg Bool.false_ne_true]at hq
  have HS2:=hide (HS1.out.rd hq)
  have HK2:=hide (HK1.out.rd (Nat.le_refl _) hlt hq)
  rw[hi,if_neg Bool.false_ne_true]at HE
  clear hq HS1 HK1
  go_wp2
  go_ret
  rw[HE.out]
  exact⟨_,rfl,HK2.out,HS2.out.ps,HS2.out.gw⟩
 |true=>
  rw[hi,if_pos rfl]at hq
  have HS2:=hide (HS1.out.rd hq)
  have HK2:=hide (HK1.out.rd (Nat.le_refl _) hlt hq)
  rw[hi,if_pos rfl]at HE
  have HCY:=hide (HC2.out V2 X.2.on HS2.out.ps)
  have hy2:=HL2.out X.2.on
  obtain⟨Y,hY⟩:∃Y,rCell e f X.2.on=Y:=⟨_,rfl⟩
  rw[hY]at HE HCY hy2
  have HY2:=hide hy2
  clear hq HS1 HK1 hY hy2
  go_wp2_with fail
  refine HCY.out.mono ?_
  rintro r V3 ⟨v2,rfl,hk,hq⟩
  have HS3:=hide (HS2.out.rd hq)
  have HK3:=hide (HK2.out.rd (Nat.le_refl _) hlt hq)
  obtain⟨M2,ho2,hm2⟩:=hk
  have hs2:=HS2.out.size
  have hkl:∀k,(Value.slice ka X.1.length kc).ownBlock=some k→k<V2.heap.size:=fun k hk=>by
   obtain⟨M1,ho1,_⟩:=HK2.out
   exact (ho1.lt k hk).2
  have HM2:=hide (hm2.mono (G':=fun g=>w.heap.size≤g∧(Value.slice ka X.1.length kc).ownBlock≠some g) (fun g hg _=>⟨Nat.le_trans hs2 hg.1,fun q=>by have:=hkl g q;have:=hg.1;omega⟩))
  obtain⟨a3,g3,c3,e3,h3a,h3c⟩:=RwG.of_own (G:=fun _=>True) ho2 (fun _ _=>trivial)
  obtain⟨h3a,_⟩:=h3a (by rw[HY2.out];omega)
  subst h3a
  subst e3
  have HC3:=hide (h3c (by rw[HY2.out];omega))
  clear hq hm2 ho2 h3c HK2 hkl
  go_wp2_with (at_builtin;refine wp_appKO rfl (.tmp 8) (.tmp 10) rfl w.heap.size rfl HK3.out g3 c3 Y.1.length rfl rfl HM2.out HC3.out (by rw[HX2.out,HY2.out];omega) HS3.out.size ?_)
  intro v' V4 hk4 hg4
  have HS4:Hid (CSt w V4 c e Y.2):=by
   obtain⟨M1,ho1,_⟩:=HK3.out
   exact HS3.out.app ho1 (Nat.le_refl _) hg4
  have HK4:=hide hk4
  obtain⟨va,vc,rfl⟩:=hk4.slc
  clear hk4 hg4 HS3 HK3 HM2 HC3
  go_wp2
  go_ret
  rw[HE.out]
  exact⟨_,rfl,HK4.out,HS4.out.ps,HS4.out.gw⟩
theorem way_nth {e:PsE}{p:Ps}:∀k,k≤4→(∀j,j<k→e.is p (wyN.getD j ⟨#[]⟩)=false)→(k=4→rWay e p=(0,e.wrong p))∧(k<4→e.is p (wyN.getD k ⟨#[]⟩)=true→rWay e p=(k,p.on)):=by
 intro k hk hj
 have key:∀j,j<k→¬e.is p (wyN.getD j ⟨#[]⟩)=true:=fun j h=>by rw[hj j h];exact Bool.false_ne_true
 have hh:k=0∨k=1∨k=2∨k=3∨k=4:=by omega
 unfold rWay
 rcases hh with rfl|rfl|rfl|rfl|rfl
 ·exact⟨fun h=>by omega,fun _ h=>by rw[if_pos h]⟩
 ·exact⟨fun h=>by omega,fun _ h=>by rw[if_neg (key 0 (by omega)),if_pos h]⟩
 ·exact⟨fun h=>by omega,fun _ h=>by rw[if_neg (key 0 (by omega)),if_neg (key 1 (by omega)),if_pos h]⟩
 ·exact⟨fun h=>by omega,fun _ h=>by rw[if_neg (key 0 (by omega)),if_neg (key 1 (by omega)),if_neg (key 2 (by omega)),if_pos h]⟩
 ·exact⟨fun _=>by rw[if_neg (key 0 (by omega)),if_neg (key 1 (by omega)),if_neg (key 2 (by omega)),if_neg (key 3 (by omega))],fun h=>by omega⟩
set_option maxHeartbeats 4000000 in
set_option maxRecDepth 1000000 in
theorem way_any {w:World}{c:PsC}{e:PsE}{p:Ps}(h:PsW w c e p):Calls Tryz.prog 43 #[.pointer (some ⟨c.P,0,none⟩)] w fun r w'=>r = .returned (.int .i64 ((rWay e p).1:Nat))∧RdQ c e (rWay e p).2 w w':=by
 have HS0:=hide (CSt.start h)
 clear h
 go_enter Tryz.func43,Tryz.ntmps43
 go_wp2_with fail
 go_loopw [3] (fun ix wr=>∃k:Nat,k≤4∧ix = .int .i64 k∧(∀j,j<k→e.is p (wyN.getD j ⟨#[]⟩)=false)∧CSt w wr c e p) (fun ix _=>4 - (intOf ix).toNat)
 case atStart=>exact⟨0,by omega,rfl,fun j hj=>by omega,HS0.out⟩
 case round=>
  obtain⟨k,hk,rfl,hj,hS⟩:=hrel
  have HS:=hide hS
  have HJ:=hide hj
  clear hS hj HS0
  by_cases hlt:k<4
  ·have hlti:(k:Int)<4:=by omega
   have HWY:=hide (fun W=>l2way_any k hlt W)
   have HNT:=hide (way_nth k hk HJ.out)
   have HSN:Hid (∀b:Bool,e.is p (wyN.getD k ⟨#[]⟩)=b→b=false→∀j,j<k+1→e.is p (wyN.getD j ⟨#[]⟩)=false):=fun b hb hf j hj=>by
    by_cases q:j=k
    ·rw[q,hb,hf]
    ·exact HJ.out j (by omega)
   obtain⟨S,hS⟩:∃S,wyN.getD k ⟨#[]⟩=S:=⟨_,rfl⟩
   rw[hS]at HNT HSN
   simp only[hS]at HWY
   clear hS
   go_wp2_with fail
   refine (HWY.out _).mono ?_
   rintro r V1 ⟨rfl,hb⟩
   have HS1:=hide (HS.out.below hb)
   clear hb HS
   go_wp2_with fail
   refine (l2got_any S HS1.out.ps).mono ?_
   rintro r V2 ⟨rfl,hq⟩
   have HS2:=hide (HS1.out.rd hq)
   clear hq HS1
   cases hi:e.is p S with
   |true=>
    rw[hi,if_pos rfl]at HS2
    have HE:=hide (HNT.out.2 hlt hi)
    go_wp2
    go_ret
    rw[HE.out]
    exact⟨rfl,HS2.out.ps,HS2.out.gw⟩
   |false=>
    rw[hi,if_neg Bool.false_ne_true]at HS2
    have HN:=hide (HSN.out _ hi rfl)
    go_wp2
    go_roundw
    case rel=>exact⟨k+1,by omega,by go_num,HN.out,HS2.out⟩
    case measure=>simp[intOf];omega
  ·obtain rfl:k=4:=by omega
   have HE:=hide ((way_nth 4 (by omega) HJ.out).1 rfl)
   go_wp2_with fail
   refine (l2wrong_any HS.out.ps).mono ?_
   rintro r V1 ⟨rfl,hq⟩
   have HS1:=hide (HS.out.rd hq)
   clear hq HS
   go_wp2
   go_ret
   rw[HE.out]
   exact⟨rfl,HS1.out.ps,HS1.out.gw⟩
def badW (c:PsC)(w:World):Int:=match w.cell? ⟨c.P,3,none⟩ with|some v=>intOf v|none=>0
def muW (e:PsE)(c:PsC)(w:World):Nat:=(e.T.length - atW c w)+(if badW c w<0 then 1 else 0)
def mu (e:PsE)(p:Ps):Nat:=lft e p+(if p.bad<0 then 1 else 0)
theorem muW_of {w:World}{c:PsC}{e:PsE}{p:Ps}(h:PsW w c e p):muW e c w=mu e p:=by
 have h1:badW c w=p.bad:=by unfold badW;rw[h.cells.2.2.2.1];simp[intOf]
 unfold muW mu lft
 rw[atW_of h,h1]
theorem mu_dec {e:PsE}{p q:Ps}(hb:p.bad<0)(ht:p.at_≤e.T.length)(m:Mv e p q)(g:Pg p q):mu e q<mu e p:=by
 have h1:=m.le
 have h2:=m.top ht
 unfold mu lft
 rw[if_pos hb]
 rcases g with g|g
 ·rw[if_neg (by omega)];omega
 ·split<;>omega
theorem RSt.app {w V V':World}{c:PsC}{e:PsE}{p:Ps}{B e' sz n:Nat}{v:Value}{xs:List Value}(h:RSt w V c e p)(ho:V.ownsRow B e' sz v n xs)(hB:w.heap.size<B)(hg:V.grownBy V' v.ownBlock):RSt w V' c e p:=by
 have h1:=CSt.app ⟨h.ps,h.gw,h.lt⟩ ho (Nat.le_of_lt hB) hg
 exact⟨h1.ps,h1.gw,(Gw.own_of ho hg).blk h.res (fun q=>by have:=(ho.lt _ q).1;omega),h.lt⟩
theorem KO.rdR {w V V':World}{c:PsC}{e:PsE}{p':Ps}{B:Nat}{v:Value}{ks:List Pt}(h:KO V B (fun g=>w.heap.size<g) v ks)(hB:w.heap.size<B)(hc:c.P<w.heap.size)(hq:RdQ c e p' V V'):KO V' B (fun g=>w.heap.size<g) v ks:=
 h.gw hq.2 (fun k hk=>by rw[hk];omega) (fun g hg=>by omega)
theorem ms_last {w V V1:World}{B:Nat}{v:Value}{ks:List Pt}{vt vp:Value}{x:Pt}(hk:KO V B (fun g=>w.heap.size<g) v ks)(hs:w.heap.size<V.heap.size)(hv:PV V1 (fun g=>V.heap.size≤g) vt vp x)(o:Obj):Ms (V1.alloc o) (fun g=>w.heap.size<g∧v.ownBlock≠some g) [(vt,vp)] [x]:=by
 obtain⟨M,h1,_⟩:=hk
 exact (Ms.one (hv.mono (G':=fun g=>w.heap.size<g∧v.ownBlock≠some g) (fun g hg _=>⟨Nat.lt_of_lt_of_le hs hg,fun q=>by have:=(h1.lt g q).2;omega⟩))).gw (P:=fun _=>False) (Gw.of_below ((Below.refl _ _).alloc (Nat.le_refl _) _)) (fun _ q=>q.elim)
def StC (c:PsC)(e:PsE)(f m:Nat):Prop:=∀w p,PsW w c e p→lft e p+1≤m→Calls Tryz.prog 19 #[.pointer (some ⟨c.P,0,none⟩)] w (ExQ c e w (rS e f m p))
def BlC (c:PsC)(e:PsE)(f m:Nat):Prop:=∀w p,PsW w c e p→lft e p≤m→Calls Tryz.prog 38 #[.pointer (some ⟨c.P,0,none⟩)] w (ExQ c e w (rBlock e e.T.length (rS e f m) p))
set_option maxHeartbeats 8000000 in
set_option maxRecDepth 1000000 in
theorem blk_all {c:PsC}{e:PsE}{f m:Nat}(ST:StC c e f m):BlC c e f m:=fun w p h hm=>by
 have HS0:=hide (RSt.start h)
 have htl:=h.tl
 have hpl:=PsE.place_le h
 have HPL:=hide (l2place_any (RSt.start h).ps)
 have HST:=hide ST
 have hpg:=(mv_want e p (⟨#[123]⟩:ByteArray))
 have hML:=hpg.1.le
 have hMT:=hpg.1.top h.at_
 have HPG:=hide hpg.2
 have hfl:=fi_le (e:=e) (e.want p (⟨#[123]⟩:ByteArray))
 have HE:Hid (rBlock e e.T.length (rS e f m) p=(ptN (ndK 2) (e.place p) (rMany e (rS e f m) e.T.length [] (e.want p (⟨#[123]⟩:ByteArray))).1,e.want (rMany e (rS e f m) e.T.length [] (e.want p (⟨#[123]⟩:ByteArray))).2 (⟨#[125]⟩:ByteArray))):=rfl
 have HMV:=hide (mv_stat e f m)
 have HBD:=hide (bd_stat e f m)
 have hBM:=(bd_many e (bd_stat e f m) e.T.length [] (e.want p (⟨#[123]⟩:ByteArray)) (fun x hx=>absurd hx (by simp)))
 rw[nsl_nil]at hBM
 have HBM:Hid (nsl (rMany e (rS e f m) e.T.length [] (e.want p (⟨#[123]⟩:ByteArray))).1≤20010):=by have:=hBM.1;show _≤_;omega
 obtain⟨W0,hW0⟩:∃W,w.alloc (.cells #[.slice none 0 0,.slice none 0 0] 45)=W:=⟨_,rfl⟩
 rw[hW0]at HS0 HPL
 obtain⟨pl,hplE⟩:∃q,e.place p=q:=⟨_,rfl⟩
 rw[hplE]at hpl HPL HE
 obtain⟨F,hF⟩:∃F,rMany e (rS e f m) e.T.length [] (e.want p (⟨#[123]⟩:ByteArray))=F:=⟨_,rfl⟩
 rw[hF]at HE HBM
 obtain⟨P1,hP1⟩:∃q,e.want p (⟨#[123]⟩:ByteArray)=q:=⟨_,rfl⟩
 rw[hP1]at hF hML hMT HPG hfl
 have HF:=hide hF
 have HN:Hid (P1.bad<0→lft e P1+1≤e.T.length∧lft e P1+1≤m):=fun hb=>by
  rcases HPG.out with q|q
  ·omega
  ·unfold lft at hm ⊢;omega
 rw[HE.out]
 clear h ST hplE hF hpg hBM hm hML hMT HPG
 go_enter Tryz.func38,Tryz.ntmps38
 go_wp2_with fail
 refine HPL.out.mono ?_
 rintro r V ⟨rfl,m0,rfl⟩
 have HS1:=hide (HS0.out.below (below_drewN (Below.refl _ _) m0))
 clear HPL hW0 HS0
 go_wp2_with fail
 refine (l2want_any (⟨#[123]⟩:ByteArray) HS1.out.ps).mono ?_
 rintro r V ⟨rfl,hq⟩
 have HS2:=hide (HS1.out.rd hq)
 rw[hP1]at HS2
 clear hq HS1 hP1
 go_wp2_with fail
 go_loopw [4] (fun vx wr=>∃(cc:Nat) (ks:List Pt) (p:Ps),rMany e (rS e f m) cc ks p=F∧(p.bad<0→lft e p+1≤cc∧lft e p+1≤m)∧ks.length+cc≤e.T.length∧RSt w wr c e p∧KO wr (w.heap.size+1) (fun g=>w.heap.size<g) vx ks) (fun _ wr=>muW e c wr)
 case atStart=>exact⟨e.T.length,[],P1,HF.out,HN.out,by simp,HS2.out,KO.nil _ _ _⟩
 case round=>
  obtain⟨cc,ks,p,hR,hN,hc,hS,hK⟩:=hrel
  rename World=>V
  obtain⟨va,vc,rfl⟩:=hK.slc
  have HS:=hide hS
  have HK:=hide hK
  have hmu:=muW_of hS.ps
  have g3:=hS.ps.cells.2.2.2.1
  have hat:=hS.ps.at_
  have hlt:=hS.lt
  clear hK hS HN HF HS2
  by_cases hb:p.bad<0
  ·have d0:decide (p.bad<0)=true:=decide_eq_true hb
   obtain⟨n1,n2⟩:=hN hb
   cases cc with
   |zero=>omega
   |succ cc=>
   rw[rMany]at hR
   go_wp2_with fail
   refine (l2is_any (⟨#[125]⟩:ByteArray) HS.out.ps).mono ?_
   rintro r V1 ⟨rfl,hb1⟩
   have HS1:=hide (HS.out.below hb1)
   have HK1:=hide (HK.out.bel hb1)
   clear hb1 HS HK
   cases hi:e.is p (⟨#[125]⟩:ByteArray) with
   |false=>
    rw[if_pos ⟨hb,by rw[hi];exact Bool.false_ne_true⟩]at hR
    have HC:=hide (HST.out V1 p HS1.out.ps n2)
    have hMV:=HMV.out p
    have hPG:Pg p (rS e f m p).2:=by
     cases m with
     |zero=>omega
     |succ m=>exact pg_stat e f m p
    have hmd:=mu_dec hb hat hMV hPG
    have hml:=hMV.le
    have HLN:Hid ((rS e f m p).2.bad<0→lft e (rS e f m p).2+1≤cc∧lft e (rS e f m p).2+1≤m):=fun q=>by
     rcases hPG with g|g
     ·omega
     ·have:=hMV.top hat;unfold lft at n1 n2 ⊢;omega
    obtain⟨X,hX⟩:∃X,rS e f m p=X:=⟨_,rfl⟩
    rw[hX]at hR HC hmd HLN
    clear hX hMV hPG hml
    go_wp2_with fail
    refine HC.out.mono ?_
    rintro r V2 ⟨vt,vp,rfl,hv,hq⟩
    have HS2:=hide (HS1.out.rd hq)
    have HK2:=hide (HK1.out.rdR (Nat.lt_succ_self _) hlt hq)
    obtain⟨xa,xc,xb,xd,rfl,rfl,_,_⟩:=hv.slc
    have HM2:=hide (ms_last HK1.out HS1.out.size hv (.cells #[.slice (some ⟨xa,0,none⟩) X.1.t.length xc,.slice (some ⟨xb,0,none⟩) X.1.t.length xd] 45))
    have hbA:Below V2.heap.size V2 (V2.alloc (.cells #[.slice (some ⟨xa,0,none⟩) X.1.t.length xc,.slice (some ⟨xb,0,none⟩) X.1.t.length xd] 45)):=(Below.refl _ _).alloc (Nat.le_refl _) _
    have HBK:=hide (Cs.of_blk (Blk.new V2 45 #[.slice (some ⟨xa,0,none⟩) X.1.t.length xc,.slice (some ⟨xb,0,none⟩) X.1.t.length xd]))
    have HS3:=hide (HS2.out.below hbA)
    have HK3:=hide (HK2.out.bel hbA)
    clear hv hq HC HS1 HK1 HS2 HK2 hbA
    go_wp2_with (at_builtin;refine wp_appKO rfl (.tmp 19) (.tmp 22) rfl (w.heap.size+1) rfl HK3.out V2.heap.size 1 1 rfl rfl HM2.out HBK.out (by simp;omega) HS3.out.size ?_)
    intro v' V4 hk4 hg4
    have HS4:Hid (RSt w V4 c e X.2):=by
     obtain⟨M1,ho1,_⟩:=HK3.out
     exact HS3.out.app ho1 (Nat.lt_succ_self _) hg4
    have HK4:=hide hk4
    obtain⟨wa,wc,rfl⟩:=hk4.slc
    have hmu2:=muW_of HS4.out.ps
    clear hk4 hg4 HS3 HK3 HM2 HBK
    go_wp2
    go_roundw
    case rel=>exact⟨cc,_,X.2,hR,HLN.out,by rw[List.length_append,List.length_singleton];omega,HS4.out,HK4.out⟩
    case measure=>rw[hmu,hmu2];exact hmd
   |true=>
    rw[if_neg (fun q=>q.2 hi)]at hR
    obtain⟨rfl⟩:F=(ks,p):=hR.symm
    have hnl:=HBM.out
    have hkl:ks.length≤5000:=by omega
    go_wp2_with fail
    refine (l2want_any (⟨#[125]⟩:ByteArray) HS1.out.ps).mono ?_
    rintro r V5 ⟨rfl,hq⟩
    have HS5:=hide (HS1.out.rd hq)
    have HK5:=hide (HK1.out.rdR (Nat.lt_succ_self _) hlt hq)
    have HPR:=hide (HK5.out.pr (fun g hg=>Nat.lt_of_succ_le hg))
    clear hq HS1 HK1 HK5
    go_wp2_with fail
    refine (l2node_any (m:=⟨ndK 2,.slice none 0 0,.slice none 0 0,.slice none 0 0⟩) (pl:=pl) (G:=fun g=>w.heap.size<g) (nv_plain _ _ 2 0) HPR.out (fun g hg=>Nat.lt_of_lt_of_le HS5.out.size hg) (by omega) (by omega)).mono ?_
    rintro r V6 ⟨vt,vp,rfl,hv,hb6⟩
    have HF:=hide (HS5.out.below hb6)
    obtain⟨ga,gc,gb,gd,rfl,rfl,_,_⟩:=hv.slc
    have HV:=hide hv
    have r0:=HF.out.res.cell 0
    have r1:=HF.out.res.cell 1
    have f0:=HF.out.res.frozen 0
    have f1:=HF.out.res.frozen 1
    simp only[List.getElem?_toArray,List.getElem?_cons_succ,List.getElem?_cons_zero]at r0 r1
    clear hv hb6
    go_wp2_with fail
    refine bodyPost_ret (results_one rfl _ _ _ w.heap.size 45 _ (0,0) rfl ((HF.out.res.set 0 _).set 1 _) Tryz.underlying45 (by kernel_rfl)) rfl ?_
    exact HF.out.fin HV.out
  ·have d0:decide (p.bad<0)=false:=decide_eq_false hb
   have hR':(ks,p)=F:=by
    cases cc with
    |zero=>exact hR
    |succ cc=>rw[rMany,if_neg (fun q=>hb q.1)]at hR;exact hR
   obtain⟨rfl⟩:F=(ks,p):=hR'.symm
   have hnl:=HBM.out
   have hkl:ks.length≤5000:=by omega
   go_wp2_with fail
   refine (l2want_any (⟨#[125]⟩:ByteArray) HS.out.ps).mono ?_
   rintro r V5 ⟨rfl,hq⟩
   have HS5:=hide (HS.out.rd hq)
   have HK5:=hide (HK.out.rdR (Nat.lt_succ_self _) hlt hq)
   have HPR:=hide (HK5.out.pr (fun g hg=>Nat.lt_of_succ_le hg))
   clear hq HS HK HK5
   go_wp2_with fail
   refine (l2node_any (m:=⟨ndK 2,.slice none 0 0,.slice none 0 0,.slice none 0 0⟩) (pl:=pl) (G:=fun g=>w.heap.size<g) (nv_plain _ _ 2 0) HPR.out (fun g hg=>Nat.lt_of_lt_of_le HS5.out.size hg) (by omega) (by omega)).mono ?_
   rintro r V6 ⟨vt,vp,rfl,hv,hb6⟩
   have HF:=hide (HS5.out.below hb6)
   obtain⟨ga,gc,gb,gd,rfl,rfl,_,_⟩:=hv.slc
   have HV:=hide hv
   have r0:=HF.out.res.cell 0
   have r1:=HF.out.res.cell 1
   have f0:=HF.out.res.frozen 0
   have f1:=HF.out.res.frozen 1
   simp only[List.getElem?_toArray,List.getElem?_cons_succ,List.getElem?_cons_zero]at r0 r1
   clear hv hb6
   go_wp2_with fail
   refine bodyPost_ret (results_one rfl _ _ _ w.heap.size 45 _ (0,0) rfl ((HF.out.res.set 0 _).set 1 _) Tryz.underlying45 (by kernel_rfl)) rfl ?_
   exact HF.out.fin HV.out
end Go.Proofs.YtbiakdjpeblclaaGreatDoor
