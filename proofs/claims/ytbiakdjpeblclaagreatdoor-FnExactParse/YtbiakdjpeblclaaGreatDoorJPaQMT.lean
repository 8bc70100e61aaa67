/-
  The program's own reader of trees, on: the whole source.
-/
import Derived.Test.YtbiakdjpeblclaaGreatDoorJPaQMQ
namespace Go.Proofs.YtbiakdjpeblclaaGreatDoor
open Go.RowKit
set_option maxHeartbeats 4000000 in
set_option maxRecDepth 1000000 in
theorem qms {c:PsC}{e:PsE}{f:Nat}(hE:EOk e)(HS:∀m,QSt c e f m){w:World}{p:Ps}(h:QsW w c e p.at_)(hp:p.bad<0)(hn:p.at_≤e.T.length):
 Calls Tryz.prog 55 #[.pointer (some ⟨c.P,0,none⟩)] w (RQ c e w (rMS e f (e.T.length+1) p).2 (KP w (rMS e f (e.T.length+1) p).1)):=by
 have hPl:=h.blk.lt
 have HQ:=hide h
 have HG:=hide (Gw.refl (· = c.P) w)
 have HT0:=hide hn
 have hi:=hE.is hp (w:=(⟨#[109,97,99,114,111]⟩:ByteArray)) (by decide +kernel)
 have HPL:=hide (qplace_any h)
 have hpe:e.place ⟨p.at_, -1,false⟩=e.place p:=rfl
 rw[hpe]at HPL
 obtain⟨L0,hL0⟩:∃Z,e.place p=Z:=⟨_,rfl⟩
 rw[hL0]at HPL
 by_cases hif:e.txt p.at_=(⟨#[109,97,99,114,111]⟩:ByteArray)
 ·have hlt:=txt_lt hE hif (by decide)
  have HR:Hid (rMS e f (e.T.length+1) p=rMac e f (e.T.length+1) L0 p.on):=by show _=_;unfold rMS;rw[hi,decide_eq_true hif,if_pos rfl,hL0]
  have HTK:=hide (tk_yes (c:=c) _ hn hif)
  have HC:=hide (fun W (hW:QsW W c e (p.at_+1))=>qmacro (pl:=L0) hE (HS (e.T.length+1)) (p:=p.on) hW hp hlt (by rw[on_at];omega) (by unfold lft;omega))
  clear h hn hi hpe hL0 hif HS hE HT0
  go_enter Tryz.func55,Tryz.ntmps55
  go_wp2_with fail
  refine HPL.out.mono ?_
  rintro r wp ⟨rfl,hb⟩
  replace HG:=hide (HG.out.blw hb)
  replace HQ:=hide (HQ.out.below hb)
  clear hb HPL
  go_wp2_with fail
  refine (HTK.out wp HQ.out).mono ?_
  rintro r wp' ⟨rfl,hq⟩
  replace HG:=hide (HG.out.tr hq.2)
  replace HQ:=hide hq.1
  clear hq HTK
  go_wp2_with fail
  refine (HC.out wp' HQ.out).mono ?_
  rintro r w1 ⟨hg,⟨hb1,hq,v,rfl,⟨⟨t1,a1,rfl⟩,hpm⟩⟩|⟨hb1,rfl⟩⟩
  ·have HP1:=hide (hpm.low HG.out.size)
   replace HG:=hide (HG.out.tr hg)
   replace HQ:=hide hq
   clear hpm hg hq HC
   go_wp2
   go_ret
   rw[HR.out]
   exact RQ.ok hb1 HG.out HQ.out ⟨⟨_,_,rfl⟩,HP1.out⟩
  ·exact⟨rfl,by rw[HR.out];exact RQ.fault hb1 (Mv.refl e _) (HG.out.tr hg)⟩
 ·have HR:Hid (rMS e f (e.T.length+1) p=rS e f (e.T.length+1) p):=by show _=_;unfold rMS;rw[hi,decide_eq_false hif,if_neg Bool.false_ne_true]
  have HTK:=hide (tk_no (c:=c) _ hn hif)
  have HC:=hide (fun W (hW:QsW W c e p.at_)=>HS (e.T.length+1) W p hW hp hn (by unfold lft;omega))
  clear h hn hi hpe hL0 hif HS hE HT0
  go_enter Tryz.func55,Tryz.ntmps55
  go_wp2_with fail
  refine HPL.out.mono ?_
  rintro r wp ⟨rfl,hb⟩
  replace HG:=hide (HG.out.blw hb)
  replace HQ:=hide (HQ.out.below hb)
  clear hb HPL
  go_wp2_with fail
  refine (HTK.out wp HQ.out).mono ?_
  rintro r wp' ⟨rfl,hq⟩
  replace HG:=hide (HG.out.tr hq.2)
  replace HQ:=hide hq.1
  clear hq HTK
  go_wp2_with fail
  refine (HC.out wp' HQ.out).mono ?_
  rintro r w1 ⟨hg,⟨hb1,hq,v,rfl,⟨⟨t1,a1,rfl⟩,hpm⟩⟩|⟨hb1,rfl⟩⟩
  ·have HP1:=hide (hpm.low HG.out.size)
   replace HG:=hide (HG.out.tr hg)
   replace HQ:=hide hq
   clear hpm hg hq HC
   go_wp2
   go_ret
   rw[HR.out]
   exact RQ.ok hb1 HG.out HQ.out ⟨⟨_,_,rfl⟩,HP1.out⟩
  ·exact⟨rfl,by rw[HR.out];exact RQ.fault hb1 (Mv.refl e _) (HG.out.tr hg)⟩
theorem ent_ms (args:Array Value)(W:World):(callFunc 55 args).run Tryz.prog W = .ok (.enter 55 args) W:=enters_of Tryz.func55 (by kernel_rfl) rfl args W
def PgQ (c:PsC)(w:World)(r:Pt × Ps)(x:Ending)(w':World):Prop:=
 Gw (· = c.P) w w'∧((r.2.bad<0∧∃t a,x = .returned (.iface t a)∧PM w' (fun g=>w.heap.size≤g) r.1 (.iface t a))∨(0≤r.2.bad∧x=Flt r.2.bad))
set_option maxHeartbeats 2000000 in
set_option maxRecDepth 1000000 in
theorem qprog {c:PsC}{e:PsE}(hE:EOk e){w:World}(h:QsW w c e 0):
 Calls Tryz.prog 26 #[.pointer (some ⟨c.P,0,none⟩)] w (PgQ c w (rProg e.s e.T)):=by
 have hmf:∀(fn:Fn) (first cap:Array Value) (w:World),(Instr.makeFunc fn first cap).run Tryz.prog w = .ok (.func fn first cap) w:=fun _ _ _ _=>rfl
 have hf:2*e.T.length+3≤2*e.T.length+3:=Nat.le_refl _
 have hL:=qlist_any (c:=c) (btw:=⟨#[]⟩) (cl:=⟨#[]⟩) (d:=e.T.length+1) (n0:=0) (p:=⟨0, -1,false⟩) (st:=rMS e (2*e.T.length+3) (e.T.length+1)) hE (.inl rfl) ent_ms (fun V p h hp hn _=>qms hE (qst_all hE hf) h hp hn) (mv_ms e _ _) (pg_ms e _ _) h (by decide) (Nat.zero_le _) (Nat.zero_le _) (by show e.T.length<0+_;omega)
 have hT:=rL_top hE (2*e.T.length+3) e.T.length (e.T.length+1) (e.T.length+1) [] ⟨0, -1,false⟩ (by decide) (Nat.zero_le _) (by show e.T.length<0+_;omega) (by show e.T.length<0+_;omega)
 have HRP:Hid (rProg e.s e.T=(ptN (ndK 0) 0 (rTop e (2*e.T.length+3) (e.T.length+1) (e.T.length+1) [] ⟨0, -1,false⟩).1,(rTop e (2*e.T.length+3) (e.T.length+1) (e.T.length+1) [] ⟨0, -1,false⟩).2)):=rfl
 obtain⟨X,hX⟩:∃X,rTop e (2*e.T.length+3) (e.T.length+1) (e.T.length+1) [] ⟨0, -1,false⟩=X:=⟨_,rfl⟩
 rw[hX]at HRP hT
 obtain⟨Y,hY⟩:∃Y,rL e (rMS e (2*e.T.length+3) (e.T.length+1)) (⟨#[]⟩:ByteArray) (⟨#[]⟩:ByteArray) (e.T.length+1) [] ⟨0, -1,false⟩=Y:=⟨_,rfl⟩
 rw[hY]at hL hT
 have HL:=hide hL
 have HT:=hide hT
 obtain⟨R,hR⟩:∃R,rProg e.s e.T=R:=⟨_,rfl⟩
 rw[hR]at HRP ⊢
 clear hL hT hX hY hR hf h
 go_enter Tryz.func26,Tryz.ntmps26
 go_wp2_with fail
 refine HL.out.mono ?_
 rintro r w1 ⟨hg,⟨hb1,hq,v,rfl,⟨us,hpo⟩⟩|⟨hb1,rfl⟩⟩
 ·have hXb:X.2.bad<0:=by
   by_cases q:X.2.bad<0
   ·exact q
   ·have:=HT.out.2 (by omega);omega
  have hYX:=HT.out.1 hXb
  rw[hYX]at hpo
  obtain⟨la,lc,rfl⟩:=own_sl hpo.own
  have HMK:=hide (qmake_any 0 (show (0:Int)≤0∧(0:Int)≤22 by decide) (Kids.plain (k:=0) (n:=0) hpo.pts) (ks:=X.1) hpo.len (hpo.rwg (Nat.le_refl _)))
  have HG:=hide hg
  clear hg hq hpo HL HT hYX
  go_wp2_with fail
  refine HMK.out.mono ?_
  rintro r v2 ⟨⟨t',a',rfl,hpm⟩,hb⟩
  replace HG:=hide (HG.out.blw hb)
  have HPM:=hide hpm
  clear hpm hb HMK
  go_wp2
  go_ret
  rw[HRP.out]
  exact⟨HG.out,.inl ⟨hXb,_,_,rfl,HPM.out⟩⟩
 ·have hXb:X.2.bad=Y.2.bad:=by
   by_cases q:X.2.bad<0
   ·have:=HT.out.1 q
    rw[this]at hb1
    have z:(0:Int)≤X.2.bad:=hb1
    omega
   ·exact (HT.out.2 (by omega)).symm
  refine⟨rfl,?_⟩
  rw[HRP.out]
  exact⟨hg,.inr ⟨by show 0≤X.2.bad;omega,by show _=Flt X.2.bad;rw[hXb];rfl⟩⟩
theorem kind_qq {k:Int}(h0:0≤k)(h1:k≤22):k=0∨k=1∨k=2∨k=3∨k=4∨k=5∨k=6∨k=7∨k=8∨k=9∨k=10∨k=11∨k=12∨k=13∨k=14∨k=15∨k=16∨k=17∨k=18∨k=19∨k=20∨k=21∨k=22:=by omega
set_option maxRecDepth 1000000 in
theorem mth_tr {k:Int}(h0:0≤k)(h1:k≤22)(a0 a1 a2 a3 a4 a5 a6 a7:Value)(W:World):(method 369 (ptK k) (.agg #[a0,a1,a2,a3,a4,a5,a6,a7]) "loop.example/s02126/impl.trunk").run Tryz.prog W = .ok (217,.agg #[a0,a1,a2,a3,a4,a5,a6,a7]) W:=by
 rcases kind_qq h0 h1 with rfl|rfl|rfl|rfl|rfl|rfl|rfl|rfl|rfl|rfl|rfl|rfl|rfl|rfl|rfl|rfl|rfl|rfl|rfl|rfl|rfl|rfl|rfl
 all_goals kernel_rfl
theorem ent_tr (args:Array Value)(W:World):(callFunc 217 args).run Tryz.prog W = .ok (.enter 217 args) W:=enters_of Tryz.func217 (by kernel_rfl) rfl args W
set_option maxHeartbeats 2000000 in
set_option maxRecDepth 1000000 in
theorem trunk_any (K N C:Int)(pl:Nat)(a1 a2 a3 a4:Option Addr)(l1 l2 l3 l4 c1 c2 c3 c4:Nat)(w:World):
 Calls Tryz.prog 217 #[.agg #[.int .i64 K,.int .i64 N,.slice a1 l1 c1,.slice a2 l2 c2,.slice a3 l3 c3,.int .i64 C,.int .i64 (pl:Nat),.slice a4 l4 c4]] w fun r w'=>r = .returned (.agg #[.int .i64 K,.int .i64 N,.slice a1 l1 c1,.slice a2 l2 c2,.slice a3 l3 c3,.int .i64 C,.int .i64 (pl:Nat),.slice a4 l4 c4])∧Below w.heap.size w w':=by
 go_enter Tryz.func217,Tryz.ntmps217
 go_wp2
 have hb:=Blk.new (w.alloc (.cells #[.int .i64 K,.int .i64 N,.slice a1 l1 c1,.slice a2 l2 c2,.slice a3 l3 c3,.int .i64 C,.int .i64 (pl:Nat),.slice a4 l4 c4] 98)) 98 #[.int .i64 K,.int .i64 N,.slice a1 l1 c1,.slice a2 l2 c2,.slice a3 l3 c3,.int .i64 C,.int .i64 (pl:Nat),.slice a4 l4 c4]
 rw[World.size_alloc]at hb
 refine bodyPost_ret (results_one rfl _ _ _ (w.heap.size+1) 98 _ (0,0) rfl hb Tryz.underlying98 (by kernel_rfl)) rfl ?_
 exact⟨rfl,((Below.refl _ _).alloc (Nat.le_refl _) _).alloc (by simp) _⟩
theorem PM.same {w:World}{G:Nat→Prop}{x:Pt}{v:Value}(h:PM w G x v):x.p.length=x.t.length:=by
 induction h with
 |mk G Gs m pl ks vb us hd hG hk hc hm hl hb hs ih=>
  have key:∀(xs:List Pt),(∀x∈xs,x.p.length=x.t.length)→((xs.map Pt.p).flatten).length=((xs.map Pt.t).flatten).length:=by
   intro xs
   induction xs with
   |nil=>intro _;rfl
   |cons x xs ihx=>
    intro hx
    simp only[List.map_cons,List.flatten_cons,List.length_append]
    rw[hx x List.mem_cons_self,ihx (fun y hy=>hx y (List.mem_cons_of_mem _ hy))]
  unfold ptM
  simp only[List.length_cons]
  rw[key ks (fun x hx=>by
   obtain⟨j,hj,hjx⟩:=List.getElem_of_mem hx
   exact ih j x us[j] (by rw[List.getElem?_eq_getElem hj,hjx]) (List.getElem?_eq_getElem (by omega)))]
theorem take_flat {α β:Type}(f:α→List β){ks:List α}{k:Nat}{x:α}(h:ks[k]?=some x):((ks.take (k+1)).map f).flatten=((ks.take k).map f).flatten++f x:=by
 rw[List.take_add_one,h]
 simp
theorem take_flat_le {α β:Type}(f:α→List β)(ks:List α)(k:Nat):((ks.take k).map f).flatten.length≤(ks.map f).flatten.length:=by
 conv=>rhs;rw[← List.take_append_drop k ks,List.map_append,List.flatten_append,List.length_append]
 omega
theorem PM.pos {w:World}{G:Nat→Prop}{x:Pt}{v:Value}(h:PM w G x v):0<x.t.length:=by
 cases h
 show 0<(_::_:List Nd).length
 exact Nat.succ_pos _
theorem flat_ge {α β:Type}(f:α→List β):∀(ks:List α),(∀x∈ks,0<(f x).length)→ks.length≤(ks.map f).flatten.length
 | [],_=>Nat.le_refl _
 |x::ks,h=>by
  have h1:=h x List.mem_cons_self
  have h2:=flat_ge f ks (fun y hy=>h y (List.mem_cons_of_mem _ hy))
  simp only[List.map_cons,List.flatten_cons,List.length_append,List.length_cons]
  omega
def OdL (w:World)(G:Nat→Prop)(M:List Nv):Prop:=∃Gs,Dj Gs∧(∀i g,Gs i g→G g)∧∀(i:Nat) (m:Nv),M[i]?=some m→m.Od w (Gs i)
theorem OdL.mono {w:World}{G G':Nat→Prop}{M:List Nv}(h:OdL w G M)(hG:∀g,G g→G' g):OdL w G' M:=by
 obtain⟨Gs,d1,s1,e1⟩:=h
 exact⟨Gs,d1,fun i g a=>hG g (s1 i g a),e1⟩
theorem OdL.one {w:World}{G:Nat→Prop}{m:Nv}(h:m.Od w G):OdL w G [m]:=⟨oneG 0 G,oneG_dj 0 G,fun _ _ a=>a.2,fun i y hy=>by
 cases i with
 |zero=>injection hy with hy;rw[← hy];exact h.mono (fun _ q _=>⟨rfl,q⟩)
 |succ i=>simp at hy⟩
theorem OdL.app {w:World}{G G':Nat→Prop}{M N:List Nv}(h:OdL w G M)(k:OdL w G' N)(hd:∀g,G g→¬G' g):OdL w (fun g=>G g∨G' g) (M++N):=by
 obtain⟨Gs,d1,s1,e1⟩:=h
 obtain⟨Gx,d2,s2,e2⟩:=k
 refine⟨fun j=>if j<M.length then Gs j else Gx (j - M.length),fun i j g q a b=>?_,fun j g a=>?_,fun j m hm=>?_⟩
 ·simp only at a b
  split at a<;>split at b
  ·exact d1 i j g q a b
  ·exact hd g (s1 _ _ a) (s2 _ _ b)
  ·exact hd g (s1 _ _ b) (s2 _ _ a)
  ·exact d2 _ _ g (by omega) a b
 ·simp only at a
  split at a
  ·exact .inl (s1 _ _ a)
  ·exact .inr (s2 _ _ a)
 ·by_cases hj:j<M.length
  ·rw[List.getElem?_append_left hj]at hm
   simp only[if_pos hj]
   exact e1 j m hm
  ·rw[List.getElem?_append_right (by omega)]at hm
   simp only[if_neg hj]
   exact e2 _ m hm
def SpQ (w0:World)(G:Nat→Prop)(M0:List Nv)(P0:List Nat)(x:Pt)(r:Ending)(V':World):Prop:=
 ∃tv pv M,r = .returned (.tuple #[tv,pv])∧M.map Nv.d=x.t∧OdL w0 G M∧V'.ownsRow w0.heap.size 51 6 tv (M0++M).length (ncs (M0++M))∧V'.ownsRow w0.heap.size 3 1 pv (P0++x.p).length (plv (P0++x.p))∧Below w0.heap.size w0 V'
theorem ncs_one1 (m:Nv):ncs [m]=m.cs:=by unfold ncs;simp
set_option maxHeartbeats 4000000 in
set_option maxRecDepth 1000000 in
theorem spread_any {w0:World}{G:Nat→Prop}{x:Pt}{v:Value}(h:PM w0 G x v):∀(V:World) (tv pv:Value) (M0:List Nv) (P0:List Nat),M0.length+x.t.length≤100000→P0.length+x.t.length≤100000→V.ownsRow w0.heap.size 51 6 tv M0.length (ncs M0)→V.ownsRow w0.heap.size 3 1 pv P0.length (plv P0)→Below w0.heap.size w0 V→Calls Tryz.prog 25 #[v,tv,pv] V (SpQ w0 G M0 P0 x):=by
 induction h with
 |mk G Gs m pl ks vb us hd hG hk hc hmd hl hb hs ih=>
 intro V tv pv M0 P0 hl1 hl2 hto hpo hB
 have hsm:=(PM.mk G Gs m pl ks vb us hd hG hk hc hmd hl hb hs).same
 have hm:=hmd.ok
 have HIH:=hide ih
 have hkl:ks.length≤100000:=by
  have:=flat_ge Pt.t ks (fun x hx=>by
   obtain⟨j,hj,hjx⟩:=List.getElem_of_mem hx
   exact (hs j x us[j] (by rw[List.getElem?_eq_getElem hj,hjx]) (List.getElem?_eq_getElem (by omega))).pos)
  have h2:(ptM m pl ks).t.length=1+(ks.map Pt.t).flatten.length:=by unfold ptM;rw[List.length_cons];omega
  omega
 have HSS:Hid (∀(j:Nat) (k:Pt) (u:Value),ks[j]?=some k→us[j]?=some u→k.p.length=k.t.length):=fun j k u a b=>(hs j k u a b).same
 have HM:=hide hmd
 have HDJ:=hide hd
 have HGG:=hide hG
 have hmt:=mth_tr hk.1 hk.2
 have htr:=ent_tr
 obtain⟨a1,c1,h1⟩:=hm.text.slc
 obtain⟨_,_,⟨a2,_,c2,h2,_⟩,_⟩:=hm.names
 obtain⟨a3,_,c3,h3,_⟩:=hm.types
 obtain⟨a4,bg,c4,h4,hb1,hb2⟩:=hb
 have HB1:=hide hb1
 have HB2:=hide hb2
 have HMO:=hide hm.one
 have HL:Hid (us.length=ks.length):=hl
 have HPT:Hid (ptM m pl ks = ⟨m.d::(ks.map Pt.t).flatten,pl::(ks.map Pt.p).flatten⟩):=rfl
 have HTR:=hide (fun W=>trunk_any m.d.kind m.d.n m.d.count pl a1 a2 a3 a4 m.d.text.size m.d.names.length m.d.types.length ks.length c1 c2 c3 c4 W)
 unfold prv
 have HCS:Hid (m.cs = [.int .i64 m.d.kind,.int .i64 m.d.n,.slice a1 m.d.text.size c1,.slice a2 m.d.names.length c2,.slice a3 m.d.types.length c3,.int .i64 m.d.count]):=by show _=_;unfold Nv.cs;rw[h1,h2,h3]
 rw[h1,h2,h3,h4]
 obtain⟨K,hK⟩:∃K,m.d.kind=K:=⟨_,rfl⟩
 obtain⟨N,hN⟩:∃K,m.d.n=K:=⟨_,rfl⟩
 obtain⟨C,hC⟩:∃K,m.d.count=K:=⟨_,rfl⟩
 obtain⟨L1,hL1⟩:∃K,m.d.text.size=K:=⟨_,rfl⟩
 obtain⟨L2,hL2⟩:∃K,m.d.names.length=K:=⟨_,rfl⟩
 obtain⟨L3,hL3⟩:∃K,m.d.types.length=K:=⟨_,rfl⟩
 rw[hK,hN,hC,hL1,hL2,hL3]at HTR HCS ⊢
 rw[hK]at hmt
 obtain⟨ta,tc,rfl⟩:=own_sl hto
 obtain⟨pa,pc,rfl⟩:=own_sl hpo
 have HTO:=hide hto
 have HPO:=hide hpo
 have HBV:=hide hB
 clear hm hmd hd hG ih hs hl hb1 hb2 h1 h2 h3 h4 hto hpo hB hK hN hC hL1 hL2 hL3 hc hk
 go_enter Tryz.func25,Tryz.ntmps25
 go_wp2_with fail
 refine (HTR.out V).mono ?_
 rintro r V1 ⟨rfl,hb⟩
 have HBV1:=hide (HBV.out.trans (hb.mono HBV.out.size))
 have HTO1:=hide ((Gw.of_below (P:=fun _=>False) hb).own HTO.out (fun _ _ q=>q.elim))
 have HPO1:=hide ((Gw.of_below (P:=fun _=>False) hb).own HPO.out (fun _ _ q=>q.elim))
 have HTL:Hid (∀g,(Value.slice ta M0.length tc).ownBlock=some g→g<V1.heap.size):=fun g q=>(World.ownsRow.lt HTO1.out g q).2
 have HPL:Hid (∀g,(Value.slice pa P0.length pc).ownBlock=some g→g<V1.heap.size):=fun g q=>(World.ownsRow.lt HPO1.out g q).2
 obtain⟨V2,hV2⟩:∃W,V1.alloc (.cells #[.int .i64 K,.int .i64 N,.slice a1 L1 c1,.slice a2 L2 c2,.slice a3 L3 c3,.int .i64 C,.int .i64 (pl:Nat),.slice a4 ks.length c4] 98)=W:=⟨_,rfl⟩
 have hb2:Below V1.heap.size V1 V2:=by rw[← hV2];exact (Below.refl _ _).alloc (Nat.le_refl _) _
 have hX2:Blk V2 V1.heap.size 98 #[.int .i64 K,.int .i64 N,.slice a1 L1 c1,.slice a2 L2 c2,.slice a3 L3 c3,.int .i64 C,.int .i64 (pl:Nat),.slice a4 ks.length c4]:=by rw[← hV2];exact Blk.new _ _ _
 have HBV2:=hide (HBV1.out.trans (hb2.mono HBV1.out.size))
 have HTO2:=hide ((Gw.of_below (P:=fun _=>False) hb2).own HTO1.out (fun _ _ q=>q.elim))
 have HPO2:=hide ((Gw.of_below (P:=fun _=>False) hb2).own HPO1.out (fun _ _ q=>q.elim))
 have HX2:=hide hX2
 have x0:=hX2.cell 0
 have x1:=hX2.cell 1
 have x2:=hX2.cell 2
 have x3:=hX2.cell 3
 have x4:=hX2.cell 4
 have x5:=hX2.cell 5
 simp only[List.getElem?_toArray,List.getElem?_cons_succ,List.getElem?_cons_zero]at x0 x1 x2 x3 x4 x5
 rw[HPT.out]at hl1 hl2 hsm
 simp only[List.length_cons]at hl1 hl2 hsm
 have hlt2:V1.heap.size<V2.heap.size:=hX2.lt
 have hw0:w0.heap.size≤V1.heap.size:=HBV1.out.size
 clear hb HTR HBV HTO HPO HBV1 HTO1 HPO1 hb2 hX2
 go_wp2_with (at_builtin;refine wp_appGNd rfl _ _ rfl w0.heap.size _ M0.length (ncs M0) rfl (HTO2.out.alloc _) V2.heap.size 0 1 1 m.cs rfl ?qy ?qn ?qo ?ql ?qb ?_)
 case qy=>rfl
 case qn=>(intro j u hj;rw[Nat.zero_add];rw[HCS.out]at hj;exact Cs.of_blk (Blk.new V2 51 #[.int .i64 K,.int .i64 N,.slice a1 L1 c1,.slice a2 L2 c2,.slice a3 L3 c3,.int .i64 C]) j u hj)
 case qo=>exact HMO.out
 case ql=>omega
 case qb=>(simp;omega)
 intro tv3 V3 ho3 hg3 hob3
 have hA:Below V2.heap.size V2 (V2.alloc (.cells #[.int .i64 K,.int .i64 N,.slice a1 L1 c1,.slice a2 L2 c2,.slice a3 L3 c3,.int .i64 C] 51)):=(Below.refl _ _).alloc (Nat.le_refl _) _
 have hg3':Gw (fun j=>(Value.slice ta M0.length tc).ownBlock=some j) (V2.alloc (.cells #[.int .i64 K,.int .i64 N,.slice a1 L1 c1,.slice a2 L2 c2,.slice a3 L3 c3,.int .i64 C] 51)) V3:=Gw.of_grown hg3 (fun j hj _=>hj)
 have hX3:=hg3'.blk ((hA.block _ HX2.out.lt).trans HX2.out) (fun q=>by have:=HTL.out _ q;omega)
 have hp3:=hg3'.own ((Gw.of_below (P:=fun _=>False) hA).own HPO2.out (fun _ _ q=>q.elim)) (fun g q=>own_ne HPO2.out HTO2.out (by decide) q)
 have HBV3:=hide ((HBV2.out.trans (hA.mono HBV2.out.size)).trans (hg3'.below (Below.refl _ _) (by simp;omega) (fun k hk q=>by have:=(World.ownsRow.lt HTO2.out k q).1;omega)))
 have hlt3:V2.heap.size≤V3.heap.size:=by have:=hg3'.size;simp at this;omega
 obtain⟨a6,c6,rfl⟩:=own_sl ho3
 have HT3:Hid (V3.ownsRow w0.heap.size 51 6 (.slice a6 (M0.length+1) c6) (M0++[m]).length (ncs (M0++[m]))):=by show World.ownsRow _ _ _ _ _ _ _;rw[ncs_app,ncs_one1,List.length_append];exact ho3
 have HX3:=hide hX3
 have HP3:=hide hp3
 have y6:=Blk.cell hX3 6
 simp only[List.getElem?_toArray,List.getElem?_cons_succ,List.getElem?_cons_zero]at y6
 clear hA hg3' hX3 hp3 hg3 hob3 ho3 x0 x1 x2 x3 x4 x5 HX2 HPO2 HTO2 hV2 HBV2
 go_wp2_with (at_builtin;refine wp_app1V rfl _ _ 24 3 rfl (.int .i64 0) 8 Tryz.underlying24 Tryz.infoGIn rfl (by decide) w0.heap.size _ P0.length (plv P0) rfl (HP3.out.alloc _) V3.heap.size 1 (.int .i64 (pl:Nat)) rfl (by simp) rfl ?l1 ?b1 ?_)
 case l1=>omega
 case b1=>(simp;omega)
 intro pv5 V5 ho5 hg5 hob5
 have hA:Below V3.heap.size V3 (V3.alloc (.cells #[.int .i64 (pl:Nat)] 3)):=(Below.refl _ _).alloc (Nat.le_refl _) _
 have hg5':Gw (fun j=>(Value.slice pa P0.length pc).ownBlock=some j) (V3.alloc (.cells #[.int .i64 (pl:Nat)] 3)) V5:=Gw.of_grown hg5 (fun j hj _=>hj)
 have hX5:=hg5'.blk ((hA.block _ (Blk.lt HX3.out)).trans HX3.out) (fun q=>by have:=HPL.out _ q;omega)
 have ht5:=hg5'.own ((Gw.of_below (P:=fun _=>False) hA).own HT3.out (fun _ _ q=>q.elim)) (fun g q=>own_ne HT3.out HP3.out (by decide) q)
 have HBV5:=hide ((HBV3.out.trans (hA.mono HBV3.out.size)).trans (hg5'.below (Below.refl _ _) (by simp;omega) (fun k hk q=>by have:=(World.ownsRow.lt HP3.out k q).1;omega)))
 obtain⟨a7,c7,rfl⟩:=own_sl ho5
 have HP5:Hid (V5.ownsRow w0.heap.size 3 1 (.slice a7 (P0.length+1) c7) (P0++[pl]).length (plv (P0++[pl]))):=by show World.ownsRow _ _ _ _ _ _ _;unfold plv;rw[List.map_append,List.length_append];exact ho5
 have HT5:=hide ht5
 have z7:=Blk.cell hX5 7
 simp only[List.getElem?_toArray,List.getElem?_cons_succ,List.getElem?_cons_zero]at z7
 clear hA hg5' hX5 ht5 hg5 hob5 ho5 y6 HX3 HP3 HT3 HBV3 hlt3 hlt2 HTL HPL
 go_wp2_with fail
 go_loopw [1,2,26] (fun tv pv iv wr=>∃(k:Nat) (M:List Nv),k≤ks.length∧iv = .int .i64 (k:Nat)∧M.map Nv.d=m.d::((ks.take k).map Pt.t).flatten∧OdL w0 (fun g=>∃j,j≤k∧Gs j g) M∧wr.ownsRow w0.heap.size 51 6 tv (M0++M).length (ncs (M0++M))∧wr.ownsRow w0.heap.size 3 1 pv (P0++(pl::((ks.take k).map Pt.p).flatten)).length (plv (P0++(pl::((ks.take k).map Pt.p).flatten)))∧Below w0.heap.size w0 wr) (fun _ _ iv _=>ks.length - (intOf iv).toNat)
 case atStart=>exact⟨0,[m],Nat.zero_le _,rfl,rfl,(OdL.one HM.out).mono (fun g q=>⟨0,Nat.le_refl _,q⟩),HT5.out,HP5.out,HBV5.out⟩
 case round=>
  obtain⟨k,M,hk,rfl,hMd,hMk,hto,hpo,hB⟩:=hrel
  rename World=>W
  obtain⟨ua,uc,rfl⟩:=own_sl hto
  obtain⟨va,vc,rfl⟩:=own_sl hpo
  by_cases hlt:k<ks.length
  ·have hlti:(k:Int)<(ks.length:Int):=by omega
   obtain⟨x,hx⟩:∃x,ks[k]?=some x:=⟨_,List.getElem?_eq_getElem hlt⟩
   obtain⟨u,hu⟩:∃u,us[k]?=some u:=⟨_,List.getElem?_eq_getElem (by have:=HL.out;omega)⟩
   obtain⟨ha4,_⟩:=HB1.out (by omega)
   subst ha4
   have hcl:=cell_kept (HB2.out (by omega) k u hu) hB
   have f1:=take_flat Pt.t hx
   have f2:=take_flat Pt.p hx
   have g1:=take_flat_le Pt.t ks (k+1)
   have g2:=take_flat_le Pt.p ks (k+1)
   have hxs:=HSS.out k x u hx hu
   have hMl:M.length=1+((ks.take k).map Pt.t).flatten.length:=by
    have:=congrArg List.length hMd
    rw[List.length_map,List.length_cons]at this
    omega
   rw[f1,List.length_append]at g1
   rw[f2,List.length_append]at g2
   have HC:=hide (HIH.out k x u hx hu W (.slice ua (M0++M).length uc) (.slice va (P0++(pl::((ks.take k).map Pt.p).flatten)).length vc) (M0++M) (P0++(pl::((ks.take k).map Pt.p).flatten)) (by rw[List.length_append];omega) (by rw[List.length_append,List.length_cons];omega) hto hpo hB)
   have HF:Hid (((ks.take (k+1)).map Pt.t).flatten=((ks.take k).map Pt.t).flatten++x.t∧((ks.take (k+1)).map Pt.p).flatten=((ks.take k).map Pt.p).flatten++x.p):=⟨f1,f2⟩
   have HMD:=hide hMd
   have HMK:=hide hMk
   obtain⟨NA,hNA⟩:∃z,(M0++M).length=z:=⟨_,rfl⟩
   obtain⟨NB,hNB⟩:∃z,(P0++(pl::((ks.take k).map Pt.p).flatten)).length=z:=⟨_,rfl⟩
   rw[hNA,hNB]at HC ⊢
   clear hto hpo hB hx hu f1 f2 g1 g2 hxs hMl hMd hMk hNA hNB HT5 HP5 HBV5 z7
   go_wp2_with fail
   refine HC.out.mono ?_
   rintro r W1 ⟨tv,pv,M1,rfl,h1,h2,h3,h4,h5⟩
   obtain⟨ta',tc',rfl⟩:=own_sl h3
   obtain⟨pa',pc',rfl⟩:=own_sl h4
   obtain⟨NC,hNC⟩:∃z,(M0++M++M1).length=z:=⟨_,rfl⟩
   obtain⟨ND,hND⟩:∃z,(P0++(pl::((ks.take k).map Pt.p).flatten)++x.p).length=z:=⟨_,rfl⟩
   rw[hNC]at h3 ⊢
   rw[hND]at h4 ⊢
   have HNC:=hide hNC
   have HND:=hide hND
   have H1:=hide h1
   have H2:=hide h2
   have H3:=hide h3
   have H4:=hide h4
   have H5:=hide h5
   clear h1 h2 h3 h4 h5 HC hcl hNC hND
   go_wp2
   go_roundw
   case rel=>exact⟨k+1,M++M1,hlt,by go_num,by rw[List.map_append,HMD.out,H1.out,HF.out.1];rfl,(HMK.out.app H2.out (fun g q z=>by
    obtain⟨j,hj,hg⟩:=q
    exact HDJ.out j (k+1) g (by omega) hg z)).mono (fun g q=>by
    rcases q with⟨j,hj,hg⟩|hg
    ·exact⟨j,by omega,hg⟩
    ·exact⟨k+1,Nat.le_refl _,hg⟩),by rw[← List.append_assoc,HNC.out];exact H3.out,by rw[HF.out.2,← List.cons_append,← List.append_assoc,HND.out];exact H4.out,H5.out⟩
   case measure=>simp[intOf];omega
  ·obtain rfl:k=ks.length:=by omega
   rw[List.take_of_length_le (Nat.le_refl _)]at hMd hpo
   have H1:=hide hMd
   have H2:=hide hMk
   have H3:=hide hto
   have H4:=hide hpo
   have H5:=hide hB
   obtain⟨NA,hNA⟩:∃z,(M0++M).length=z:=⟨_,rfl⟩
   obtain⟨NB,hNB⟩:∃z,(P0++(pl::(ks.map Pt.p).flatten)).length=z:=⟨_,rfl⟩
   rw[List.take_of_length_le (Nat.le_refl _)]
   have HNA:=hide hNA
   have HNB:=hide hNB
   rw[hNA,hNB]
   clear hMd hMk hto hpo hB hNA hNB HT5 HP5 HBV5 z7 hlt hk
   go_wp2
   go_ret2
   exact⟨_,_,M,rfl,H1.out,H2.out.mono (fun g q=>(by obtain⟨j,_,hg⟩:=q;exact HGG.out j g hg)),by have h:=H3.out;rw[HNA.out]at h;rw[HNA.out];exact h,by have h:=H4.out;rw[HNB.out]at h;show World.ownsRow _ _ _ _ _ (P0++(pl::(ks.map Pt.p).flatten)).length _;rw[HNB.out];exact h,H5.out⟩
end Go.Proofs.YtbiakdjpeblclaaGreatDoor
