/-
  Plainly, on: statements and the whole source.
-/
import Derived.Test.YtbiakdjpeblclaaGreatDoorJPaPPA
namespace Go.Proofs.YtbiakdjpeblclaaGreatDoor
theorem lgs_pars (e:PsE)(d:Nd)(t:List Nd)(hd:d∈t):∀c ty ns p,(∀n∈(rPars e c ty ns p).2.1,n∈d.names)→Lgs p (rPars e c ty ns p).2.2 t∧∀n∈ns,n∈(rPars e c ty ns p).2.1
 |0,_,_,p,_=>⟨Lgs.refl _ _,fun _ h=>h⟩
 |c+1,ty,ns,p,h=>by
  by_cases g:p.bad<0∧¬(ty.length=0∧e.is p (⟨#[41]⟩:ByteArray)=true)
  ·rw[rPars_on g.1 g.2]at h ⊢
   have h0:Lgs p (rPty e p).2 t:=by
    unfold rPty
    split
    ·exact lgs_on p t
    ·exact lgs_want e p _ t
   have hm:=mv_ident e (rPty e p).2
   split at h
   ·rename_i k
    rw[if_pos k]
    have ih:=lgs_pars e d t hd c _ _ _ h
    have hn:=ih.2 (rPar e p).1.2 (by simp)
    have h1:Lgs p (rPar e p).2 t:=h0.then (lgs_ident e _ ⟨d,hd,h _ hn⟩) hm.1
    exact⟨(h1.then (lgs_on _ _) (mv_on (is_kind k)).1).then ih.1 (mv_pars e c _ _ _),fun n hn=>ih.2 n (List.mem_append_left _ hn)⟩
   ·rename_i k
    rw[if_neg k]
    exact⟨h0.then (lgs_ident e _ ⟨d,hd,h _ (by simp[rPar])⟩) hm.1,fun n hn=>List.mem_append_left _ hn⟩
  ·rw[rPars,if_neg g];exact⟨Lgs.refl _ _,fun _ h=>h⟩
theorem lgs_many {e:PsE}{st:Ps→Pt × Ps}(hm:∀p,Mv e p (st p).2)(hs:∀p,Lgs p (st p).2 (st p).1.t):∀c ks p,Lgs p (rMany e st c ks p).2 (fl (rMany e st c ks p).1)∧∀x∈ks,x∈(rMany e st c ks p).1
 |0,_,p=>⟨Lgs.refl _ _,fun _ h=>h⟩
 |c+1,ks,p=>by
  rw[rMany]
  split
  ·have ih:=lgs_many hm hs c (ks++[(st p).1]) (st p).2
   exact⟨((hs p).mono fun d hd=>fl_mem (ih.2 _ (by simp)) hd).then ih.1 (mv_many e hm c _ _),fun x hx=>ih.2 x (List.mem_append_left _ hx)⟩
  ·exact⟨Lgs.refl _ _,fun _ h=>h⟩
theorem lgs_block {e:PsE}{st:Ps→Pt × Ps}(hm:∀p,Mv e p (st p).2)(hs:∀p,Lgs p (st p).2 (st p).1.t)(c:Nat)(p:Ps):Lgs p (rBlock e c st p).2 (rBlock e c st p).1.t:=by
 have h:=lgs_many hm hs c [] (e.want p (⟨#[123]⟩:ByteArray))
 show Lgs p (e.want (rMany e st c [] (e.want p (⟨#[123]⟩:ByteArray))).2 (⟨#[125]⟩:ByteArray)) _
 refine (((lgs_want e p _ _).then (h.1.mono fun d hd=>?_) (mv_many e hm c _ _)).then (lgs_want e _ _ _) (mv_want e _ _).1)
 show d∈(ptN _ _ _).t
 rw[ptN_t]
 exact List.mem_cons_of_mem _ hd
theorem lgs_if {e:PsE}(f:Nat){blk:Ps→Pt × Ps}(hm:∀p,Mv e p (blk p).2)(hs:∀p,Lgs p (blk p).2 (blk p).1.t):∀c pl p,Lgs p (rIf e f blk c pl p).2 (rIf e f blk c pl p).1.t
 |0,_,p=>Lgs.refl _ _
 |c+1,pl,p=>by
  have h0:=(lgs_expr e f).1 1 p
  rw[rIf]
  split
  ·rename_i h1
   split
   ·rename_i h2
    exact ((((h0.mono fun d hd=>pt_mem (by simp) hd).then ((hs _).mono fun d hd=>pt_mem (by simp) hd) (hm _)).then (lgs_on _ _) (mv_on (is_kind h1)).1).then (lgs_on _ _) (mv_on (is_kind h2)).1).then ((lgs_if f hm hs c _ _).mono fun d hd=>pt_mem (by simp) hd) (mv_if e f hm c _ _)
   ·exact (((h0.mono fun d hd=>pt_mem (by simp) hd).then ((hs _).mono fun d hd=>pt_mem (by simp) hd) (hm _)).then (lgs_on _ _) (mv_on (is_kind h1)).1).then ((hs _).mono fun d hd=>pt_mem (by simp) hd) (hm _)
  ·exact (h0.mono fun d hd=>pt_mem (by simp) hd).then ((hs _).mono fun d hd=>pt_mem (by simp) hd) (hm _)
theorem lgs_end {e:PsE}{n:Nd}{pl:Nat}{r:List Pt × Ps}{p:Ps}(h:Lgs p r.2 (ptN n pl r.1).t):Lgs p (rEnd e n pl r).2 (rEnd e n pl r).1.t:=h.then (lgs_want e _ _ _) (mv_want e _ _).1
theorem lgs_end_fl {e:PsE}{n:Nd}{pl:Nat}{r:List Pt × Ps}{p:Ps}(h:Lgs p r.2 (fl r.1)):Lgs p (rEnd e n pl r).2 (rEnd e n pl r).1.t:=lgs_end (h.mono fun d hd=>by rw[ptN_t];exact List.mem_cons_of_mem _ hd)
theorem lgs_flat (e:PsE)(f:Nat)(p:Ps):Lgs p (rFlat e f p).2 (rFlat e f p).1.t:=by
 have hE:=(lgs_expr e f).1 1
 have mE:=(mv_expr e f).1 1
 unfold rFlat
 by_cases c:e.is p ⟨#[108,101,116]⟩=true
 ·rw[if_pos c]
  refine lgs_end ?_
  exact (((lgs_on p _).then (lgs_ident e _ ⟨_,by rw[ptN_t];exact List.mem_cons_self,List.mem_singleton.mpr rfl⟩) (mv_ident e _).1).then (lgs_want e _ _ _) (mv_want e _ _).1).then ((hE _).mono fun d hd=>pt_mem (List.mem_singleton.mpr rfl) hd) (mE _)
 rw[if_neg c]
 clear c
 by_cases c:e.is p ⟨#[99,97,108,108]⟩=true
 ·rw[if_pos c]
  refine lgs_end ?_
  have hA:=(lgs_args e f e.T.length [] (e.want (e.ident p.on).2 (⟨#[40]⟩:ByteArray))).1
  have h1:Lgs p (e.want (rArgs e f e.T.length [] (e.want (e.ident p.on).2 (⟨#[40]⟩:ByteArray))).2 (⟨#[41]⟩:ByteArray)) (ptN { ndK 4 with names:=[(e.ident p.on).1] } (e.place p) (rArgs e f e.T.length [] (e.want (e.ident p.on).2 (⟨#[40]⟩:ByteArray))).1).t:=
   ((((lgs_on p _).then (lgs_ident e _ ⟨_,by rw[ptN_t];exact List.mem_cons_self,List.mem_singleton.mpr rfl⟩) (mv_ident e _).1).then (lgs_want e _ _ _) (mv_want e _ _).1).then (hA.mono fun d hd=>by rw[ptN_t];exact List.mem_cons_of_mem _ hd) (mv_args e f _ _ _)).then (lgs_want e _ _ _) (mv_want e _ _).1
  intro hb hl
  rw[Bool.or_eq_true]at hl
  rcases hl with hl|hl
  ·exact h1 hb hl
  ·refine .inr ⟨_,by rw[ptN_t];exact List.mem_cons_self,.inr (.inr (.inr ⟨rfl,?_⟩))⟩
   have:=of_decide_eq_true hl
   show (10:Int)<((rArgs e f e.T.length [] (e.want (e.ident p.on).2 (⟨#[40]⟩:ByteArray))).1.length:Int)
   omega
 rw[if_neg c]
 clear c
 by_cases c:e.is p ⟨#[103,114,105,100]⟩=true
 ·rw[if_pos c]
  exact lgs_end_fl ((lgs_on p _).then (lgs_cell e f _) (mv_cell e f _))
 rw[if_neg c]
 clear c
 by_cases c:e.is p ⟨#[119,97,108,108]⟩=true
 ·rw[if_pos c]
  exact lgs_end_fl ((lgs_on p _).then (lgs_area e f _) (mv_area e f _))
 rw[if_neg c]
 clear c
 by_cases c:e.is p ⟨#[111,112,101,110]⟩=true
 ·rw[if_pos c]
  exact lgs_end_fl ((lgs_on p _).then (lgs_area e f _) (mv_area e f _))
 rw[if_neg c]
 clear c
 by_cases c:e.is p ⟨#[108,97,110,101]⟩=true
 ·rw[if_pos c]
  exact lgs_end_fl (((lgs_on p _).then (lgs_area e f _) (mv_area e f _)).then (lgs_way e _ _) (mv_way e _))
 rw[if_neg c]
 clear c
 by_cases c:e.is p ⟨#[103,97,116,101]⟩=true
 ·rw[if_pos c]
  exact lgs_end_fl (((lgs_on p _).then (lgs_cell e f _) (mv_cell e f _)).then (lgs_way e _ _) (mv_way e _))
 rw[if_neg c]
 clear c
 by_cases c:e.is p ⟨#[98,97,114]⟩=true
 ·rw[if_pos c]
  exact lgs_end_fl (((lgs_on p _).then (lgs_cell e f _) (mv_cell e f _)).then (lgs_way e _ _) (mv_way e _))
 rw[if_neg c]
 clear c
 by_cases c:e.is p ⟨#[122,111,110,101]⟩=true
 ·rw[if_pos c]
  exact lgs_end_fl ((((lgs_on p _).then ((lgs_area e f _).mono fun d hd=>fl_sub (fun x hx=>List.mem_append_left _ hx) hd) (mv_area e f _)).then (lgs_want e _ _ _) (mv_want e _ _).1).then ((hE _).mono fun d hd=>fl_mem (List.mem_append_right _ (List.mem_singleton.mpr rfl)) hd) (mE _))
 rw[if_neg c]
 clear c
 by_cases c:(e.is p ⟨#[115,116,97,116,105,111,110]⟩||e.is p ⟨#[99,104,97,114,103,101,114]⟩)=true
 ·rw[if_pos c]
  exact lgs_end_fl ((((lgs_on p _).then ((hE _).mono fun d hd=>fl_mem List.mem_cons_self hd) (mE _)).then (lgs_want e _ _ _) (mv_want e _ _).1).then ((lgs_cell e f _).mono fun d hd=>fl_sub (fun x hx=>List.mem_cons_of_mem _ hx) hd) (mv_cell e f _))
 rw[if_neg c]
 refine lgs_end_fl ?_
 intro h
 exact absurd (show (e.wrong p).bad<0 from h) (by have:=wrong_bad e p;omega)
theorem lgs_stat (e:PsE)(f:Nat):∀m p,Lgs p (rS e f m p).2 (rS e f m p).1.t
 |0,p=>by rw[rS];exact Lgs.refl _ _
 |m+1,p=>by
  have hb:=lgs_block (mv_stat e f m) (lgs_stat e f m) e.T.length
  have mb:=mv_block e (mv_stat e f m) e.T.length
  have hE:=(lgs_expr e f).1 1
  have mE:=(mv_expr e f).1 1
  rw[rS]
  simp only
  split
  ·rename_i c
   exact (lgs_on p _).then (lgs_if f mb hb _ _ _) (mv_if e f mb _ _ _)
  split
  ·rename_i c
   exact (((((((lgs_on p _).then (lgs_ident e _ ⟨_,by rw[ptN_t];exact List.mem_cons_self,List.mem_singleton.mpr rfl⟩) (mv_ident e _).1).then (lgs_want e _ _ _) (mv_want e _ _).1).then ((hE _).mono fun d hd=>pt_mem (by simp) hd) (mE _)).then (lgs_want e _ _ _) (mv_want e _ _).1).then ((hE _).mono fun d hd=>pt_mem (by simp) hd) (mE _))).then ((hb _).mono fun d hd=>pt_mem (by simp) hd) (mb _)
  ·exact lgs_flat e f p
theorem lgs_mac (e:PsE)(f m pl:Nat)(p:Ps):Lgs p (rMac e f m pl p).2 (rMac e f m pl p).1.t:=by
 have hb:=lgs_block (mv_stat e f m) (lgs_stat e f m) e.T.length
 have mb:=mv_block e (mv_stat e f m) e.T.length
 unfold rMac
 simp only
 generalize hz:e.want (rPars e e.T.length [] [(e.ident p).1] (e.want (e.ident p).2 (⟨#[40]⟩:ByteArray))).2.2 (⟨#[41]⟩:ByteArray)=z
 generalize hu:rBlock e e.T.length (rS e f m) { z with long:=z.long||decide (10<(rPars e e.T.length [] [(e.ident p).1] (e.want (e.ident p).2 (⟨#[40]⟩:ByteArray))).1.length) } = u
 have hB:=hb { z with long:=z.long||decide (10<(rPars e e.T.length [] [(e.ident p).1] (e.want (e.ident p).2 (⟨#[40]⟩:ByteArray))).1.length) }
 have hM:=mb { z with long:=z.long||decide (10<(rPars e e.T.length [] [(e.ident p).1] (e.want (e.ident p).2 (⟨#[40]⟩:ByteArray))).1.length) }
 rw[hu]at hB hM
 have hP:=lgs_pars e { ndK 1 with names:=(rPars e e.T.length [] [(e.ident p).1] (e.want (e.ident p).2 (⟨#[40]⟩:ByteArray))).2.1,types:=(rPars e e.T.length [] [(e.ident p).1] (e.want (e.ident p).2 (⟨#[40]⟩:ByteArray))).1,count:=(([u.1]:List Pt).length:Int) } (ptN { ndK 1 with names:=(rPars e e.T.length [] [(e.ident p).1] (e.want (e.ident p).2 (⟨#[40]⟩:ByteArray))).2.1,types:=(rPars e e.T.length [] [(e.ident p).1] (e.want (e.ident p).2 (⟨#[40]⟩:ByteArray))).1 } pl [u.1]).t (by rw[ptN_t];exact List.mem_cons_self) e.T.length [] [(e.ident p).1] (e.want (e.ident p).2 (⟨#[40]⟩:ByteArray)) (fun n hn=>hn)
 have hN:=hP.2 _ (List.mem_singleton.mpr rfl)
 have h1:Lgs p z (ptN { ndK 1 with names:=(rPars e e.T.length [] [(e.ident p).1] (e.want (e.ident p).2 (⟨#[40]⟩:ByteArray))).2.1,types:=(rPars e e.T.length [] [(e.ident p).1] (e.want (e.ident p).2 (⟨#[40]⟩:ByteArray))).1 } pl [u.1]).t:=by
  rw[← hz]
  exact (((lgs_ident e p ⟨_,by rw[ptN_t];exact List.mem_cons_self,hN⟩).then (lgs_want e _ _ _) (mv_want e _ _).1).then hP.1 (mv_pars e _ _ _ _)).then (lgs_want e _ _ _) (mv_want e _ _).1
 refine Lgs.then (q:={ z with long:=z.long||decide (10<(rPars e e.T.length [] [(e.ident p).1] (e.want (e.ident p).2 (⟨#[40]⟩:ByteArray))).1.length) }) ?_ (hB.mono fun d hd=>pt_mem (List.mem_singleton.mpr rfl) hd) hM
 intro hb' hl
 rw[Bool.or_eq_true]at hl
 rcases hl with hl|hl
 ·exact h1 hb' hl
 ·exact .inr ⟨_,by rw[ptN_t];exact List.mem_cons_self,.inr (.inr (.inl (of_decide_eq_true hl)))⟩
theorem lgs_ms (e:PsE)(f m:Nat)(p:Ps):Lgs p (rMS e f m p).2 (rMS e f m p).1.t:=by
 unfold rMS
 split
 ·exact (lgs_on p _).then (lgs_mac e f m _ _) (mv_mac e f m _ _)
 ·exact lgs_stat e f m p
theorem mv_top (e:PsE)(f m:Nat):∀c ks p,Mv e p (rTop e f m c ks p).2
 |0,_,p=>Mv.refl _ _
 |c+1,ks,p=>by
  by_cases g:p.bad<0∧p.at_<e.T.length
  ·rw[rTop_ms g.1 g.2];exact (mv_ms e f m p).trans (mv_top e f m c _ _)
  ·rw[rTop_bad g];exact Mv.refl _ _
theorem lgs_top (e:PsE)(f m:Nat):∀c ks p,Lgs p (rTop e f m c ks p).2 (fl (rTop e f m c ks p).1)∧∀x∈ks,x∈(rTop e f m c ks p).1
 |0,_,p=>⟨Lgs.refl _ _,fun _ h=>h⟩
 |c+1,ks,p=>by
  by_cases g:p.bad<0∧p.at_<e.T.length
  ·rw[rTop_ms g.1 g.2]
   have ih:=lgs_top e f m c (ks++[(rMS e f m p).1]) (rMS e f m p).2
   exact⟨((lgs_ms e f m p).mono fun d hd=>fl_mem (ih.2 _ (by simp)) hd).then ih.1 (mv_top e f m c _ _),fun x hx=>ih.2 x (List.mem_append_left _ hx)⟩
  ·rw[rTop_bad g];exact⟨Lgs.refl _ _,fun _ h=>h⟩
theorem prog_long (s:ByteArray)(T:List (Nat × Nat × Nat))(hb:(rProg s T).2.bad<0)(hl:(rProg s T).2.long=true):vT (rProg s T).1.t=false:=by
 have h:=(lgs_top ⟨s,T⟩ (2*T.length+3) (T.length+1) (T.length+1) [] ⟨0, -1,false⟩).1 hb hl
 rcases h with h|⟨d,h1,h2⟩
 ·cases h
 ·exact vT_bn ⟨d,by show d∈(ptN _ _ _).t;rw[ptN_t];exact List.mem_cons_of_mem _ h1,h2⟩
end Go.Proofs.YtbiakdjpeblclaaGreatDoor
namespace Go.Proofs.YtbiakdjpeblclaaGreatDoor
open Go.RowKit
theorem psA_tok {s:ByteArray}(hK:(lexed s).2.1=0):psA s=if 0≤(rProg s (lexed s).1).2.bad then (([],[]),3,(rProg s (lexed s).1).2.bad) else if vT (rProg s (lexed s).1).1.t=false then (([],[]),4,0) else (((rProg s (lexed s).1).1.t,(rProg s (lexed s).1).1.p),0,0):=by
 unfold psA
 rw[if_neg (by omega)]
 by_cases hb:0≤(rProg s (lexed s).1).2.bad
 ·rw[if_pos hb,if_pos hb]
 rw[if_neg hb,if_neg hb]
 by_cases hv:vT (rProg s (lexed s).1).1.t=false
 ·rw[if_pos (.inr hv),if_pos hv]
 ·rw[if_neg hv,if_neg]
  rintro (q|q)
  ·exact hv (prog_long s _ (by omega) q)
  ·exact hv q
theorem prog_len (s:ByteArray)(T:List (Nat × Nat × Nat))(hT:T.length≤5000):(rProg s T).1.t.length≤50000:=by
 have hBT:=bd_top ⟨s,T⟩ (2*T.length+3) (T.length+1) (T.length+1) [] ⟨0, -1,false⟩ (fun x hx=>absurd hx (by simp))
 have hfl:=fi_le (e:=⟨s,T⟩) ⟨0, -1,false⟩
 rw[nsl_nil]at hBT
 have h1:=hBT.1
 simp only at hfl
 have h2:(rProg s T).1.t.length=nsl (rTop ⟨s,T⟩ (2*T.length+3) (T.length+1) (T.length+1) [] ⟨0, -1,false⟩).1+1:=by
  show (ptN (ndK 0) 0 _).t.length=_
  rw[ptN_len,Nat.add_comm]
 omega
theorem OdL.gw {P:Nat→Prop}{w w':World}{G:Nat→Prop}{M:List Nv}(h:OdL w G M)(hg:Gw P w w')(hp:∀k,P k→¬G k):OdL w' G M:=by
 obtain⟨Gs,d1,s1,e1⟩:=h
 exact⟨Gs,d1,s1,fun i m hm=>(e1 i m hm).gw hg (fun k hk q=>hp k hk (s1 i k q))⟩
theorem OdL.iv {w:World}{a:Nat}{M:List Nv}(h:OdL w (fun g=>a≤g) M):OdL w (Iv a w.heap.size) M:=by
 obtain⟨Gs,d1,s1,e1⟩:=h
 exact⟨fun j g=>Gs j g∧g<w.heap.size,fun i j g q x y=>d1 i j g q x.1 y.1,fun i g x=>⟨s1 i g x.1,x.2⟩,fun i m hm=>(e1 i m hm).mono (fun g x y=>⟨x,y⟩)⟩
theorem OdL.ok {w:World}{G:Nat→Prop}{M:List Nv}(h:OdL w G M):∀m∈M,m.Ok w G:=by
 obtain⟨Gs,d1,s1,e1⟩:=h
 intro m hm
 obtain⟨i,hi,hx⟩:=List.getElem_of_mem hm
 exact (e1 i m (by rw[List.getElem?_eq_getElem hi,hx])).ok.mono (fun g q _=>s1 i g q)
theorem Rs4.tp {w:World}{b:Nat}{tv pv:Value}{cd at_:Int}(h:Rs4 w b tv pv cd at_)(tv' pv':Value):Rs4 ((w.setCell ⟨b,0,none⟩ tv').setCell ⟨b+1,0,none⟩ pv') b tv' pv' cd at_∧Gw (fun k=>b≤k∧k≤b+3) w ((w.setCell ⟨b,0,none⟩ tv').setCell ⟨b+1,0,none⟩ pv'):=by
 refine⟨⟨(h.t.set 0 _).other 0 _ (by omega),(h.p.other 0 _ (by omega)).set 0 _,(h.c.other 0 _ (by omega)).other 0 _ (by omega),(h.a.other 0 _ (by omega)).other 0 _ (by omega)⟩,?_⟩
 exact ((Gw.set w b 0 _).mono (Q:=fun k=>b≤k∧k≤b+3) (fun j _ q=>by omega)).trans (Gw.set _ (b+1) 0 _) (fun j _ q=>by omega)
theorem Rs4.cells {w:World}{b:Nat}{tv pv:Value}{cd at_:Int}(h:Rs4 w b tv pv cd at_){b0 b1 b2 b3:Nat}(hb:b=b0∧b+1=b1∧b+2=b2∧b+3=b3):(w.cell? ⟨b0,0,none⟩=some tv∧w.cell? ⟨b1,0,none⟩=some pv∧w.cell? ⟨b2,0,none⟩=some (.int .i64 cd)∧w.cell? ⟨b3,0,none⟩=some (.int .i64 at_))∧w.frozen? ⟨b0,0,none⟩=false∧w.frozen? ⟨b1,0,none⟩=false∧w.frozen? ⟨b2,0,none⟩=false∧w.frozen? ⟨b3,0,none⟩=false:=by
 obtain⟨rfl,rfl,rfl,rfl⟩:=hb
 exact⟨⟨h.t.cell 0,h.p.cell 0,h.c.cell 0,h.a.cell 0⟩,h.t.frozen 0,h.p.frozen 0,h.c.frozen 0,h.a.frozen 0⟩
set_option maxHeartbeats 16000000 in
set_option maxRecDepth 1000000 in
theorem implParse_good (b off cap:Nat)(s:ByteArray)(w:World)(hT:TabQ w)(hET:w.cell? ⟨0,0,none⟩=some (.iface 121 (.agg #[.pointer (some ⟨13,56,none⟩)])))(hc:∀j,j<s.size→w.cell? ⟨b,off+j,none⟩=some (bts s j))(hK:(lexed s).2.1=0):
 Calls Tryz.prog 6 #[.slice (some ⟨b,off,none⟩) s.size cap] w (PiQ w (psA s)):=by
 have hmf:∀(fn:Fn) (first cap:Array Value) (w:World),(Instr.makeFunc fn first cap).run Tryz.prog w = .ok (.func fn first cap) w:=fun _ _ _ _=>rfl
 have HPS:=hide (psA_tok hK)
 have hs5:=lexed_short hK
 have hT5:=lexed_len s
 have HTI:=hide (lexed_in s)
 have HEO:Hid (EOk ⟨s,(lexed s).1⟩):=lexed_tkw s
 obtain⟨W0,hW0⟩:∃W,(((w.alloc (.cells #[.slice none 0 0] 23)).alloc (.cells #[.slice none 0 0] 24)).alloc (.cells #[.int .i64 0] 3)).alloc (.cells #[.int .i64 0] 3)=W:=⟨_,rfl⟩
 have hB0:Below w.heap.size w W0:=by rw[← hW0];exact ((((Below.refl _ _).alloc (Nat.le_refl _) _).alloc (by simp) _).alloc (by simp;omega) _).alloc (by simp;omega) _
 have HR0:Hid (Rs4 W0 w.heap.size (.slice none 0 0) (.slice none 0 0) 0 0):=by show Rs4 _ _ _ _ _ _;rw[← hW0];exact Rs4.start w
 have HB0:=hide hB0
 have hW0s:w.heap.size+3<W0.heap.size:=HR0.out.a.lt
 obtain⟨m,t1,t2,p1,p2,hlib⟩:=(hT.below hB0).lib
 have HL:=hide (implLex_any b off cap s W0 m t1 t2 p1 p2 hlib (fun j hj=>cell_kept (hc j hj) hB0))
 have HT:=hide hT
 have HC:=hide hc
 have HET:=hide hET
 obtain⟨PA,hPA⟩:∃x,psA s=x:=⟨_,rfl⟩
 rw[hPA]at HPS ⊢
 obtain⟨T,K,D,hLX⟩:∃T K D,lexed s=(T,K,D):=⟨_,_,_,rfl⟩
 rw[hLX]at HL hK HPS HTI HEO hT5
 simp only at hK HPS HTI HEO hT5
 subst hK
 clear hlib hc hLX hT hB0 hPA hET
 go_enter_defers Tryz.func6,Tryz.ntmps6
 go_wp2_with fail
 refine HL.out.mono ?_
 rintro r V ⟨v',rfl,ho,hb⟩
 obtain⟨va,vc,rfl⟩:=own_sl ho
 have hR:=HR0.out.kept hb
 have HBV:=hide (HB0.out.trans (hb.mono HB0.out.size))
 have HRV:=hide hR
 have q0:=hR.t.cell 0
 have q1:=hR.p.cell 0
 have q2:=hR.c.cell 0
 have q3:=hR.a.cell 0
 have f0:=hR.t.frozen 0
 have f1:=hR.p.frozen 0
 have f2:=hR.c.frozen 0
 have f3:=hR.a.frozen 0
 simp only[List.getElem?_toArray,List.getElem?_cons_zero]at q0 q1 q2 q3
 obtain⟨b1,hb1⟩:∃x,w.heap.size+1=x:=⟨_,rfl⟩
 obtain⟨b2,hb2⟩:∃x,w.heap.size+2=x:=⟨_,rfl⟩
 obtain⟨b3,hb3⟩:∃x,w.heap.size+3=x:=⟨_,rfl⟩
 have hb2':b1+1=b2:=by omega
 have hb3':b2+1=b3:=by omega
 rw[hb1]at q1 f1
 rw[hb2]at q2 f2
 rw[hb3]at q3 f3
 simp only[hb1,hb2',hb3']
 obtain⟨b0,hb0⟩:∃x,w.heap.size=x:=⟨_,rfl⟩
 rw[hb0]at q0 f0
 simp only[hb0]
 have n10:¬b1=b0:=by omega
 have n20:¬b2=b0:=by omega
 have n21:¬b2=b1:=by omega
 have n30:¬b3=b0:=by omega
 have n31:¬b3=b1:=by omega
 have n32:¬b3=b2:=by omega
 have n01:¬b0=b1:=by omega
 have n02:¬b0=b2:=by omega
 have n12:¬b1=b2:=by omega
 have n03:¬b0=b3:=by omega
 have n13:¬b1=b3:=by omega
 have n23:¬b2=b3:=by omega
 have HBB:Hid (w.heap.size=b0∧w.heap.size+1=b1∧w.heap.size+2=b2∧w.heap.size+3=b3):=⟨hb0,hb1,hb2,hb3⟩
 have hcv:∀(x y:Value),(convert 22 9 (.slice (some ⟨b,off,none⟩) s.size cap)).run Tryz.prog ((V.setCell ⟨b2,0,none⟩ x).setCell ⟨b3,0,none⟩ y) = .ok (.string s) ((V.setCell ⟨b2,0,none⟩ x).setCell ⟨b3,0,none⟩ y):=fun x y=>toStr_run s _ b off cap (fun j hj=>by
  have h0:=HC.out j hj
  have hl:b<w.heap.size:=World.block_lt_of_cell? _ _ h0
  have g1:Gw (fun k=>k=b2∨k=b3) V ((V.setCell ⟨b2,0,none⟩ x).setCell ⟨b3,0,none⟩ y):=((Gw.set V b2 0 x).mono (fun _ _ q=>.inl q)).trans (Gw.set _ b3 0 y) (fun _ _ q=>.inr q)
  exact g1.cell (cell_kept h0 HBV.out) (by show ¬(b=b2∨b=b3);omega))
 have HO:=hide ho
 have HVW:Hid (W0.heap.size≤V.heap.size):=hb.size
 clear hb hR ho HL HR0 HB0 hb0 hb1 hb2 hb3 hb2' hb3'
 go_wp2_with fail
 obtain⟨V1,hV1⟩:∃W,(V.setCell ⟨b2,0,none⟩ (.int .i64 0)).setCell ⟨b3,0,none⟩ (.int .i64 ((D:Nat):Int))=W:=⟨_,rfl⟩
 obtain⟨W3,hW3⟩:∃W,V1.alloc (.cells #[.string s,.slice va T.length vc,.int .i64 0] 61)=W:=⟨_,rfl⟩
 obtain⟨P,hP⟩:∃P,V.heap.size=P:=⟨_,rfl⟩
 rw[hV1,hW3,hP]
 have hV1s:V1.heap.size=P:=by rw[← hV1,← hP];simp
 have h12:Rs4 V1 w.heap.size (.slice none 0 0) (.slice none 0 0) 0 (D:Nat)∧Gw (fun k=>w.heap.size≤k∧k≤w.heap.size+3) V V1:=by
  have h:=HRV.out.two 0 (D:Nat)
  rw[HBB.out.2.2.1,HBB.out.2.2.2,hV1]at h
  rw[HBB.out.2.2.2]
  exact h
 have hbA:Below V1.heap.size V1 W3:=by rw[← hW3];exact (Below.refl _ _).alloc (Nat.le_refl _) _
 have hBV1:Below w.heap.size w V1:=h12.2.below HBV.out HBV.out.size (fun k hk q=>by omega)
 have hPw:w.heap.size+3<P:=by have:=HVW.out;omega
 have hto1:=h12.2.own HO.out (fun g q z=>by have:=(World.ownsRow.lt HO.out g q).1;omega)
 obtain⟨ta',tb,tc',et,htb,htc⟩:=RwG.of_own (G:=fun g=>w.heap.size≤g) hto1 (fun g hg=>by omega)
 injection et with et1 et2 et3
 subst et1 et3
 have hTC:TCells V1 tb T:=fun i hi=>by
  have h3:=tcv_at T i hi
  have cs:=htc (by show 0<T.length;omega)
  exact⟨cs _ _ h3.1,cs _ _ h3.2.1,cs _ _ h3.2.2⟩
 have hQS:QsW W3 ⟨P,none,0,0,0,va,tb,vc⟩ ⟨s,T⟩ 0:=by
  refine⟨?_,fun h=>⟨(htb h).1,?_⟩,fun i hi=>?_,fun i hi=>HTI.out i hi,hT5,hs5,Nat.zero_le _,V1,hV1s,?_,HT.out.below hBV1⟩
  ·have h:=Blk.new V1 61 #[.string s,.slice va T.length vc,.int .i64 0]
   rw[hV1s,hW3]at h
   exact h
  ·have:=World.block_lt_of_cell? _ _ (hTC 0 h).1
   rw[hV1s]at this
   exact this
  ·exact⟨cell_kept (hTC i hi).1 hbA,cell_kept (hTC i hi).2.1 hbA,cell_kept (hTC i hi).2.2 hbA⟩
  ·rw[← hV1s];exact hbA
 have HPG:=hide (qprog (e:=⟨s,T⟩) HEO.out hQS)
 have HR3:=hide (h12.1.kept hbA)
 have HBW3:=hide (hBV1.trans (hbA.mono hBV1.size))
 have hPW:P<W3.heap.size:=hQS.blk.lt
 have hplen:=prog_len s T hT5
 obtain⟨X,hX⟩:∃X,rProg s T=X:=⟨_,rfl⟩
 simp only[hX]at HPG HPS hplen
 clear hQS hTC htb htc hto1 hbA h12 hBV1 hV1 hW3 hP hV1s HO HRV HBV HEO HTI HC hcv q0 q1 q2 q3 f0 f1 f2 f3 hX
 refine HPG.out.mono ?_
 rintro r W4 ⟨hg4,⟨hbad,t,a,rfl,hpm⟩|⟨hbad,rfl⟩⟩
 ·have hR4:=HR3.out.keep hg4 (fun k hk=>.inl (by have hk':k=P:=hk;omega))
  have hB4:Below w.heap.size w W4:=hg4.below HBW3.out HBW3.out.size (fun k hk q=>by have q':k=P:=q;omega)
  have h34:W3.heap.size≤W4.heap.size:=hg4.size
  have HSP:=hide (spread_any hpm W4 (.slice none 0 0) (.slice none 0 0) [] [] (by simp only[List.length_nil];omega) (by simp only[List.length_nil];omega) (World.ownsRow_nil _ _ _ _) (World.ownsRow_nil _ _ _ _) (Below.refl _ _))
  have HR4:=hide hR4
  have HB4:=hide hB4
  have hpn:¬0≤X.2.bad:=by omega
  have HA:Hid (PA=if vT X.1.t=false then (([],[]),4,0) else ((X.1.t,X.1.p),0,0)):=by show _=_;rw[HPS.out,if_neg hpn]
  clear hR4 hB4 hg4 hpm HPG HPS HR3 HBW3
  go_wp2_with fail
  refine HSP.out.mono ?_
  rintro r W5 ⟨tv,pv,M,rfl,hMd,hOd,hto,hpo,hB5⟩
  rw[List.nil_append]at hto hpo
  obtain⟨tva,tvc,rfl⟩:=own_sl hto
  obtain⟨pva,pvc,rfl⟩:=own_sl hpo
  have hR5:=HR4.out.kept hB5
  have hBB:=HBB.out
  obtain⟨⟨q0,q1,q2,q3⟩,f0,f1,f2,f3⟩:=hR5.cells hBB
  have HR5:=hide hR5
  have HB5:=hide hB5
  have HTO:=hide hto
  have HPO:=hide hpo
  have HOD:=hide hOd.iv
  have HMD:=hide hMd
  clear hR5 hB5 hto hpo hOd hMd HSP HR4 hBB
  go_wp2_with fail
  obtain⟨W6,hW6⟩:∃W,(W5.setCell ⟨b0,0,none⟩ (.slice tva M.length tvc)).setCell ⟨b1,0,none⟩ (.slice pva X.1.p.length pvc)=W:=⟨_,rfl⟩
  rw[hW6]
  have h6:Rs4 W6 w.heap.size (.slice tva M.length tvc) (.slice pva X.1.p.length pvc) 0 (D:Nat)∧Gw (fun k=>w.heap.size≤k∧k≤w.heap.size+3) W5 W6:=by
   have h:=HR5.out.tp (.slice tva M.length tvc) (.slice pva X.1.p.length pvc)
   rw[← HBB.out.1,← HBB.out.2.1]at hW6
   rw[hW6]at h
   exact h
  have hto6:=h6.2.own HTO.out (fun g q z=>by have:=(World.ownsRow.lt HTO.out g q).1;omega)
  have hpo6:=h6.2.own HPO.out (fun g q z=>by have:=(World.ownsRow.lt HPO.out g q).1;omega)
  have hod6:=(HOD.out.gw (P:=fun _=>False) (Gw.of_below HB5.out) (fun _ q=>q.elim)).gw h6.2 (fun k hk q=>by have:=q.1;omega)
  have hB6:Below w.heap.size w W6:=h6.2.below (HB4.out.trans (HB5.out.mono HB4.out.size)) (by have:=HB4.out.size;have:=HB5.out.size;omega) (fun k hk q=>by omega)
  have hNG:NG W6 (fun g=>w.heap.size≤g) (.slice tva M.length tvc) X.1.t:=⟨M,HMD.out,RwG.of_own hto6 (fun g q=>by omega),fun m hm=>(hod6.ok m hm).mono (fun g q _=>by have:=q.1;show w.heap.size≤g;omega)⟩
  have hns:=hNG.ns
  obtain⟨_,_,_,_,_,hlib6⟩:=(HT.out.below hB6).lib
  have HV:=hide (implValid_any _ X.1.t W6 (by omega) hns.2 hns.1 hlib6.tabs)
  have HR6:=hide h6.1
  have HB6:=hide hB6
  have HT6:=hide hto6
  have HP6:=hide hpo6
  have HO6:=hide hod6
  have h46:W4.heap.size≤W6.heap.size:=by have:=HB5.out.size;have:=h6.2.size;omega
  have HMD2:=hide HMD.out
  clear h6 hto6 hpo6 hod6 hB6 hNG hns hlib6 hW6 HR5 HB5 HTO HPO HOD q0 q1 q2 q3 f0 f1 f2 f3 HMD
  refine HV.out.mono ?_
  rintro r W7 ⟨rfl,hb7⟩
  have hR7:=HR6.out.kept hb7
  obtain⟨⟨q0,q1,q2,q3⟩,f0,f1,f2,f3⟩:=hR7.cells HBB.out
  have HR7:=hide hR7
  have HB7:=hide hb7
  clear hR7 hb7 HV HR6
  cases hv:vT X.1.t with
  |false=>
   have hA:PA=(([],[]),4,0):=by rw[HA.out,if_pos hv]
   have HAA:=hide hA
   clear hA hv HA
   go_wp2
   obtain⟨rfl,rfl,rfl,rfl⟩:=HBB.out
   have h8:=HR7.out.set (.slice none 0 0) (.slice none 0 0) 4 0
   unfold set4r at h8
   refine leaves_cons (f:=23) (args:=#[.pointer (some ⟨w.heap.size,0,none⟩),.pointer (some ⟨w.heap.size+1,0,none⟩),.pointer (some ⟨w.heap.size+2,0,none⟩),.pointer (some ⟨w.heap.size+3,0,none⟩)]) (by simp) (by simp[go_sem]) ?_
   refine (catch_idle _ _ _ _ _).mono ?_
   rintro e u' W9 ⟨rfl,rfl,rfl⟩
   rw[HAA.out]
   have hbl:=fun W:World=>(Below.refl W.heap.size W).alloc (Nat.le_refl _) (.cells #[.int .i64 0] 54)
   have hB7:=HB6.out.trans (HB7.out.mono HB6.out.size)
   have hB8:=h8.2.below hB7 hB7.size (fun k hk q=>by omega)
   exact⟨_,(h8.1.kept (hbl _)).res _ rfl rfl rfl rfl,piq_nil (hB8.trans ((hbl _).mono hB8.size))⟩
  |true=>
   have hA:PA=((X.1.t,X.1.p),0,0):=by rw[HA.out,if_neg (by rw[hv];exact Bool.noConfusion)]
   have HAA:=hide hA
   have mixed:Tryz.prog.follows Departure.mixedOrders=true:=by kernel_rfl
   clear hA hv HA
   go_wp2_with fail
   go_region_o
   clear n10 n20 n21 n30 n31 n32 n01 n02 n12 n03 n13 n23 q0 q1 q2 q3 f0 f1 f2 f3
   go_wp2
   obtain⟨rfl,rfl,rfl,rfl⟩:=HBB.out
   have h8:=HR7.out.set (.slice tva M.length tvc) (.slice pva X.1.p.length pvc) 0 0
   unfold set4r at h8
   refine leaves_cons (f:=23) (args:=#[.pointer (some ⟨w.heap.size,0,none⟩),.pointer (some ⟨w.heap.size+1,0,none⟩),.pointer (some ⟨w.heap.size+2,0,none⟩),.pointer (some ⟨w.heap.size+3,0,none⟩)]) (by simp) (by simp[go_sem]) ?_
   refine (catch_idle _ _ _ _ _).mono ?_
   rintro e u' W9 ⟨rfl,rfl,rfl⟩
   rw[HAA.out]
   have hbl:=fun W:World=>((Below.refl W.heap.size W).drew).alloc (Nat.le_refl _) (.cells #[.int .i64 0] 54)
   have hB7:=HB6.out.trans (HB7.out.mono HB6.out.size)
   have hB8:=h8.2.below hB7 hB7.size (fun k hk q=>by omega)
   have hto8:=h8.2.own ((Gw.of_below (P:=fun _=>False) HB7.out).own HT6.out (fun _ _ q=>q.elim)) (fun g q z=>by have:=(World.ownsRow.lt HT6.out g q).1;omega)
   have hpo8:=h8.2.own ((Gw.of_below (P:=fun _=>False) HB7.out).own HP6.out (fun _ _ q=>q.elim)) (fun g q z=>by have:=(World.ownsRow.lt HP6.out g q).1;omega)
   have hod8:=(HO6.out.gw (P:=fun _=>False) (Gw.of_below HB7.out) (fun _ q=>q.elim)).gw h8.2 (fun k hk q=>by have:=q.1;omega)
   refine⟨_,(h8.1.kept (hbl _)).res _ rfl rfl rfl rfl,_,_,M,W4.heap.size,rfl,by omega,HMD2.out,?_,(Gw.of_below (P:=fun _=>False) (hbl _)).own hto8 (fun _ _ q=>q.elim),(Gw.of_below (P:=fun _=>False) (hbl _)).own hpo8 (fun _ _ q=>q.elim),hB8.trans ((hbl _).mono hB8.size)⟩
   exact (hod8.gw (P:=fun _=>False) (Gw.of_below (hbl _)) (fun _ q=>q.elim)).mono (fun g q=>⟨by have:=q.1;omega,q.2⟩)
 ·obtain⟨rfl,rfl,rfl,rfl⟩:=HBB.out
  have hR4:=HR3.out.keep hg4 (fun k hk=>.inl (by have hk':k=P:=hk;omega))
  have hB4:Below w.heap.size w W4:=hg4.below HBW3.out HBW3.out.size (fun k hk q=>by have q':k=P:=q;omega)
  have hA:PA=(([],[]),3,X.2.bad):=by rw[HPS.out,if_pos hbad]
  rw[hA]
  refine leaves_cons (f:=23) (args:=#[.pointer (some ⟨w.heap.size,0,none⟩),.pointer (some ⟨w.heap.size+1,0,none⟩),.pointer (some ⟨w.heap.size+2,0,none⟩),.pointer (some ⟨w.heap.size+3,0,none⟩)]) (by simp) (by simp[go_sem]) ?_
  refine (catch_fault X.2.bad W4 (cell_kept HET.out hB4) hR4).mono ?_
  rintro e u' W5 ⟨rfl,rfl,hR5,hG5⟩
  exact⟨_,hR5.res _ rfl rfl rfl rfl,piq_nil (hG5.below hB4 hB4.size (fun k hk q=>by omega))⟩
theorem implParse_any (b off cap:Nat)(s:ByteArray)(w:World)(hT:TabQ w)(hET:w.cell? ⟨0,0,none⟩=some (.iface 121 (.agg #[.pointer (some ⟨13,56,none⟩)])))(hc:∀j,j<s.size→w.cell? ⟨b,off+j,none⟩=some (bts s j)):
 Calls Tryz.prog 6 #[.slice (some ⟨b,off,none⟩) s.size cap] w (PiQ w (psA s)):=by
 by_cases hK:(lexed s).2.1=0
 ·exact implParse_good b off cap s w hT hET hc hK
 ·have h:=implParse_bad b off cap s w hT hc hK
  unfold psA
  rw[if_pos hK]
  exact h
end Go.Proofs.YtbiakdjpeblclaaGreatDoor
