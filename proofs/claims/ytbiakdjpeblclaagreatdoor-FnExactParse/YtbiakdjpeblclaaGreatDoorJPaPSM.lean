/-
  Plainly: the reader of trees only goes on, stops at the first fault, and takes a token with every part that it reads.
-/
import Derived.Test.YtbiakdjpeblclaaGreatDoorJPaMK
namespace Go.Proofs.YtbiakdjpeblclaaGreatDoor
structure Mv (e:PsE)(p q:Ps):Prop where
 le:p.at_≤q.at_
 top:p.at_≤e.T.length→q.at_≤e.T.length
 bad:0≤p.bad→q.bad=p.bad∧q.at_=p.at_
def Pg (p q:Ps):Prop:=0≤q.bad∨p.at_<q.at_
theorem Mv.refl (e:PsE)(p:Ps):Mv e p p:=⟨Nat.le_refl _,fun h=>h,fun _=>⟨rfl,rfl⟩⟩
theorem Mv.trans {e:PsE}{p q r:Ps}(h:Mv e p q)(k:Mv e q r):Mv e p r:=
 ⟨Nat.le_trans h.le k.le,fun g=>k.top (h.top g),fun g=>by
  have h1:=h.bad g
  have h2:=k.bad (by rw[h1.1];exact g)
  exact⟨h2.1.trans h1.1,h2.2.trans h1.2⟩⟩
theorem Pg.then {e:PsE}{p q r:Ps}(h:Pg p q)(k:Mv e q r):Pg p r:=by
 rcases h with h|h
 ·exact .inl (by rw[(k.bad h).1];exact h)
 ·exact .inr (Nat.lt_of_lt_of_le h k.le)
theorem Pg.after {e:PsE}{p q r:Ps}(h:Mv e p q)(k:Pg q r):Pg p r:=by
 rcases k with k|k
 ·exact .inl k
 ·exact .inr (Nat.lt_of_le_of_lt h.le k)
theorem kind_pos {e:PsE}{p:Ps}(h:e.kind p≠0):p.bad<0∧p.at_<e.T.length:=by
 unfold PsE.kind at h
 by_cases c:0≤p.bad∨e.T.length≤p.at_
 ·rw[if_pos c]at h;exact absurd rfl h
 ·omega
theorem is_kind {e:PsE}{p:Ps}{w:ByteArray}(h:e.is p w=true):e.kind p≠0:=by
 unfold PsE.is at h
 intro g
 rw[g]at h
 simp at h
theorem mv_on {e:PsE}{p:Ps}(h:e.kind p≠0):Mv e p p.on∧Pg p p.on:=by
 have k:=kind_pos h
 exact⟨⟨Nat.le_succ _,fun _=>by show p.at_+1≤_;omega,fun g=>by omega⟩,.inr (Nat.lt_succ_self _)⟩
theorem mv_wrong (e:PsE)(p:Ps):Mv e p (e.wrong p)∧Pg p (e.wrong p):=by
 unfold PsE.wrong
 by_cases c:p.bad<0
 ·rw[if_pos c]
  exact⟨⟨Nat.le_refl _,fun h=>h,fun g=>by omega⟩,.inl (by show (0:Int)≤(e.place p:Nat);omega)⟩
 ·rw[if_neg c]
  exact⟨Mv.refl _ _,.inl (by omega)⟩
theorem mv_want (e:PsE)(p:Ps)(w:ByteArray):Mv e p (e.want p w)∧Pg p (e.want p w):=by
 unfold PsE.want
 by_cases c:e.is p w=true
 ·rw[if_pos c];exact mv_on (is_kind c)
 ·rw[if_neg c];exact mv_wrong e p
theorem mv_long {e:PsE}{p q:Ps}(b:Bool)(h:Mv e p q):Mv e p { q with long:=b }:=⟨h.le,h.top,h.bad⟩
theorem pg_long {p q:Ps}(b:Bool)(h:Pg p q):Pg p { q with long:=b }:=h
theorem mv_ident (e:PsE)(p:Ps):Mv e p (e.ident p).2∧Pg p (e.ident p).2:=by
 unfold PsE.ident
 by_cases c:e.kind p=1
 ·rw[if_pos c]
  have h:=mv_on (e:=e) (p:=p) (by omega)
  exact⟨mv_long _ h.1,pg_long _ h.2⟩
 ·rw[if_neg c];exact mv_wrong e p
theorem mv_expr (e:PsE):∀f,(∀l p,Mv e p (rE e f l p).2)∧(∀l x p,Mv e p (rEl e f l x p).2)∧(∀p,Mv e p (rU e f p).2)
 |0=>⟨fun _ p=>by rw[rE];exact Mv.refl _ _,fun _ _ p=>by rw[rEl];exact Mv.refl _ _,fun p=>by rw[rU];exact Mv.refl _ _⟩
 |f+1=>by
  obtain⟨i1,i2,i3⟩:=mv_expr e f
  refine⟨fun l p=>?_,fun l x p=>?_,fun p=>?_⟩
  ·rw[rE];exact (i3 p).trans (i2 _ _ _)
  ·rw[rEl]
   by_cases c:e.kind p=5
   ·rw[if_pos c]
    by_cases d:opAt e p 14<0∨sgB.getD (opAt e p 14).toNat 0<l
    ·rw[if_pos d];exact Mv.refl _ _
    ·rw[if_neg d]
     exact ((mv_on (by omega)).1.trans (i1 _ _)).trans (i2 _ _ _)
   ·rw[if_neg c];exact Mv.refl _ _
  ·rw[rU]
   repeat' split
   ·rename_i c;exact (mv_on (is_kind c)).1.trans (i3 _)
   ·rename_i c;exact (mv_on (is_kind c)).1.trans (i3 _)
   ·rename_i c;exact ((mv_on (is_kind c)).1.trans (i1 _ _)).trans (mv_want _ _ _).1
   ·rename_i c;exact (mv_on (is_kind c)).1
   ·rename_i c;exact (mv_on (is_kind c)).1
   ·rename_i c;exact (mv_on (by omega)).1
   ·rename_i c;exact mv_long _ (mv_on (by omega)).1
   ·exact (mv_ident e p).1
theorem pg_unary (e:PsE)(f:Nat)(p:Ps):Pg p (rU e (f+1) p).2:=by
 obtain⟨i1,i2,i3⟩:=mv_expr e f
 rw[rU]
 repeat' split
 ·rename_i c;exact (mv_on (is_kind c)).2.then (i3 _)
 ·rename_i c;exact (mv_on (is_kind c)).2.then (i3 _)
 ·rename_i c;exact ((mv_on (is_kind c)).2.then (i1 _ _)).then (mv_want _ _ _).1
 ·rename_i c;exact (mv_on (is_kind c)).2
 ·rename_i c;exact (mv_on (is_kind c)).2
 ·rename_i c;exact (mv_on (e:=e) (by omega)).2
 ·rename_i c;exact pg_long _ (mv_on (e:=e) (by omega)).2
 ·exact (mv_ident e p).2
theorem pg_expr (e:PsE)(f l:Nat)(p:Ps):Pg p (rE e (f+2) l p).2:=by
 rw[rE]
 exact (pg_unary e f p).then ((mv_expr e (f+1)).2.1 _ _ _)
theorem mv_cell (e:PsE)(f:Nat)(p:Ps):Mv e p (rCell e f p).2:=((mv_expr e f).1 _ _ |>.trans (mv_want _ _ _).1).trans ((mv_expr e f).1 _ _)
theorem mv_area (e:PsE)(f:Nat)(p:Ps):Mv e p (rArea e f p).2:=by
 unfold rArea
 simp only
 by_cases c:e.is (rCell e f p).2 ⟨#[116,111]⟩=true
 ·rw[if_pos c];exact ((mv_cell e f p).trans (mv_on (is_kind c)).1).trans (mv_cell e f _)
 ·rw[if_neg c];exact mv_cell e f p
theorem mv_way (e:PsE)(p:Ps):Mv e p (rWay e p).2:=by
 unfold rWay
 repeat' split
 ·rename_i c;exact (mv_on (is_kind c)).1
 ·rename_i c;exact (mv_on (is_kind c)).1
 ·rename_i c;exact (mv_on (is_kind c)).1
 ·rename_i c;exact (mv_on (is_kind c)).1
 ·exact (mv_wrong e p).1
theorem mv_args (e:PsE)(f:Nat):∀c ks p,Mv e p (rArgs e f c ks p).2
 |0,_,p=>Mv.refl _ _
 |c+1,ks,p=>by
  rw[rArgs]
  split
  ·simp only
   split
   ·rename_i h;exact (((mv_expr e f).1 _ _).trans (mv_on (is_kind h)).1).trans (mv_args e f c _ _)
   ·exact (mv_expr e f).1 _ _
  ·exact Mv.refl _ _
theorem mv_pars (e:PsE):∀c ty ns p,Mv e p (rPars e c ty ns p).2.2
 |0,_,_,p=>Mv.refl _ _
 |c+1,ty,ns,p=>by
  rw[rPars]
  split
  ·have h1:Mv e p (if e.is p ⟨#[105,110,116]⟩ then ((0:Int),p.on) else (1,e.want p ⟨#[116,101,120,116]⟩)).2:=by
    split
    ·rename_i h;exact (mv_on (is_kind h)).1
    ·exact (mv_want _ _ _).1
   simp only
   generalize (if e.is p ⟨#[105,110,116]⟩ then ((0:Int),p.on) else (1,e.want p ⟨#[116,101,120,116]⟩))=q at h1 ⊢
   split
   ·rename_i h;exact ((h1.trans (mv_ident e _).1).trans (mv_on (is_kind h)).1).trans (mv_pars e c _ _ _)
   ·exact h1.trans (mv_ident e _).1
  ·exact Mv.refl _ _
theorem mv_many (e:PsE){st:Ps→Pt × Ps}(hs:∀p,Mv e p (st p).2):∀c ks p,Mv e p (rMany e st c ks p).2
 |0,_,p=>Mv.refl _ _
 |c+1,ks,p=>by
  rw[rMany]
  split
  ·exact (hs p).trans (mv_many e hs c _ _)
  ·exact Mv.refl _ _
theorem mv_block (e:PsE){st:Ps→Pt × Ps}(hs:∀p,Mv e p (st p).2)(c:Nat)(p:Ps):Mv e p (rBlock e c st p).2:=((mv_want _ _ _).1.trans (mv_many e hs c _ _)).trans (mv_want _ _ _).1
theorem mv_if (e:PsE)(f:Nat){blk:Ps→Pt × Ps}(hb:∀p,Mv e p (blk p).2):∀c pl p,Mv e p (rIf e f blk c pl p).2
 |0,_,p=>Mv.refl _ _
 |c+1,pl,p=>by
  have h0:=((mv_expr e f).1 1 p).trans (hb _)
  rw[rIf]
  split
  ·rename_i h1
   split
   ·rename_i h2;exact ((h0.trans (mv_on (is_kind h1)).1).trans (mv_on (is_kind h2)).1).trans (mv_if e f hb c _ _)
   ·exact (h0.trans (mv_on (is_kind h1)).1).trans (hb _)
  ·exact h0
theorem mv_end (e:PsE)(n:Nd)(pl:Nat){p:Ps}{r:List Pt × Ps}(h:Mv e p r.2):Mv e p (rEnd e n pl r).2:=h.trans (mv_want _ _ _).1
theorem pg_end (e:PsE)(n:Nd)(pl:Nat)(p:Ps)(r:List Pt × Ps)(h:Mv e p r.2):Pg p (rEnd e n pl r).2:=Pg.after h (mv_want _ _ _).2
theorem or_kind {e:PsE}{p:Ps}{u v:ByteArray}(c:(e.is p u||e.is p v)=true):e.kind p≠0:=by
 rw[Bool.or_eq_true]at c
 rcases c with c|c<;>exact is_kind c
theorem mv_flat (e:PsE)(f:Nat)(p:Ps):Mv e p (rFlat e f p).2∧Pg p (rFlat e f p).2:=by
 have key:∀(n:Nd) (pl:Nat) (r:List Pt × Ps),Mv e p r.2→Mv e p (rEnd e n pl r).2∧Pg p (rEnd e n pl r).2:=fun n pl r h=>⟨mv_end e n pl h,pg_end e n pl p r h⟩
 have hE:=(mv_expr e f).1
 unfold rFlat
 by_cases c:e.is p ⟨#[108,101,116]⟩=true
 ·rw[if_pos c];exact key _ _ _ ((((mv_on (is_kind c)).1.trans (mv_ident e _).1).trans (mv_want _ _ _).1).trans (hE _ _))
 rw[if_neg c]
 clear c
 by_cases c:e.is p ⟨#[99,97,108,108]⟩=true
 ·rw[if_pos c];exact key _ _ _ (mv_long _ (((((mv_on (is_kind c)).1.trans (mv_ident e _).1).trans (mv_want _ _ _).1).trans (mv_args e f _ _ _)).trans (mv_want _ _ _).1))
 rw[if_neg c]
 clear c
 by_cases c:e.is p ⟨#[103,114,105,100]⟩=true
 ·rw[if_pos c];exact key _ _ _ ((mv_on (is_kind c)).1.trans (mv_cell e f _))
 rw[if_neg c]
 clear c
 by_cases c:e.is p ⟨#[119,97,108,108]⟩=true
 ·rw[if_pos c];exact key _ _ _ ((mv_on (is_kind c)).1.trans (mv_area e f _))
 rw[if_neg c]
 clear c
 by_cases c:e.is p ⟨#[111,112,101,110]⟩=true
 ·rw[if_pos c];exact key _ _ _ ((mv_on (is_kind c)).1.trans (mv_area e f _))
 rw[if_neg c]
 clear c
 by_cases c:e.is p ⟨#[108,97,110,101]⟩=true
 ·rw[if_pos c];exact key _ _ _ (((mv_on (is_kind c)).1.trans (mv_area e f _)).trans (mv_way e _))
 rw[if_neg c]
 clear c
 by_cases c:e.is p ⟨#[103,97,116,101]⟩=true
 ·rw[if_pos c];exact key _ _ _ (((mv_on (is_kind c)).1.trans (mv_cell e f _)).trans (mv_way e _))
 rw[if_neg c]
 clear c
 by_cases c:e.is p ⟨#[98,97,114]⟩=true
 ·rw[if_pos c];exact key _ _ _ (((mv_on (is_kind c)).1.trans (mv_cell e f _)).trans (mv_way e _))
 rw[if_neg c]
 clear c
 by_cases c:e.is p ⟨#[122,111,110,101]⟩=true
 ·rw[if_pos c];exact key _ _ _ ((((mv_on (is_kind c)).1.trans (mv_area e f _)).trans (mv_want _ _ _).1).trans (hE _ _))
 rw[if_neg c]
 clear c
 by_cases c:(e.is p ⟨#[115,116,97,116,105,111,110]⟩||e.is p ⟨#[99,104,97,114,103,101,114]⟩)=true
 ·rw[if_pos c];exact key _ _ _ ((((mv_on (or_kind c)).1.trans (hE _ _)).trans (mv_want _ _ _).1).trans (mv_cell e f _))
 rw[if_neg c]
 exact key _ _ _ (mv_wrong e p).1
theorem mv_stat (e:PsE)(f:Nat):∀m p,Mv e p (rS e f m p).2
 |0,p=>Mv.refl _ _
 |m+1,p=>by
  have hs:=mv_stat e f m
  have hE:=(mv_expr e f).1
  rw[rS]
  simp only
  split
  ·rename_i c;exact (mv_on (is_kind c)).1.trans (mv_if e f (fun q=>mv_block e hs _ q) _ _ _)
  ·split
   ·rename_i c;exact ((((((mv_on (is_kind c)).1.trans (mv_ident e _).1).trans (mv_want _ _ _).1).trans (hE _ _)).trans (mv_want _ _ _).1).trans (hE _ _)).trans (mv_block e hs _ _)
   ·exact (mv_flat e f p).1
theorem pg_stat (e:PsE)(f m:Nat)(p:Ps):Pg p (rS e f (m+1) p).2:=by
 have hs:=mv_stat e f m
 have hE:=(mv_expr e f).1
 rw[rS]
 simp only
 split
 ·rename_i c;exact (mv_on (is_kind c)).2.then (mv_if e f (fun q=>mv_block e hs _ q) _ _ _)
 ·split
  ·rename_i c;exact (mv_on (is_kind c)).2.then ((((((mv_ident e _).1.trans (mv_want _ _ _).1).trans (hE _ _)).trans (mv_want _ _ _).1).trans (hE _ _)).trans (mv_block e hs _ _))
  ·exact (mv_flat e f p).2
theorem mv_mac (e:PsE)(f m pl:Nat)(p:Ps):Mv e p (rMac e f m pl p).2:=by
 unfold rMac
 simp only
 exact (((mv_ident e p).1.trans (mv_want _ _ _).1).trans (mv_pars e _ _ _ _)).trans ((mv_long _ (mv_want _ _ _).1).trans (mv_block e (mv_stat e f m) _ _))
def fi (e:PsE)(p:Ps):Nat:=4*(e.T.length - p.at_)+(if p.bad<0 then 4 else 0)
def nu (p:Ps):Nat:=if p.bad<0 then 0 else 1
theorem fi_mv {e:PsE}{p q:Ps}(h:Mv e p q):fi e q≤fi e p:=by
 have h1:=h.le
 unfold fi
 by_cases c:p.bad<0
 ·rw[if_pos c];split<;>omega
 ·have h2:=h.bad (by omega)
  rw[if_neg c,if_neg (by omega)];omega
theorem fi_on {e:PsE}{p:Ps}(h:e.kind p≠0):fi e p.on+4=fi e p:=by
 have k:=kind_pos h
 unfold fi
 show 4*(e.T.length - (p.at_+1))+(if p.bad<0 then 4 else 0)+4=_
 omega
theorem fi_wrong (e:PsE)(p:Ps):fi e (e.wrong p)+4≤fi e p+4*nu p:=by
 unfold PsE.wrong
 by_cases c:p.bad<0
 ·rw[if_pos c]
  unfold fi nu
  rw[if_pos c,if_neg (by show ¬((e.place p:Nat):Int)<0;omega),if_pos c]
  show 4*(e.T.length - p.at_)+0+4≤_
  omega
 ·rw[if_neg c];unfold nu;rw[if_neg c];omega
theorem fi_long (e:PsE)(p:Ps)(b:Bool):fi e { p with long:=b } = fi e p:=rfl
structure Bd (e:PsE)(k:Nat)(p:Ps)(r:Pt × Ps):Prop where
 len:r.1.t.length+fi e r.2≤fi e p+k
 same:r.1.p.length=r.1.t.length
def nsl (ks:List Pt):Nat:=(ks.map fun x=>x.t.length).sum
structure Bds (e:PsE)(k:Nat)(p:Ps)(r:List Pt × Ps):Prop where
 len:nsl r.1+fi e r.2≤fi e p+k
 same:∀x∈r.1,x.p.length=x.t.length
theorem ptN_len (n:Nd)(pl:Nat)(ks:List Pt):(ptN n pl ks).t.length=1+nsl ks:=by
 show ({ n with count:=(ks.length:Int) }::(ks.map Pt.t).flatten).length=_
 rw[List.length_cons,List.length_flatten,List.map_map]
 unfold nsl
 rw[Nat.add_comm]
 rfl
theorem ptN_same (n:Nd)(pl:Nat){ks:List Pt}(h:∀x∈ks,x.p.length=x.t.length):(ptN n pl ks).p.length=(ptN n pl ks).t.length:=by
 rw[ptN_len]
 show (pl::(ks.map Pt.p).flatten).length=_
 rw[List.length_cons,List.length_flatten,List.map_map]
 unfold nsl
 rw[Nat.add_comm]
 congr 2
 exact List.map_congr_left fun x hx=>h x hx
theorem nsl_app (a b:List Pt):nsl (a++b)=nsl a+nsl b:=by unfold nsl;rw[List.map_append,List.sum_append]
theorem nsl_one (x:Pt):nsl [x]=x.t.length:=by unfold nsl;simp
theorem nsl_two (x y:Pt):nsl [x,y]=x.t.length+y.t.length:=by unfold nsl;simp
theorem nsl_three (x y z:Pt):nsl [x,y,z]=x.t.length+y.t.length+z.t.length:=by unfold nsl;simp;omega
theorem nsl_nil : nsl []=0:=rfl
theorem bd_leaf (e:PsE)(n:Nd)(pl:Nat){p q:Ps}{k:Nat}(h:fi e q+1≤fi e p+k):Bd e k p (ptN n pl [],q):=⟨by show (ptN n pl []).t.length+_≤_;rw[ptN_len,nsl_nil];simp only;omega,ptN_same n pl (fun x hx=>absurd hx (by simp))⟩
theorem bd_ident (e:PsE)(p:Ps):fi e (e.ident p).2+1≤fi e p+1:=by have:=fi_mv (mv_ident e p).1;omega
theorem bd_expr (e:PsE):∀f,(∀l p,Bd e 1 p (rE e f l p))∧(∀l x p,x.p.length=x.t.length→(rEl e f l x p).1.t.length+fi e (rEl e f l x p).2≤fi e p+x.t.length∧(rEl e f l x p).1.p.length=(rEl e f l x p).1.t.length)∧(∀p,Bd e 1 p (rU e f p))
 |0=>⟨fun _ p=>by rw[rE];exact⟨by show 0+fi e p≤_;omega,rfl⟩,fun _ _ p h=>by rw[rEl];exact⟨by simp only;omega,h⟩,fun p=>by rw[rU];exact⟨by show 0+fi e p≤_;omega,rfl⟩⟩
 |f+1=>by
  obtain⟨i1,i2,i3⟩:=bd_expr e f
  refine⟨fun l p=>?_,fun l x p hx=>?_,fun p=>?_⟩
  ·rw[rE]
   have h1:=i3 p
   have h2:=i2 l (rU e f p).1 (rU e f p).2 h1.same
   have h3:=h1.len
   exact⟨by omega,h2.2⟩
  ·rw[rEl]
   by_cases c:e.kind p=5
   ·rw[if_pos c]
    by_cases d:opAt e p 14<0∨sgB.getD (opAt e p 14).toNat 0<l
    ·rw[if_pos d];exact⟨by simp only;omega,hx⟩
    ·rw[if_neg d]
     have h1:=i1 (sgB.getD (opAt e p 14).toNat 0+1) p.on
     generalize rE e f (sgB.getD (opAt e p 14).toNat 0+1) p.on=r at h1 ⊢
     have h0:=fi_on (e:=e) (p:=p) (by omega)
     have hs:=ptN_same { ndK 20 with n:=opAt e p 14 } (e.place p) (ks:=[x,r.1]) (fun y hy=>by
      simp only[List.mem_cons,List.not_mem_nil,or_false]at hy
      rcases hy with rfl|rfl
      ·exact hx
      ·exact h1.same)
     have h2:=i2 l _ r.2 hs
     rw[ptN_len,nsl_two]at h2
     have h3:=h1.len
     exact⟨by omega,h2.2⟩
   ·rw[if_neg c];exact⟨by simp only;omega,hx⟩
  ·have un:∀n,e.kind p≠0→Bd e 1 p (ptN n (e.place p) [(rU e f p.on).1],(rU e f p.on).2):=fun n c=>by
    have h1:=i3 p.on
    have h0:=fi_on c
    have h2:=h1.len
    exact⟨by show (ptN n _ _).t.length+_≤_;rw[ptN_len,nsl_one];show 1+(rU e f p.on).1.t.length+fi e (rU e f p.on).2≤_;omega,ptN_same _ _ (fun y hy=>by rw[List.mem_singleton.1 hy];exact h1.same)⟩
   rw[rU]
   repeat' split
   ·rename_i c;exact un _ (is_kind c)
   ·rename_i c;exact un _ (is_kind c)
   ·rename_i c
    have h1:=i1 1 p.on
    have h0:=fi_on (is_kind c)
    have h2:=fi_mv (mv_want e (rE e f 1 p.on).2 ⟨#[41]⟩).1
    have h3:=h1.len
    exact⟨by show (rE e f 1 p.on).1.t.length+fi e (e.want _ _)≤_;omega,h1.same⟩
   ·rename_i c;exact bd_leaf e _ _ (by have:=fi_on (is_kind c);omega)
   ·rename_i c;exact bd_leaf e _ _ (by have:=fi_on (is_kind c);omega)
   ·rename_i c;exact bd_leaf e _ _ (by have:=fi_on (e:=e) (p:=p) (by omega);omega)
   ·rename_i c;exact bd_leaf e _ _ (by have:=fi_on (e:=e) (p:=p) (by omega);rw[fi_long];omega)
   ·exact bd_leaf e _ _ (bd_ident e p)
theorem bd_cell (e:PsE)(f:Nat)(p:Ps):Bds e 2 p (rCell e f p):=by
 have h1:=(bd_expr e f).1 1 p
 have h2:=(bd_expr e f).1 1 (e.want (rE e f 1 p).2 (⟨#[44]⟩:ByteArray))
 have h3:=fi_mv (mv_want e (rE e f 1 p).2 ⟨#[44]⟩).1
 have h4:=h1.len
 have h5:=h2.len
 unfold rCell
 simp only
 refine⟨?_,fun x hx=>?_⟩
 ·show nsl [_,_]+fi e _≤_;rw[nsl_two];simp only;omega
 ·simp only[List.mem_cons,List.not_mem_nil,or_false]at hx
  rcases hx with rfl|rfl
  ·exact h1.same
  ·exact h2.same
theorem bd_area (e:PsE)(f:Nat)(p:Ps):Bds e 2 p (rArea e f p):=by
 have h1:=bd_cell e f p
 unfold rArea
 simp only
 by_cases c:e.is (rCell e f p).2 ⟨#[116,111]⟩=true
 ·rw[if_pos c]
  have h2:=bd_cell e f (rCell e f p).2.on
  have h3:=fi_on (is_kind c)
  have h4:=h1.len
  have h5:=h2.len
  refine⟨?_,fun x hx=>?_⟩
  ·show nsl (_++_)+fi e _≤_;rw[nsl_app];simp only;omega
  ·rcases List.mem_append.1 hx with h|h
   ·exact h1.same x h
   ·exact h2.same x h
 ·rw[if_neg c];exact h1
theorem bd_args (e:PsE)(f:Nat):∀c ks p,(∀x∈ks,x.p.length=x.t.length)→nsl (rArgs e f c ks p).1+fi e (rArgs e f c ks p).2≤fi e p+nsl ks+1∧(∀x∈(rArgs e f c ks p).1,x.p.length=x.t.length)∧(rArgs e f c ks p).1.length≤ks.length+c
 |0,ks,p,h=>⟨by show nsl ks+fi e p≤_;omega,h,Nat.le_refl _⟩
 |c+1,ks,p,h=>by
  rw[rArgs]
  split
  ·simp only
   have h1:=(bd_expr e f).1 1 p
   generalize rE e f 1 p=r at h1 ⊢
   have h2:=h1.len
   have hs:∀x∈ks++[r.1],x.p.length=x.t.length:=fun x hx=>by
    rcases List.mem_append.1 hx with g|g
    ·exact h x g
    ·rw[List.mem_singleton.1 g];exact h1.same
   split
   ·rename_i g
    have h3:=bd_args e f c (ks++[r.1]) r.2.on hs
    have h4:=fi_on (is_kind g)
    rw[nsl_app,nsl_one,List.length_append,List.length_singleton]at h3
    exact⟨by omega,h3.2.1,by omega⟩
   ·exact⟨by show nsl (ks++[r.1])+fi e r.2≤_;rw[nsl_app,nsl_one];omega,hs,by show (ks++[r.1]).length≤_;rw[List.length_append,List.length_singleton];omega⟩
  ·exact⟨by show nsl ks+fi e p≤_;omega,h,by show ks.length≤_;omega⟩
theorem bd_many (e:PsE){st:Ps→Pt × Ps}(hs:∀p,Bd e (nu p) p (st p)):∀c ks p,(∀x∈ks,x.p.length=x.t.length)→nsl (rMany e st c ks p).1+fi e (rMany e st c ks p).2≤fi e p+nsl ks∧(∀x∈(rMany e st c ks p).1,x.p.length=x.t.length)∧(rMany e st c ks p).1.length≤ks.length+c
 |0,ks,p,h=>⟨by show nsl ks+fi e p≤_;omega,h,Nat.le_refl _⟩
 |c+1,ks,p,h=>by
  rw[rMany]
  split
  ·rename_i g
   have h1:=hs p
   have h2:=h1.len
   have h0:nu p=0:=by unfold nu;rw[if_pos g.1]
   have h3:=bd_many e hs c (ks++[(st p).1]) (st p).2 (fun x hx=>by
    rcases List.mem_append.1 hx with g|g
    ·exact h x g
    ·rw[List.mem_singleton.1 g];exact h1.same)
   rw[nsl_app,nsl_one,List.length_append,List.length_singleton]at h3
   exact⟨by omega,h3.2.1,by omega⟩
  ·exact⟨by show nsl ks+fi e p≤_;omega,h,by show ks.length≤_;omega⟩
theorem bd_block (e:PsE){st:Ps→Pt × Ps}(hs:∀p,Bd e (nu p) p (st p))(c:Nat)(p:Ps):Bd e 1 p (rBlock e c st p):=by
 have h1:=bd_many e hs c [] (e.want p (⟨#[123]⟩:ByteArray)) (fun x hx=>absurd hx (by simp))
 have h2:=fi_mv (mv_want e p ⟨#[123]⟩).1
 have h3:=fi_mv (mv_want e (rMany e st c [] (e.want p (⟨#[123]⟩:ByteArray))).2 ⟨#[125]⟩).1
 rw[nsl_nil]at h1
 unfold rBlock
 simp only
 exact⟨by show (ptN _ _ _).t.length+fi e _≤_;rw[ptN_len];simp only;omega,ptN_same _ _ h1.2.1⟩
theorem bd_if (e:PsE)(f:Nat){blk:Ps→Pt × Ps}(hb:∀p,Bd e 1 p (blk p)):∀c pl p,Bd e 3 p (rIf e f blk c pl p)
 |0,_,p=>⟨by show 0+fi e p≤_;omega,rfl⟩
 |c+1,pl,p=>by
  have h1:=(bd_expr e f).1 1 p
  have h2:=hb (rE e f 1 p).2
  have l1:=h1.len
  have l2:=h2.len
  rw[rIf]
  split
  ·rename_i g
   have f1:=fi_on (is_kind g)
   split
   ·rename_i g2
    have f2:=fi_on (is_kind g2)
    have h3:=bd_if e f hb c (e.place (blk (rE e f 1 p).2).2.on) (blk (rE e f 1 p).2).2.on.on
    have l3:=h3.len
    refine⟨?_,ptN_same _ _ (fun x hx=>?_)⟩
    ·show (ptN _ _ _).t.length+fi e _≤_;rw[ptN_len,nsl_three];simp only;omega
    ·simp only[List.mem_cons,List.not_mem_nil,or_false]at hx
     rcases hx with rfl|rfl|rfl
     ·exact h1.same
     ·exact h2.same
     ·exact h3.same
   ·have h3:=hb (blk (rE e f 1 p).2).2.on
    have l3:=h3.len
    refine⟨?_,ptN_same _ _ (fun x hx=>?_)⟩
    ·show (ptN _ _ _).t.length+fi e _≤_;rw[ptN_len,nsl_three];simp only;omega
    ·simp only[List.mem_cons,List.not_mem_nil,or_false]at hx
     rcases hx with rfl|rfl|rfl
     ·exact h1.same
     ·exact h2.same
     ·exact h3.same
  ·refine⟨?_,ptN_same _ _ (fun x hx=>?_)⟩
   ·show (ptN _ _ _).t.length+fi e _≤_;rw[ptN_len,nsl_two];simp only;omega
   ·simp only[List.mem_cons,List.not_mem_nil,or_false]at hx
    rcases hx with rfl|rfl
    ·exact h1.same
    ·exact h2.same
theorem bd_end (e:PsE)(n:Nd)(pl:Nat){p:Ps}{r:List Pt × Ps}{k:Nat}(h:Bds e k p r):Bd e (k+1) p (rEnd e n pl r):=by
 have h1:=fi_mv (mv_want e r.2 ⟨#[59]⟩).1
 have h2:=h.len
 unfold rEnd
 exact⟨by show (ptN _ _ _).t.length+fi e _≤_;rw[ptN_len];simp only;omega,ptN_same _ _ h.same⟩
theorem Bd.up {e:PsE}{k k':Nat}{p p':Ps}{r:Pt × Ps}(h:Bd e k p' r)(hk:fi e p'+k≤fi e p+k'):Bd e k' p r:=⟨by have:=h.len;omega,h.same⟩
theorem Bds.up {e:PsE}{k k':Nat}{p p':Ps}{r:List Pt × Ps}(h:Bds e k p' r)(hk:fi e p'+k≤fi e p+k'):Bds e k' p r:=⟨by have:=h.len;omega,h.same⟩
theorem Bds.then {e:PsE}{k:Nat}{p q:Ps}{l:List Pt}{p':Ps}(h:Bds e k p (l,p'))(m:Mv e p' q):Bds e k p (l,q):=⟨by have:=h.len;have:=fi_mv m;simp only at *;omega,h.same⟩
theorem Bds.snoc {e:PsE}{k:Nat}{p q:Ps}{l:List Pt}{p':Ps}{x:Pt}(h:Bds e k p (l,p'))(m:Bd e 1 p' (x,q)):Bds e (k+1) p (l++[x],q):=by
 have h1:=h.len
 have h2:=m.len
 refine⟨?_,fun y hy=>?_⟩
 ·simp only at *;rw[nsl_app,nsl_one];omega
 ·rcases List.mem_append.1 hy with g|g
  ·exact h.same y g
  ·rw[List.mem_singleton.1 g];exact m.same
theorem Bds.nil (e:PsE)(p:Ps):Bds e 0 p ([],p):=⟨by simp only;rw[nsl_nil];omega,fun x hx=>absurd hx (by simp)⟩
theorem Bds.app {e:PsE}{k m:Nat}{p q:Ps}{l l':List Pt}{p':Ps}(h:Bds e k p (l,p'))(g:Bds e m p' (l',q)):Bds e (k+m) p (l++l',q):=by
 have h1:=h.len
 have h2:=g.len
 refine⟨?_,fun y hy=>?_⟩
 ·simp only at *;rw[nsl_app];omega
 ·rcases List.mem_append.1 hy with j|j
  ·exact h.same y j
  ·exact g.same y j
theorem bd_flat (e:PsE)(f:Nat)(p:Ps):Bd e (nu p) p (rFlat e f p):=by
 have hE:=(bd_expr e f).1
 have up:∀ {k:Nat} {r:Pt × Ps},k≤4→e.kind p≠0→Bd e k p.on r→Bd e (nu p) p r:=fun {k r} hk c h=>h.up (by have:=fi_on c;omega)
 unfold rFlat
 by_cases c:e.is p ⟨#[108,101,116]⟩=true
 ·rw[if_pos c]
  refine up (by omega) (is_kind c) (bd_end e _ _ (k:=1) ?_)
  exact ((Bds.nil e _).then ((mv_ident e p.on).1.trans (mv_want _ _ _).1)).snoc (hE _ _)
 rw[if_neg c]
 clear c
 by_cases c:e.is p ⟨#[99,97,108,108]⟩=true
 ·rw[if_pos c]
  refine up (by omega) (is_kind c) (bd_end e _ _ (k:=1) ?_)
  have h1:=bd_args e f e.T.length [] (e.want (e.ident p.on).2 (⟨#[40]⟩:ByteArray)) (fun x hx=>absurd hx (by simp))
  have h2:=fi_mv ((mv_ident e p.on).1.trans (mv_want e _ ⟨#[40]⟩).1)
  rw[nsl_nil]at h1
  have h3:Bds e 1 p.on (rArgs e f e.T.length [] (e.want (e.ident p.on).2 (⟨#[40]⟩:ByteArray))):=⟨by omega,h1.2.1⟩
  exact h3.then (mv_long _ (mv_want _ _ _).1)
 rw[if_neg c]
 clear c
 by_cases c:e.is p ⟨#[103,114,105,100]⟩=true
 ·rw[if_pos c];exact up (by omega) (is_kind c) (bd_end e _ _ (bd_cell e f _))
 rw[if_neg c]
 clear c
 by_cases c:e.is p ⟨#[119,97,108,108]⟩=true
 ·rw[if_pos c];exact up (by omega) (is_kind c) (bd_end e _ _ (bd_area e f _))
 rw[if_neg c]
 clear c
 by_cases c:e.is p ⟨#[111,112,101,110]⟩=true
 ·rw[if_pos c];exact up (by omega) (is_kind c) (bd_end e _ _ (bd_area e f _))
 rw[if_neg c]
 clear c
 by_cases c:e.is p ⟨#[108,97,110,101]⟩=true
 ·rw[if_pos c];exact up (by omega) (is_kind c) (bd_end e _ _ ((bd_area e f _).then (mv_way e _)))
 rw[if_neg c]
 clear c
 by_cases c:e.is p ⟨#[103,97,116,101]⟩=true
 ·rw[if_pos c];exact up (by omega) (is_kind c) (bd_end e _ _ ((bd_cell e f _).then (mv_way e _)))
 rw[if_neg c]
 clear c
 by_cases c:e.is p ⟨#[98,97,114]⟩=true
 ·rw[if_pos c];exact up (by omega) (is_kind c) (bd_end e _ _ ((bd_cell e f _).then (mv_way e _)))
 rw[if_neg c]
 clear c
 by_cases c:e.is p ⟨#[122,111,110,101]⟩=true
 ·rw[if_pos c];exact up (by omega) (is_kind c) (bd_end e _ _ (((bd_area e f _).then (mv_want _ _ _).1).snoc (hE _ _)))
 rw[if_neg c]
 clear c
 by_cases c:(e.is p ⟨#[115,116,97,116,105,111,110]⟩||e.is p ⟨#[99,104,97,114,103,101,114]⟩)=true
 ·rw[if_pos c]
  refine up (by omega) (or_kind c) (bd_end e _ _ (k:=3) ?_)
  have h1:Bds e 1 p.on ([(rE e f 1 p.on).1],(rE e f 1 p.on).2):=(Bds.nil e _).snoc (hE _ _)
  exact (h1.then (mv_want _ _ _).1).app (bd_cell e f _)
 rw[if_neg c]
 have h:=fi_wrong e p
 refine (bd_end e (ndK 0) (e.place p) (Bds.nil e (e.wrong p))).up (by
  unfold nu at h ⊢
  split at h
  ·rw[if_pos (by assumption)];omega
  ·rw[if_neg (by assumption)];omega)
theorem bd_stat (e:PsE)(f:Nat):∀m p,Bd e (nu p) p (rS e f m p)
 |0,p=>⟨by show 0+fi e p≤_;omega,rfl⟩
 |m+1,p=>by
  have hb:=fun q=>bd_block e (bd_stat e f m) e.T.length q
  have hE:=(bd_expr e f).1
  rw[rS]
  simp only
  split
  ·rename_i c
   exact (bd_if e f hb e.T.length (e.place p) p.on).up (by have:=fi_on (is_kind c);omega)
  ·split
   ·rename_i c
    have h0:=fi_on (is_kind c)
    have h1:=(Bds.nil e p.on).then ((mv_ident e p.on).1.trans (mv_want e _ ⟨#[61]⟩).1)
    have h2:=((h1.snoc (hE 1 _)).then (mv_want e _ ⟨#[116,111]⟩).1).snoc (hE 1 _)
    have h3:=h2.snoc (hb _)
    have h5:∀ {ks:List Pt} {q:Ps} (n:Nd),Bds e 3 p.on (ks,q)→Bd e (nu p) p (ptN n (e.place p) ks,q):=fun {ks q} n h=>by
     have h4:=h.len
     exact⟨by show (ptN _ _ _).t.length+fi e q≤_;rw[ptN_len];simp only at h4;omega,ptN_same _ _ h.same⟩
    exact h5 _ h3
   ·exact bd_flat e f p
theorem bd_mac (e:PsE)(f m pl:Nat)(p:Ps):Bd e 2 p (rMac e f m pl p):=by
 have h1:=((mv_ident e p).1.trans (mv_want e _ ⟨#[40]⟩).1).trans (mv_pars e e.T.length [] [(e.ident p).1] _)
 have h2:=fi_mv (h1.trans (mv_want e _ ⟨#[41]⟩).1)
 have key:∀(q:Ps) (n:Nd),fi e q≤fi e p→Bd e 2 p (ptN n pl [(rBlock e e.T.length (rS e f m) q).1],(rBlock e e.T.length (rS e f m) q).2):=fun q n hq=>by
  have h3:=bd_block e (bd_stat e f m) e.T.length q
  have h4:=h3.len
  exact⟨by show (ptN _ _ _).t.length+fi e _≤_;rw[ptN_len,nsl_one];simp only;omega,ptN_same _ _ (fun x hx=>by rw[List.mem_singleton.1 hx];exact h3.same)⟩
 exact key _ _ h2
theorem bd_top (e:PsE)(f m:Nat):∀c ks p,(∀x∈ks,x.p.length=x.t.length)→nsl (rTop e f m c ks p).1+fi e (rTop e f m c ks p).2≤fi e p+nsl ks∧(∀x∈(rTop e f m c ks p).1,x.p.length=x.t.length)∧(rTop e f m c ks p).1.length≤ks.length+c
 |0,ks,p,h=>⟨by show nsl ks+fi e p≤_;omega,h,Nat.le_refl _⟩
 |c+1,ks,p,h=>by
  rw[rTop]
  have step:∀r:Pt × Ps,Bd e 0 p r→nsl (rTop e f m c (ks++[r.1]) r.2).1+fi e (rTop e f m c (ks++[r.1]) r.2).2≤fi e p+nsl ks∧(∀x∈(rTop e f m c (ks++[r.1]) r.2).1,x.p.length=x.t.length)∧(rTop e f m c (ks++[r.1]) r.2).1.length≤ks.length+(c+1):=fun r hr=>by
   have h3:=bd_top e f m c (ks++[r.1]) r.2 (fun x hx=>by
    rcases List.mem_append.1 hx with g|g
    ·exact h x g
    ·rw[List.mem_singleton.1 g];exact hr.same)
   rw[nsl_app,nsl_one,List.length_append,List.length_singleton]at h3
   have:=hr.len
   exact⟨by omega,h3.2.1,by omega⟩
  split
  ·rename_i g
   split
   ·rename_i c
    exact step _ ((bd_mac e f m (e.place p) p.on).up (by have:=fi_on (is_kind c);omega))
   ·have h0:nu p=0:=by unfold nu;rw[if_pos g.1]
    exact step _ (h0 ▸ bd_stat e f m p)
  ·exact⟨by show nsl ks+fi e p≤_;omega,h,by show ks.length≤_;omega⟩
theorem fi_le {e:PsE}(p:Ps):fi e p≤4*e.T.length+4:=by unfold fi;split<;>omega
end Go.Proofs.YtbiakdjpeblclaaGreatDoor
