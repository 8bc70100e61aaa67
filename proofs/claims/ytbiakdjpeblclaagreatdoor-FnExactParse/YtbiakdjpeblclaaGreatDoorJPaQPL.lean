/-
  Plainly: lists as the program's own reader takes them (up to a closing text, with something between two elements or nothing), against the specification's.
-/
import Derived.Test.YtbiakdjpeblclaaGreatDoorJPaPSA
import Derived.Test.YtbiakdjpeblclaaGreatDoorJPaC
namespace Go.Proofs.YtbiakdjpeblclaaGreatDoor
def rLq (e:PsE)(btw:ByteArray)(n:Nat)(p:Ps):Ps:=if btw.size≠0∧n≠0 then e.want p btw else p
theorem rLq_no (e:PsE)(n:Nat)(p:Ps):rLq e ⟨#[]⟩ n p=p:=by unfold rLq;exact if_neg (fun q=>q.1 rfl)
theorem rLq_first (e:PsE)(b:ByteArray)(p:Ps):rLq e b 0 p=p:=by unfold rLq;exact if_neg (fun q=>q.2 rfl)
theorem rLq_yes (e:PsE){b:ByteArray}(hb:b.size≠0){n:Nat}(hn:n≠0)(p:Ps):rLq e b n p=e.want p b:=by unfold rLq;exact if_pos ⟨hb,hn⟩
def rL {α:Type}(e:PsE)(st:Ps→α × Ps)(btw cl:ByteArray):Nat→List α→Ps→List α × Ps
 |0,ks,p=>(ks,p)
 |c+1,ks,p=>
  if e.txt p.at_=cl then (ks,p.on)
  else
   if 0≤(rLq e btw ks.length p).bad then (ks,rLq e btw ks.length p)
   else if 0≤(st (rLq e btw ks.length p)).2.bad then (ks,(st (rLq e btw ks.length p)).2)
   else rL e st btw cl c (ks++[(st (rLq e btw ks.length p)).1]) (st (rLq e btw ks.length p)).2
def Sm {α:Type}(B:List α × Ps)(A:List α)(z:Ps):Prop:=(z.bad<0→B=(A,z))∧(0≤z.bad→B.2.bad=z.bad)
theorem want_yes {e:PsE}{p:Ps}{w:ByteArray}(h:e.is p w=true):e.want p w=p.on:=by unfold PsE.want;rw[if_pos h];rfl
theorem want_no {e:PsE}{p:Ps}{w:ByteArray}(h:e.is p w=false)(hp:p.bad<0):(e.want p w).bad=(e.place p:Nat):=by unfold PsE.want PsE.wrong;rw[if_neg (by rw[h];exact Bool.false_ne_true),if_pos hp]
theorem want_bad {e:PsE}{p:Ps}(w:ByteArray)(hp:0≤p.bad):(e.want p w).bad=p.bad:=((mv_want e p w).1.bad hp).1
theorem is_bad {e:PsE}{p:Ps}(w:ByteArray)(hp:0≤p.bad):e.is p w=false:=by
 cases h:e.is p w with
 |false=>rfl
 |true=>exact absurd (kind_pos (is_kind h)).1 (by omega)
theorem on_bad (p:Ps):p.on.bad=p.bad:=rfl
theorem on_at (p:Ps):p.on.at_=p.at_+1:=rfl
theorem rL_args2 {e:PsE}(hE:EOk e)(f:Nat):∀d c ks p,p.bad<0→p.at_≤e.T.length→e.T.length<p.at_+d→e.T.length≤p.at_+c→ks.length≠0→
 Sm (rL e (rE e (f+2) 1) (⟨#[44]⟩:ByteArray) (⟨#[41]⟩:ByteArray) d ks p) (if e.is p (⟨#[44]⟩:ByteArray)=true then rArgs e (f+2) c ks p.on else (ks,p)).1 (e.want (if e.is p (⟨#[44]⟩:ByteArray)=true then rArgs e (f+2) c ks p.on else (ks,p)).2 (⟨#[41]⟩:ByteArray))
 |0,_,_,p,_,hl,hd,_,_=>absurd hd (by omega)
 |d+1,c,ks,p,hp,hl,hd,hc,hk=>by
  have i1:=hE.is hp (w:=⟨#[44]⟩) (by decide +kernel)
  have i2:=hE.is hp (w:=⟨#[41]⟩) (by decide +kernel)
  rw[rL]
  by_cases h2:e.txt p.at_ = ⟨#[41]⟩
  ·have h1:e.is p ⟨#[44]⟩=false:=by rw[i1,h2];decide
   have h2':e.is p ⟨#[41]⟩=true:=by rw[i2,h2];decide
   rw[if_pos h2,h1,if_neg Bool.false_ne_true,want_yes h2']
   exact⟨fun _=>rfl,fun q=>rfl⟩
  rw[if_neg h2]
  have h2':e.is p ⟨#[41]⟩=false:=by rw[i2];exact decide_eq_false h2
  rw[rLq_yes e (by decide) hk]
  by_cases h1:e.is p ⟨#[44]⟩=true
  ·rw[if_pos h1,want_yes h1,if_neg (by rw[on_bad];omega)]
   have hlt:=(kind_pos (is_kind h1)).2
   cases c with
   |zero=>omega
   |succ c=>
    have hA:rArgs e (f+2) (c+1) ks p.on=if e.is (rE e (f+2) 1 p.on).2 (⟨#[44]⟩:ByteArray)=true then rArgs e (f+2) c (ks++[(rE e (f+2) 1 p.on).1]) (rE e (f+2) 1 p.on).2.on else (ks++[(rE e (f+2) 1 p.on).1],(rE e (f+2) 1 p.on).2):=by
     rw[rArgs,if_pos ⟨by rw[on_bad];exact hp,fun q=>hk q.1⟩]
    rw[hA]
    have hm:=(mv_expr e (f+2)).1 1 p.on
    have hg:=pg_expr e f 1 p.on
    by_cases hb:0≤(rE e (f+2) 1 p.on).2.bad
    ·rw[if_pos hb,is_bad _ hb,if_neg Bool.false_ne_true]
     exact⟨fun q=>by rw[want_bad _ hb]at q;omega,fun _=>(want_bad _ hb).symm⟩
    ·rw[if_neg hb]
     have hge:p.on.at_<(rE e (f+2) 1 p.on).2.at_:=by
      rcases hg with g|g
      ·exact absurd g hb
      ·exact g
     rw[on_at]at hge
     have ht:=hm.top (by rw[on_at];omega)
     exact rL_args2 hE f d c _ _ (by omega) ht (by omega) (by omega) (by rw[List.length_append,List.length_singleton];omega)
  ·have h1':e.is p ⟨#[44]⟩=false:=by cases hq:e.is p ⟨#[44]⟩ with|false=>rfl|true=>exact absurd hq h1
   have w1:=want_no (e:=e) h1' hp
   have w2:=want_no (e:=e) h2' hp
   rw[if_neg h1,if_pos (by rw[w1];omega)]
   exact⟨fun q=>by simp only[w2]at q;omega,fun _=>by show (e.want p ⟨#[44]⟩).bad=_;rw[w1,w2]⟩
theorem rL_args {e:PsE}(hE:EOk e)(f d c:Nat)(p:Ps)(hp:p.bad<0)(hl:p.at_≤e.T.length)(hd:e.T.length<p.at_+d)(hc:e.T.length<p.at_+c):
 Sm (rL e (rE e (f+2) 1) (⟨#[44]⟩:ByteArray) (⟨#[41]⟩:ByteArray) d [] p) (rArgs e (f+2) c [] p).1 (e.want (rArgs e (f+2) c [] p).2 (⟨#[41]⟩:ByteArray)):=by
 obtain⟨d,rfl⟩:∃k,d=k+1:=⟨d - 1,by omega⟩
 obtain⟨c,rfl⟩:∃k,c=k+1:=⟨c - 1,by omega⟩
 have i2:=hE.is hp (w:=⟨#[41]⟩) (by decide +kernel)
 rw[rL]
 by_cases h2:e.txt p.at_ = ⟨#[41]⟩
 ·have h2':e.is p ⟨#[41]⟩=true:=by rw[i2,h2];decide
  have hA:rArgs e (f+2) (c+1) [] p=([],p):=by rw[rArgs,if_neg (fun q=>q.2 ⟨rfl,h2'⟩)]
  rw[if_pos h2,hA,want_yes h2']
  exact⟨fun _=>rfl,fun _=>rfl⟩
 have h2':e.is p ⟨#[41]⟩=false:=by rw[i2];exact decide_eq_false h2
 have hA:rArgs e (f+2) (c+1) [] p=if e.is (rE e (f+2) 1 p).2 (⟨#[44]⟩:ByteArray)=true then rArgs e (f+2) c ([]++[(rE e (f+2) 1 p).1]) (rE e (f+2) 1 p).2.on else ([]++[(rE e (f+2) 1 p).1],(rE e (f+2) 1 p).2):=by
  rw[rArgs,if_pos ⟨hp,fun q=>by rw[h2']at q;cases q.2⟩]
 rw[if_neg h2,hA]
 rw[List.length_nil,rLq_first,if_neg (by omega)]
 have hm:=(mv_expr e (f+2)).1 1 p
 have hg:=pg_expr e f 1 p
 by_cases hb:0≤(rE e (f+2) 1 p).2.bad
 ·rw[if_pos hb,is_bad _ hb,if_neg Bool.false_ne_true]
  exact⟨fun q=>by rw[want_bad _ hb]at q;omega,fun _=>(want_bad _ hb).symm⟩
 ·rw[if_neg hb]
  have hge:p.at_<(rE e (f+2) 1 p).2.at_:=by
   rcases hg with g|g
   ·exact absurd g hb
   ·exact g
  have ht:=hm.top hl
  exact rL_args2 hE f d c _ _ (by omega) ht (by omega) (by omega) (by simp)
theorem rL_many {e:PsE}(hE:EOk e){st:Ps→Pt × Ps}(hm:∀p,Mv e p (st p).2)(hg:∀p,Pg p (st p).2):∀d c ks p,p.bad<0→p.at_≤e.T.length→e.T.length<p.at_+d→e.T.length<p.at_+c→
 Sm (rL e st (⟨#[]⟩:ByteArray) (⟨#[125]⟩:ByteArray) d ks p) (rMany e st c ks p).1 (e.want (rMany e st c ks p).2 (⟨#[125]⟩:ByteArray))
 |0,_,_,p,_,hl,hd,_=>absurd hd (by omega)
 |d+1,0,_,p,_,hl,hd,hc=>absurd hc (by omega)
 |d+1,c+1,ks,p,hp,hl,hd,hc=>by
  have i2:=hE.is hp (w:=⟨#[125]⟩) (by decide +kernel)
  rw[rL]
  by_cases h2:e.txt p.at_ = ⟨#[125]⟩
  ·have h2':e.is p ⟨#[125]⟩=true:=by rw[i2,h2];decide
   have hA:rMany e st (c+1) ks p=(ks,p):=by rw[rMany,if_neg (fun q=>q.2 h2')]
   rw[if_pos h2,hA,want_yes h2']
   exact⟨fun _=>rfl,fun _=>rfl⟩
  have h2':e.is p ⟨#[125]⟩=false:=by rw[i2];exact decide_eq_false h2
  have hA:rMany e st (c+1) ks p=rMany e st c (ks++[(st p).1]) (st p).2:=by rw[rMany,if_pos ⟨hp,by rw[h2'];exact Bool.false_ne_true⟩]
  rw[if_neg h2,hA,rLq_no,if_neg (by omega)]
  by_cases hb:0≤(st p).2.bad
  ·rw[if_pos hb]
   have:rMany e st c (ks++[(st p).1]) (st p).2=(ks++[(st p).1],(st p).2):=by
    cases c with
    |zero=>rfl
    |succ c=>rw[rMany,if_neg (fun q=>by have:=q.1;omega)]
   rw[this]
   exact⟨fun q=>by simp only at q;rw[want_bad _ hb]at q;omega,fun _=>(want_bad _ hb).symm⟩
  ·rw[if_neg hb]
   have hge:p.at_<(st p).2.at_:=by
    rcases hg p with g|g
    ·exact absurd g hb
    ·exact g
   exact rL_many hE hm hg d c _ _ (by omega) ((hm p).top hl) (by omega) (by omega)
def rMS (e:PsE)(f m:Nat)(p:Ps):Pt × Ps:=if e.is p (⟨#[109,97,99,114,111]⟩:ByteArray)=true then rMac e f m (e.place p) p.on else rS e f m p
theorem mv_ms (e:PsE)(f m:Nat)(p:Ps):Mv e p (rMS e f m p).2:=by
 unfold rMS
 split
 ·rename_i h;exact (mv_on (is_kind h)).1.trans (mv_mac e f m _ _)
 ·exact mv_stat e f m p
theorem pg_ms (e:PsE)(f m:Nat)(p:Ps):Pg p (rMS e f (m+1) p).2:=by
 unfold rMS
 split
 ·rename_i h;exact (mv_on (is_kind h)).2.then (mv_mac e f _ _ _)
 ·exact pg_stat e f m p
theorem rTop_ms {e:PsE}{f m c:Nat}{ks:List Pt}{p:Ps}(hp:p.bad<0)(hl:p.at_<e.T.length):rTop e f m (c+1) ks p=rTop e f m c (ks++[(rMS e f m p).1]) (rMS e f m p).2:=by
 rw[rTop,if_pos ⟨hp,hl⟩]
 unfold rMS
 split<;>rfl
theorem rTop_bad {e:PsE}{f m c:Nat}{ks:List Pt}{p:Ps}(hp:¬(p.bad<0∧p.at_<e.T.length)):rTop e f m c ks p=(ks,p):=by
 cases c with
 |zero=>rfl
 |succ c=>rw[rTop,if_neg hp]
theorem rL_top {e:PsE}(hE:EOk e)(f m:Nat):∀d c ks p,p.bad<0→p.at_≤e.T.length→e.T.length<p.at_+d→e.T.length<p.at_+c→
 ((rTop e f (m+1) c ks p).2.bad<0→rL e (rMS e f (m+1)) (⟨#[]⟩:ByteArray) (⟨#[]⟩:ByteArray) d ks p=((rTop e f (m+1) c ks p).1,(rTop e f (m+1) c ks p).2.on))∧(0≤(rTop e f (m+1) c ks p).2.bad→(rL e (rMS e f (m+1)) (⟨#[]⟩:ByteArray) (⟨#[]⟩:ByteArray) d ks p).2.bad=(rTop e f (m+1) c ks p).2.bad)
 |0,_,_,p,_,hl,hd,_=>absurd hd (by omega)
 |d+1,0,_,p,_,hl,hd,hc=>absurd hc (by omega)
 |d+1,c+1,ks,p,hp,hl,hd,hc=>by
  rw[rL]
  by_cases h2:e.txt p.at_ = ⟨#[]⟩
  ·rw[if_pos h2,rTop_bad (fun q=>(hE.end_ p.at_).mp h2 q.2)]
   exact⟨fun _=>rfl,fun _=>rfl⟩
  have hlt:p.at_<e.T.length:=by
   by_cases q:p.at_<e.T.length
   ·exact q
   ·exact absurd ((hE.end_ p.at_).mpr q) h2
  rw[if_neg h2,rTop_ms hp hlt,rLq_no,if_neg (by omega)]
  by_cases hb:0≤(rMS e f (m+1) p).2.bad
  ·rw[if_pos hb,rTop_bad (fun q=>by have:=q.1;omega)]
   exact⟨fun q=>by simp only at q;omega,fun _=>rfl⟩
  ·rw[if_neg hb]
   have hge:p.at_<(rMS e f (m+1) p).2.at_:=by
    rcases pg_ms e f m p with g|g
    ·exact absurd g hb
    ·exact g
   exact rL_top hE f m d c _ _ (by omega) ((mv_ms e f (m+1) p).top hl) (by omega) (by omega)
def rPty (e:PsE)(p:Ps):Int × Ps:=if e.is p (⟨#[105,110,116]⟩:ByteArray)=true then (0,p.on) else ((1:Int),e.want p (⟨#[116,101,120,116]⟩:ByteArray))
def rPar (e:PsE)(p:Ps):(Int × ByteArray) × Ps:=(((rPty e p).1,(e.ident (rPty e p).2).1),(e.ident (rPty e p).2).2)
theorem mv_pty (e:PsE)(p:Ps):Mv e p (rPty e p).2∧Pg p (rPty e p).2:=by
 unfold rPty
 split
 ·rename_i h;exact mv_on (is_kind h)
 ·exact mv_want _ _ _
theorem mv_par (e:PsE)(p:Ps):Mv e p (rPar e p).2∧Pg p (rPar e p).2:=⟨(mv_pty e p).1.trans (mv_ident e _).1,(mv_pty e p).2.then (mv_ident e _).1⟩
theorem rPars_on {e:PsE}{c:Nat}{ty:List Int}{ns:List ByteArray}{p:Ps}(hp:p.bad<0)(h:¬(ty.length=0∧e.is p (⟨#[41]⟩:ByteArray)=true)):rPars e (c+1) ty ns p=if e.is (rPar e p).2 (⟨#[44]⟩:ByteArray)=true then rPars e c (ty++[(rPar e p).1.1]) (ns++[(rPar e p).1.2]) (rPar e p).2.on else (ty++[(rPar e p).1.1],ns++[(rPar e p).1.2],(rPar e p).2):=by
 rw[rPars,if_pos ⟨hp,h⟩]
 rfl
def SmP (B:List (Int × ByteArray) × Ps)(A:List Int × List ByteArray × Ps)(n0:ByteArray)(z:Ps):Prop:=(z.bad<0→A.1=B.1.map Prod.fst∧A.2.1=n0::B.1.map Prod.snd∧B.2=z)∧(0≤z.bad→B.2.bad=z.bad)
theorem rL_pars2 {e:PsE}(hE:EOk e)(n0:ByteArray):∀d c (ks:List (Int × ByteArray)) p,p.bad<0→p.at_≤e.T.length→e.T.length<p.at_+d→e.T.length≤p.at_+c→ks.length≠0→
 SmP (rL e (rPar e) (⟨#[44]⟩:ByteArray) (⟨#[41]⟩:ByteArray) d ks p) (if e.is p (⟨#[44]⟩:ByteArray)=true then rPars e c (ks.map Prod.fst) (n0::ks.map Prod.snd) p.on else (ks.map Prod.fst,n0::ks.map Prod.snd,p)) n0 (e.want (if e.is p (⟨#[44]⟩:ByteArray)=true then rPars e c (ks.map Prod.fst) (n0::ks.map Prod.snd) p.on else (ks.map Prod.fst,n0::ks.map Prod.snd,p)).2.2 (⟨#[41]⟩:ByteArray))
 |0,_,_,p,_,hl,hd,_,_=>absurd hd (by omega)
 |d+1,c,ks,p,hp,hl,hd,hc,hk=>by
  have i1:=hE.is hp (w:=⟨#[44]⟩) (by decide +kernel)
  have i2:=hE.is hp (w:=⟨#[41]⟩) (by decide +kernel)
  rw[rL]
  by_cases h2:e.txt p.at_ = ⟨#[41]⟩
  ·have h1:e.is p ⟨#[44]⟩=false:=by rw[i1,h2];decide
   have h2':e.is p ⟨#[41]⟩=true:=by rw[i2,h2];decide
   rw[if_pos h2,h1,if_neg Bool.false_ne_true,want_yes h2']
   exact⟨fun _=>⟨rfl,rfl,rfl⟩,fun q=>rfl⟩
  rw[if_neg h2]
  have h2':e.is p ⟨#[41]⟩=false:=by rw[i2];exact decide_eq_false h2
  rw[rLq_yes e (by decide) hk]
  by_cases h1:e.is p ⟨#[44]⟩=true
  ·rw[if_pos h1,want_yes h1,if_neg (by rw[on_bad];omega)]
   have hlt:=(kind_pos (is_kind h1)).2
   cases c with
   |zero=>omega
   |succ c=>
    rw[rPars_on (by rw[on_bad];exact hp) (fun q=>hk (by have:=q.1;rw[List.length_map]at this;exact this))]
    have hm:=mv_par e p.on
    by_cases hb:0≤(rPar e p.on).2.bad
    ·rw[if_pos hb,is_bad _ hb,if_neg Bool.false_ne_true]
     exact⟨fun q=>by rw[want_bad _ hb]at q;omega,fun _=>(want_bad _ hb).symm⟩
    ·rw[if_neg hb]
     have hge:p.on.at_<(rPar e p.on).2.at_:=by
      rcases hm.2 with g|g
      ·exact absurd g hb
      ·exact g
     rw[on_at]at hge
     have ht:=hm.1.top (by rw[on_at];omega)
     have ih:=rL_pars2 hE n0 d c (ks++[(rPar e p.on).1]) _ (by omega) ht (by omega) (by omega) (by rw[List.length_append,List.length_singleton];omega)
     rw[List.map_append,List.map_append,List.map_singleton,List.map_singleton]at ih
     exact ih
  ·have h1':e.is p ⟨#[44]⟩=false:=by cases hq:e.is p ⟨#[44]⟩ with|false=>rfl|true=>exact absurd hq h1
   have w1:=want_no (e:=e) h1' hp
   have w2:=want_no (e:=e) h2' hp
   rw[if_neg h1,if_pos (by rw[w1];omega)]
   exact⟨fun q=>by simp only[w2]at q;omega,fun _=>by show (e.want p ⟨#[44]⟩).bad=_;rw[w1,w2]⟩
theorem rL_pars {e:PsE}(hE:EOk e)(n0:ByteArray)(d c:Nat)(p:Ps)(hp:p.bad<0)(hl:p.at_≤e.T.length)(hd:e.T.length<p.at_+d)(hc:e.T.length<p.at_+c):
 SmP (rL e (rPar e) (⟨#[44]⟩:ByteArray) (⟨#[41]⟩:ByteArray) d [] p) (rPars e c [] [n0] p) n0 (e.want (rPars e c [] [n0] p).2.2 (⟨#[41]⟩:ByteArray)):=by
 obtain⟨d,rfl⟩:∃k,d=k+1:=⟨d - 1,by omega⟩
 obtain⟨c,rfl⟩:∃k,c=k+1:=⟨c - 1,by omega⟩
 have i2:=hE.is hp (w:=⟨#[41]⟩) (by decide +kernel)
 rw[rL]
 by_cases h2:e.txt p.at_ = ⟨#[41]⟩
 ·have h2':e.is p ⟨#[41]⟩=true:=by rw[i2,h2];decide
  have hA:rPars e (c+1) [] [n0] p=([],[n0],p):=by rw[rPars,if_neg (fun q=>q.2 ⟨rfl,h2'⟩)]
  rw[if_pos h2,hA,want_yes h2']
  exact⟨fun _=>⟨rfl,rfl,rfl⟩,fun _=>rfl⟩
 have h2':e.is p ⟨#[41]⟩=false:=by rw[i2];exact decide_eq_false h2
 rw[if_neg h2,rPars_on hp (fun q=>by rw[h2']at q;cases q.2),List.length_nil,rLq_first,if_neg (by omega)]
 have hm:=mv_par e p
 by_cases hb:0≤(rPar e p).2.bad
 ·rw[if_pos hb,is_bad _ hb,if_neg Bool.false_ne_true]
  exact⟨fun q=>by rw[want_bad _ hb]at q;omega,fun _=>(want_bad _ hb).symm⟩
 ·rw[if_neg hb]
  have hge:p.at_<(rPar e p).2.at_:=by
   rcases hm.2 with g|g
   ·exact absurd g hb
   ·exact g
  exact rL_pars2 hE n0 d c ([]++[(rPar e p).1]) _ (by omega) (hm.1.top hl) (by omega) (by omega) (by simp)
def wSg (w:ByteArray):Bool:=decide (w.size≠0)&&(!(isR (w.get! 0).toNat)&&decide ((w.get! 0).toNat≠34))
theorem wSg_ok {w:ByteArray}(h:wSg w=true):wOk w=true:=by
 unfold wSg at h
 unfold wOk
 rw[Bool.and_eq_true]at h ⊢
 exact⟨h.1,by rw[h.2,Bool.or_true]⟩
theorem EOk.sign {e:PsE}(h:EOk e){n:Nat}(hn:n<e.T.length){w:ByteArray}(hw:wSg w=true)(ht:e.txt n=w):(e.T.getD n (0,0,0)).1=5:=by
 have k:=h.at hn
 have kl:=tkw_le k
 obtain⟨h1,h2,h3,h4⟩:=k
 have h5:=h.word hn (wSg_ok hw) ht
 unfold PsE.txt at ht
 rw[if_pos hn]at ht
 rw[h3]at ht kl
 obtain⟨g0,g1⟩:=ext_get0 kl.1 (by omega)
 rw[ht]at g0
 unfold wSg at hw
 rw[g0,Bool.and_eq_true,Bool.and_eq_true]at hw
 have hl:isL (e.s.get! (e.T.getD n (0,0,0)).2.1).toNat=false:=by
  have:=hw.2.1
  unfold isR at this
  revert this
  cases isL (e.s.get! (e.T.getD n (0,0,0)).2.1).toNat with
  |false=>intro _;rfl
  |true=>intro q;cases q
 rw[h2]at h5 ⊢
 rcases h5 with h5|h5
 ·exfalso
  unfold tok at h5
  rw[if_neg (by rw[hl];exact Bool.false_ne_true)]at h5
  repeat' split at h5
  all_goals exact absurd (show _=(2:Nat) from h5) (by simp)
 ·exact h5
theorem sgW_ok : ∀k,k<14→wSg (sgW.getD k ⟨#[]⟩)=true:=by decide +kernel
theorem sgW_inj : ∀j,j<14→∀k,k<14→decide (sgW.getD k (⟨#[]⟩:ByteArray)=sgW.getD j (⟨#[]⟩:ByteArray))=decide (j=k):=by decide +kernel
theorem opAt_is {e:PsE}{p:Ps}{k:Nat}(h:∀j,j<14→e.is p (sgW.getD j ⟨#[]⟩)=decide (j=k)):∀m,m≤14→opAt e p m=if k<m then (k:Int) else -1
 |0,_=>rfl
 |m+1,hm=>by
  rw[opAt,h m (by omega)]
  by_cases c:m=k
  ·rw[decide_eq_true c,if_pos rfl,if_pos (by omega),c]
  ·rw[decide_eq_false c,if_neg Bool.false_ne_true,opAt_is h m (by omega)]
   by_cases d:k<m
   ·rw[if_pos d,if_pos (by omega)]
   ·rw[if_neg d,if_neg (by omega)]
theorem opAt_none {e:PsE}{p:Ps}(h:∀j,j<14→e.is p (sgW.getD j ⟨#[]⟩)=false):∀m,m≤14→opAt e p m = -1
 |0,_=>rfl
 |m+1,hm=>by rw[opAt,h m (by omega),if_neg Bool.false_ne_true,opAt_none h m (by omega)]
theorem EOk.op {e:PsE}(hE:EOk e){p:Ps}(hp:p.bad<0){k:Nat}(hk:k<14)(ht:e.txt p.at_=sgW.getD k ⟨#[]⟩):e.kind p=5∧opAt e p 14=(k:Int):=by
 have hn:p.at_<e.T.length:=by
  by_cases q:p.at_<e.T.length
  ·exact q
  ·have:=(hE.end_ p.at_).mpr q
   rw[ht]at this
   have h1:=sgW_ok k hk
   rw[this]at h1
   exact absurd h1 (by decide)
 refine⟨?_,?_⟩
 ·unfold PsE.kind
  rw[if_neg (by omega)]
  exact hE.sign hn (sgW_ok k hk) ht
 ·rw[opAt_is (k:=k) (fun j hj=>by rw[hE.is hp (wSg_ok (sgW_ok j hj)),ht];exact sgW_inj j hj k hk) 14 (Nat.le_refl _),if_pos hk]
theorem EOk.noop {e:PsE}(hE:EOk e){p:Ps}(hp:p.bad<0)(ht:∀k,k<14→e.txt p.at_≠sgW.getD k ⟨#[]⟩):opAt e p 14 = -1:=
 opAt_none (fun j hj=>by rw[hE.is hp (wSg_ok (sgW_ok j hj))];exact decide_eq_false (ht j hj)) 14 (Nat.le_refl _)
def sWd : List ByteArray:=[⟨#[]⟩,⟨#[]⟩,⟨#[]⟩,⟨#[108,101,116]⟩,⟨#[99,97,108,108]⟩,⟨#[102,111,114]⟩,⟨#[105,102]⟩,⟨#[103,114,105,100]⟩,⟨#[119,97,108,108]⟩,⟨#[111,112,101,110]⟩,⟨#[108,97,110,101]⟩,⟨#[103,97,116,101]⟩,⟨#[98,97,114]⟩,⟨#[122,111,110,101]⟩,⟨#[115,116,97,116,105,111,110]⟩,⟨#[99,104,97,114,103,101,114]⟩]
theorem sWd_ok : ∀k,k<16→3≤k→wOk (sWd.getD k ⟨#[]⟩)=true:=by decide +kernel
theorem sWd_inj : ∀j,j<16→3≤j→∀k,k<16→3≤k→decide (sWd.getD k (⟨#[]⟩:ByteArray)=sWd.getD j (⟨#[]⟩:ByteArray))=decide (j=k):=by decide +kernel
theorem EOk.stw {e:PsE}(hE:EOk e){p:Ps}(hp:p.bad<0){k:Nat}(hk:k<16)(h3:3≤k)(ht:e.txt p.at_=sWd.getD k ⟨#[]⟩):∀j,j<16→3≤j→e.is p (sWd.getD j ⟨#[]⟩)=decide (j=k):=fun j hj h3j=>by
 rw[hE.is hp (sWd_ok j hj h3j),ht]
 exact sWd_inj j hj h3j k hk h3
theorem EOk.nost {e:PsE}(hE:EOk e)(f m:Nat){p:Ps}(hp:p.bad<0)(ht:∀k,k<16→3≤k→e.txt p.at_≠sWd.getD k ⟨#[]⟩):(rS e f (m+1) p).2.bad=(e.place p:Nat):=by
 have h:∀j,j<16→3≤j→¬(e.is p (sWd.getD j ⟨#[]⟩)=true):=fun j hj h3j=>by
  rw[hE.is hp (sWd_ok j hj h3j),decide_eq_false (ht j hj h3j)]
  exact Bool.false_ne_true
 rw[rS]
 simp only
 rw[if_neg (show ¬(e.is p ⟨#[105,102]⟩=true) from h 6 (by omega) (by omega)),if_neg (show ¬(e.is p ⟨#[102,111,114]⟩=true) from h 5 (by omega) (by omega))]
 unfold rFlat
 rw[if_neg (show ¬(e.is p ⟨#[108,101,116]⟩=true) from h 3 (by omega) (by omega)),if_neg (show ¬(e.is p ⟨#[99,97,108,108]⟩=true) from h 4 (by omega) (by omega)),if_neg (show ¬(e.is p ⟨#[103,114,105,100]⟩=true) from h 7 (by omega) (by omega)),if_neg (show ¬(e.is p ⟨#[119,97,108,108]⟩=true) from h 8 (by omega) (by omega)),if_neg (show ¬(e.is p ⟨#[111,112,101,110]⟩=true) from h 9 (by omega) (by omega)),if_neg (show ¬(e.is p ⟨#[108,97,110,101]⟩=true) from h 10 (by omega) (by omega)),if_neg (show ¬(e.is p ⟨#[103,97,116,101]⟩=true) from h 11 (by omega) (by omega)),if_neg (show ¬(e.is p ⟨#[98,97,114]⟩=true) from h 12 (by omega) (by omega)),if_neg (show ¬(e.is p ⟨#[122,111,110,101]⟩=true) from h 13 (by omega) (by omega)),if_neg (fun q=>by
  rw[Bool.or_eq_true]at q
  rcases q with q|q
  ·exact h 14 (by omega) (by omega) q
  ·exact h 15 (by omega) (by omega) q)]
 show (e.want (e.wrong p) _).bad=_
 have hw:(e.wrong p).bad=(e.place p:Nat):=by unfold PsE.wrong;rw[if_pos hp]
 rw[want_bad _ (by rw[hw];omega),hw]
end Go.Proofs.YtbiakdjpeblclaaGreatDoor
namespace Go.Proofs.YtbiakdjpeblclaaGreatDoor
open Go.RowKit
def pairVal (q:Nat × Nat):Value:=.tuple #[.int .i64 (q.1:Int),.int .i64 (q.2:Int)]
theorem pairVal_of {q:Nat × Nat}{a c:Nat}(h:q=(a,c)):pairVal q = .tuple #[.int .i64 (a:Int),.int .i64 (c:Int)]:=by rw[h];rfl
set_option maxHeartbeats 400000 in
set_option maxRecDepth 1000000 in
theorem specCheck_any (b off cap:Nat)(s:ByteArray)(w:World)(hs:s.size≤1048576)(hc:∀j,j<s.size→w.cell? ⟨b,off+j,none⟩=some (bts s j)):
 Calls Tryz.prog 32 #[.slice (some ⟨b,off,none⟩) s.size cap] w fun e w'=>e = .returned (pairVal (chk s))∧Below w.heap.size w w':=by
 go_enter Tryz.func32,Tryz.ntmps32
 go_wp2
 go_loopw [4] (fun i wr=>∃p f:Nat,i = .int .i64 p∧p≤s.size+4∧s.size<p+f∧chkAt s f p=chk s∧Below w.heap.size w wr) (fun i _=>s.size - (intOf i).toNat)
 case atStart=>exact⟨0,s.size+1,rfl,by omega,by omega,rfl,Below.refl _ _⟩
 case round=>
  obtain⟨p,f,rfl,hp,hf,hk,hbl⟩:=hrel
  have HK:Hid (chkAt s f p=chk s):=hk
  clear hk
  by_cases hlt:p<s.size
  ·have hb:b<w.heap.size:=World.block_lt_of_cell? _ _ (hc p hlt)
   have hc':∀j,j<s.size→wr.cell? ⟨b,off+j,none⟩=some (bts s j):=fun j hj=>by rw[hbl.cell (p:=⟨b,off+j,none⟩) hb];exact hc j hj
   have H8:=char_any b off cap p s wr hs hlt hc'
   obtain⟨N,V,hN⟩:∃N V,chr s p=(N,V):=⟨_,_,rfl⟩
   rw[chrVal_of hN]at H8
   have hn4:N≤4:=by have:=chr_le s p;rw[hN]at this;exact this
   have H8':=hide H8
   have HN:Hid (chr s p=(N,V)):=hN
   clear H8 hN hc hc'
   by_cases hz:N=0
   ·have hzb:((N:Int)==0)=true:=by rw[beq_iff_eq];omega
    have HZ:Hid (chk s=(2,p)):=by rw[← HK.out];exact chkAt_bad hlt hf (by rw[HN.out];exact hz)
    clear hz
    go_wp2_with (go_at_call 58;refine H8'.out.mono ?_;rintro e w1 ⟨rfl,hb1⟩)
    go_ret2
    exact⟨by rw[pairVal_of HZ.out];rfl,hbl.trans (hb1.mono hbl.size)⟩
   ·have hzb:((N:Int)==0)=false:=by rw[beq_eq_false_iff_ne];omega
    obtain⟨g,hg,hgk⟩:=chkAt_good hlt hf (by rw[HN.out];exact hz)
    have HG:Hid (chkAt s g (p+N)=chk s):=by show _=_;rw[← HK.out,hgk,HN.out]
    have hg1:f≤g+1:=by omega
    have hz1:1≤N:=by omega
    clear hz hg hgk
    go_wp2_with (go_at_call 58;refine H8'.out.mono ?_;rintro e w1 ⟨rfl,hb1⟩)
    go_roundw
    case rel=>exact⟨p+N,g,by go_num,by omega,by omega,HG.out,hbl.trans (hb1.mono hbl.size)⟩
    case measure=>simp[intOf];omega
  ·have HZ:Hid (chk s=(0,0)):=by rw[← HK.out];exact chkAt_end hlt
   go_wp2
   go_ret2
   exact⟨by rw[pairVal_of HZ.out];rfl,hbl⟩
end Go.Proofs.YtbiakdjpeblclaaGreatDoor
