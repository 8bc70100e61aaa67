/-
  The drawing's reader: spec.l9open, its next.
-/
import Derived.Test.YtbiakdjpeblclaaGreatDoorJPaLX
import Derived.BigQuiet
import Derived.Deep.QuietTactic
import Derived.Test.YtbiakdjpeblclaaGreatDoorJPaMK
import Derived.Test.YtbiakdjpeblclaaGreatDoorJPaE
import Derived.Deep.RegionWith
import Derived.Test.YtbiakdjpeblclaaGreatDoorJPaPSM
import Derived.Test.YtbiakdjpeblclaaGreatDoorJPaT
import Derived.Maps.AppendAt
namespace Go.Proofs.YtbiakdjpeblclaaGreatDoor
open Go.RowKit
def nx (cs:ByteArray)(n i:Nat):Nat:=if i<n then (cs.get! i).toNat else 0
structure Gw (P:Nat→Prop)(w w':World):Prop where
 os:w'.os=w.os
 tape:w'.tape=w.tape
 output:w'.output=w.output
 size:w.heap.size≤w'.heap.size
 block:∀k,k<w.heap.size→¬P k→w'.heap[k]?=w.heap[k]?
theorem Gw.refl (P:Nat→Prop)(w:World):Gw P w w:=⟨rfl,rfl,rfl,Nat.le_refl _,fun _ _ _=>rfl⟩
theorem Gw.trans {P Q:Nat→Prop}{a b c:World}(h:Gw P a b)(k:Gw Q b c)(hq:∀j,j<a.heap.size→Q j→P j):Gw P a c:=
 ⟨k.os.trans h.os,k.tape.trans h.tape,k.output.trans h.output,Nat.le_trans h.size k.size,fun j hj hp=>(k.block j (Nat.lt_of_lt_of_le hj h.size) (fun g=>hp (hq j hj g))).trans (h.block j hj hp)⟩
theorem Gw.mono {P Q:Nat→Prop}{a b:World}(h:Gw P a b)(hq:∀j,j<a.heap.size→P j→Q j):Gw Q a b:=
 ⟨h.os,h.tape,h.output,h.size,fun j hj hp=>h.block j hj (fun g=>hp (hq j hj g))⟩
theorem Gw.of_grown {P:Nat→Prop}{w w':World}{row:Option Nat}(h:w.grownBy w' row)(hr:∀k,row=some k→k<w.heap.size→P k):Gw P w w':=
 ⟨h.os,h.tape,h.output,h.size,fun k hk hp=>h.block k hk (fun e=>hp (hr k e.symm hk))⟩
theorem Gw.set (w:World)(b k:Nat)(v:Value):Gw (· = b) w (w.setCell ⟨b,k,none⟩ v):=⟨rfl,rfl,rfl,by simp,fun _ _ hk=>Below.heap_setCell _ _ _ _ hk⟩
theorem Gw.of_below {P:Nat→Prop}{w w':World}(h:Below w.heap.size w w'):Gw P w w':=⟨h.os,h.tape,h.output,h.size,fun k hk _=>h.block k hk⟩
theorem Gw.below {P:Nat→Prop}{w0 w w':World}{n:Nat}(h:Gw P w w')(hb:Below n w0 w)(hn:n≤w.heap.size)(hP:∀k,k<n→¬P k):Below n w0 w':=
 hb.trans ⟨h.os,h.tape,h.output,h.size,fun k hk=>h.block k (Nat.lt_of_lt_of_le hk hn) (hP k hk)⟩
theorem Gw.cell {P:Nat→Prop}{w w':World}{a:Addr}{v:Value}(h:Gw P w w')(hc:w.cell? a=some v)(hp:¬P a.block):w'.cell? a=some v:=
 (World.cell?_of_block (h.block a.block (World.block_lt_of_cell? w a hc) hp)).trans hc
theorem Gw.blk {P:Nat→Prop}{w w':World}{b:Nat}{t:TypeId}{cs:Array Value}(h:Gw P w w')(hb:Blk w b t cs)(hp:¬P b):Blk w' b t cs:=(h.block b hb.lt hp).trans hb
theorem Gw.own {P:Nat→Prop}{w w':World}{B e sz n:Nat}{v:Value}{xs:List Value}(h:Gw P w w')(ho:w.ownsRow B e sz v n xs)(hp:∀k,v.ownBlock=some k→¬P k):w'.ownsRow B e sz v n xs:=by
 refine⟨ho.1,?_⟩
 rcases ho.2 with hn|⟨g,cap,cur,rfl,hb,hgg,rest⟩
 ·exact .inl hn
 ·exact .inr ⟨g,cap,cur,rfl,hb,(h.block g (Array.getElem?_eq_some_iff.1 hgg).1 (hp g rfl)).trans hgg,rest⟩
def SSr (w:World)(v:Value)(L:List ByteArray)(X:Nat→Prop):Prop:=∃a b o c,v = .slice a L.length c∧(0<L.length→a=some ⟨b,o,none⟩∧¬X b)∧∀j,j<L.length→w.cell? ⟨b,o+j,none⟩=some (.string (L.getD j ⟨#[]⟩))
theorem SSr.gw {P:Nat→Prop}{w w':World}{v:Value}{L:List ByteArray}{X Y:Nat→Prop}(h:SSr w v L X)(hg:Gw P w w')(hp:∀k,P k→X k)(hY:∀k,k<w.heap.size→Y k→X k):SSr w' v L Y:=by
 obtain⟨a,b,o,c,h1,h2,h3⟩:=h
 refine⟨a,b,o,c,h1,fun hl=>⟨(h2 hl).1,fun g=>(h2 hl).2 (hY b (World.block_lt_of_cell? _ _ (h3 0 hl)) g)⟩,fun j hj=>hg.cell (h3 j hj) (fun g=>(h2 (by omega)).2 (hp _ g))⟩
def Cs (w:World)(g:Nat)(xs:List Value):Prop:=∀j u,xs[j]?=some u→w.cell? ⟨g,j,none⟩=some u
theorem Cs.gw {P:Nat→Prop}{w w':World}{g:Nat}{xs:List Value}(h:Cs w g xs)(hg:Gw P w w')(hp:¬P g):Cs w' g xs:=fun j u hj=>hg.cell (h j u hj) hp
theorem Cs.of_blk {w:World}{g:Nat}{t:TypeId}{cs:Array Value}(h:Blk w g t cs):Cs w g cs.toList:=fun j u hj=>by
 rw[h.cell j,← Array.getElem?_toList];exact hj
def RwG (w:World)(G:Nat→Prop)(v:Value)(n:Nat)(xs:List Value):Prop:=∃a g c,v = .slice a n c∧(0<n→a=some ⟨g,0,none⟩∧G g)∧(0<n→Cs w g xs)
theorem RwG.gw {P:Nat→Prop}{w w':World}{G:Nat→Prop}{n:Nat}{v:Value}{xs:List Value}(h:RwG w G v n xs)(hg:Gw P w w')(hp:∀k,P k→¬G k):RwG w' G v n xs:=by
 obtain⟨a,g,c,h1,h2,h3⟩:=h
 exact⟨a,g,c,h1,h2,fun hn=>(h3 hn).gw hg (fun q=>hp _ q (h2 hn).2)⟩
theorem RwG.nil (w:World)(G:Nat→Prop)(c:Nat)(xs:List Value):RwG w G (.slice none 0 c) 0 xs:=⟨none,0,c,rfl,fun h=>absurd h (by omega),fun h=>absurd h (by omega)⟩
theorem RwG.of_own {w:World}{G:Nat→Prop}{B e sz n:Nat}{v:Value}{xs:List Value}(h:w.ownsRow B e sz v n xs)(hG:∀g,B≤g→G g):RwG w G v n xs:=by
 rcases h.2 with⟨h1,h0⟩|⟨g,c,cur,hv,hb,hgg,_,_,_,ht⟩
 ·rw[h0];rw[h1];exact RwG.nil w G 0 xs
 ·refine⟨_,g,c,hv,fun _=>⟨rfl,hG _ hb⟩,fun _ j u hj=>?_⟩
  rw[← ht]at hj
  rw[List.getElem?_take]at hj
  split at hj
  ·rw[Array.getElem?_toList]at hj
   simp[World.cell?,hgg,hj]
  ·cases hj
theorem RwG.of_blk {w:World}{G:Nat→Prop}{g n:Nat}{t:TypeId}{cs:Array Value}(h:Blk w g t cs)(hG:G g)(c:Nat):RwG w G (.slice (some ⟨g,0,none⟩) n c) n cs.toList:=⟨_,g,c,rfl,fun _=>⟨rfl,hG⟩,fun _=>Cs.of_blk h⟩
def byv (s:ByteArray):List Value:=s.data.toList.map fun b=>Value.int .u8 (b.toNat:Int)
theorem byv_at (s:ByteArray)(j:Nat)(hj:j<s.size):(byv s)[j]?=some (bts s j):=by
 unfold byv bts
 rw[List.getElem?_map,Array.getElem?_toList,Array.getElem?_eq_getElem (by exact hj),Utf8W.get!_of_lt s j hj]
 rfl
theorem byv_len (s:ByteArray):(byv s).length=s.size:=by unfold byv;rw[List.length_map,Array.length_toList];rfl
def inv (l:List Int):List Value:=l.map fun n=>Value.int .i64 n
def plv (l:List Nat):List Value:=l.map fun (n:Nat)=>Value.int .i64 (n:Int)
def BG (w:World)(G:Nat→Prop)(v:Value)(s:ByteArray):Prop:=RwG w G v s.size (byv s)
def SG (w:World)(G:Nat→Prop)(v:Value)(L:List ByteArray):Prop:=∃M:List Value,M.length=L.length∧RwG w G v L.length M∧∀(j:Nat) (x:ByteArray),L[j]?=some x→∃u:Value,M[j]?=some u∧BG w G u x
theorem BG.gw {P:Nat→Prop}{w w':World}{G:Nat→Prop}{v:Value}{s:ByteArray}(h:BG w G v s)(hg:Gw P w w')(hp:∀k,P k→¬G k):BG w' G v s:=RwG.gw h hg hp
theorem SG.gw {P:Nat→Prop}{w w':World}{G:Nat→Prop}{v:Value}{L:List ByteArray}(h:SG w G v L)(hg:Gw P w w')(hp:∀k,P k→¬G k):SG w' G v L:=by
 obtain⟨M,h1,h2,h3⟩:=h
 refine⟨M,h1,h2.gw hg hp,fun j x hj=>?_⟩
 obtain⟨u,h4,h5⟩:=h3 j x hj
 exact⟨u,h4,h5.gw hg hp⟩
theorem BG.slc {w:World}{G:Nat→Prop}{v:Value}{s:ByteArray}(h:BG w G v s):∃a c,v = .slice a s.size c:=by obtain⟨a,g,c,h1,_⟩:=h;exact⟨a,c,h1⟩
structure Nv where
 d:Nd
 t:Value
 n:Value
 y:Value
def Nv.cs (m:Nv):List Value:=[.int .i64 m.d.kind,.int .i64 m.d.n,m.t,m.n,m.y,.int .i64 m.d.count]
structure Nv.Ok (w:World)(G:Nat→Prop)(m:Nv):Prop where
 text:BG w G m.t m.d.text
 names:SG w G m.n m.d.names
 types:RwG w G m.y m.d.types.length (inv m.d.types)
 b1:m.d.text.size≤1048576
 b2:m.d.names.length≤1048576
 b3:∀x∈m.d.names,x.size≤1048576
 b4:m.d.types.length≤1048576
theorem Nv.Ok.gw {P:Nat→Prop}{w w':World}{G:Nat→Prop}{m:Nv}(h:m.Ok w G)(hg:Gw P w w')(hp:∀k,P k→¬G k):m.Ok w' G:=⟨h.text.gw hg hp,h.names.gw hg hp,h.types.gw hg hp,h.b1,h.b2,h.b3,h.b4⟩
theorem Nv.Ok.one {w:World}{G:Nat→Prop}{m:Nv}(h:m.Ok w G):∀u∈m.cs,u.oneCell'=true:=by
 obtain⟨a1,c1,h1⟩:=h.text.slc
 obtain⟨_,_,⟨a2,_,c2,h2,_⟩,_⟩:=h.names
 obtain⟨a3,_,c3,h3,_⟩:=h.types
 intro u hu
 unfold Nv.cs at hu
 rw[h1,h2,h3]at hu
 simp only[List.mem_cons,List.not_mem_nil,or_false]at hu
 rcases hu with rfl|rfl|rfl|rfl|rfl|rfl<;>rfl
def ncs (M:List Nv):List Value:=M.flatMap Nv.cs
theorem ncs_len : ∀M,(ncs M).length=M.length*6
 | []=>rfl
 |m::M=>by
  have:=ncs_len M
  unfold ncs at *
  rw[List.flatMap_cons,List.length_append,this,List.length_cons]
  show 6+_=_
  omega
theorem ncs_app (a b:List Nv):ncs (a++b)=ncs a++ncs b:=List.flatMap_append
theorem ncs_one {w:World}{G:Nat→Prop}{M:List Nv}(h:∀m∈M,m.Ok w G):∀u∈ncs M,u.oneCell'=true:=fun u hu=>by
 obtain⟨m,hm,hu⟩:=List.mem_flatMap.1 hu
 exact (h m hm).one u hu
def NG (w:World)(G:Nat→Prop)(v:Value)(L:List Nd):Prop:=∃M:List Nv,M.map Nv.d=L∧RwG w G v M.length (ncs M)∧∀m∈M,m.Ok w G
theorem NG.gw {P:Nat→Prop}{w w':World}{G:Nat→Prop}{v:Value}{L:List Nd}(h:NG w G v L)(hg:Gw P w w')(hp:∀k,P k→¬G k):NG w' G v L:=by
 obtain⟨M,h1,h2,h3⟩:=h
 exact⟨M,h1,h2.gw hg hp,fun m hm=>(h3 m hm).gw hg hp⟩
structure PV (w:World)(G:Nat→Prop)(vt vp:Value)(x:Pt):Prop where
 t:NG w G vt x.t
 p:RwG w G vp x.p.length (plv x.p)
 ne:0<x.t.length
 same:x.p.length=x.t.length
theorem PV.gw {P:Nat→Prop}{w w':World}{G:Nat→Prop}{vt vp:Value}{x:Pt}(h:PV w G vt vp x)(hg:Gw P w w')(hp:∀k,P k→¬G k):PV w' G vt vp x:=⟨h.t.gw hg hp,h.p.gw hg hp,h.ne,h.same⟩
theorem PV.slc {w:World}{G:Nat→Prop}{vt vp:Value}{x:Pt}(h:PV w G vt vp x):∃g c g' c',vt = .slice (some ⟨g,0,none⟩) x.t.length c∧vp = .slice (some ⟨g',0,none⟩) x.t.length c'∧G g∧G g':=by
 obtain⟨⟨M,h1,⟨a,g,c,h2,h3,_⟩,_⟩,⟨a',g',c',h4,h5,_⟩,hn,hs⟩:=h
 have e:M.length=x.t.length:=by rw[← h1,List.length_map]
 rw[e]at h2 h3
 rw[hs]at h4 h5
 have k1:=h3 hn
 have k2:=h5 hn
 exact⟨g,c,g',c',by rw[h2,k1.1],by rw[h4,k2.1],k1.2,k2.2⟩
def pcs (M:List (Value × Value)):List Value:=M.flatMap fun m=>[m.1,m.2]
theorem pcs_len : ∀M,(pcs M).length=M.length*2
 | []=>rfl
 |m::M=>by
  have:=pcs_len M
  unfold pcs at *
  rw[List.flatMap_cons,List.length_append,this,List.length_cons]
  simp only[List.length_cons,List.length_nil]
  omega
theorem pcs_app (a b:List (Value × Value)):pcs (a++b)=pcs a++pcs b:=List.flatMap_append
theorem pcs_at : ∀(M:List (Value × Value)) (j:Nat) (m:Value × Value),M[j]?=some m→(pcs M)[2*j]?=some m.1∧(pcs M)[2*j+1]?=some m.2
 | [],j,m,h=>by simp at h
 |a::M,0,m,h=>by
  obtain rfl:a=m:=by simpa using h
  exact⟨rfl,rfl⟩
 |a::M,j+1,m,h=>by
  have:=pcs_at M j m (by simpa using h)
  exact this
def Ms (w:World)(G:Nat→Prop)(M:List (Value × Value))(ks:List Pt):Prop:=M.length=ks.length∧∀(j:Nat) (x:Pt),ks[j]?=some x→∃m:Value × Value,M[j]?=some m∧PV w G m.1 m.2 x
theorem Ms.gw {P:Nat→Prop}{w w':World}{G:Nat→Prop}{M:List (Value × Value)}{ks:List Pt}(h:Ms w G M ks)(hg:Gw P w w')(hp:∀k,P k→¬G k):Ms w' G M ks:=⟨h.1,fun j x hj=>by
 obtain⟨m,h1,h2⟩:=h.2 j x hj
 exact⟨m,h1,h2.gw hg hp⟩⟩
theorem Ms.nil (w:World)(G:Nat→Prop):Ms w G [] []:=⟨rfl,fun j x h=>by simp at h⟩
theorem Ms.app {w:World}{G:Nat→Prop}{M M':List (Value × Value)}{ks ks':List Pt}(h:Ms w G M ks)(h':Ms w G M' ks'):Ms w G (M++M') (ks++ks'):=by
 refine⟨by rw[List.length_append,List.length_append,h.1,h'.1],fun j x hj=>?_⟩
 by_cases c:j<ks.length
 ·rw[List.getElem?_append_left c]at hj
  obtain⟨m,h1,h2⟩:=h.2 j x hj
  exact⟨m,by rw[List.getElem?_append_left (by rw[h.1];exact c)];exact h1,h2⟩
 ·rw[List.getElem?_append_right (by omega)]at hj
  obtain⟨m,h1,h2⟩:=h'.2 _ x hj
  exact⟨m,by rw[List.getElem?_append_right (by rw[h.1];omega),h.1];exact h1,h2⟩
theorem Ms.one {w:World}{G:Nat→Prop}{vt vp:Value}{x:Pt}(h:PV w G vt vp x):Ms w G [(vt,vp)] [x]:=⟨rfl,fun j y hj=>by
 cases j with
 |zero=>obtain rfl:x=y:=by simpa using hj
        exact⟨_,rfl,h⟩
 |succ j=>simp at hj⟩
theorem Ms.ones {w:World}{G:Nat→Prop}{M:List (Value × Value)}{ks:List Pt}(h:Ms w G M ks):∀u∈pcs M,u.oneCell'=true:=fun u hu=>by
 obtain⟨m,hm,hu⟩:=List.mem_flatMap.1 hu
 obtain⟨j,hj,hjm⟩:=List.getElem_of_mem hm
 have hx:ks[j]?=some (ks[j]'(by rw[← h.1];exact hj)):=List.getElem?_eq_getElem _
 obtain⟨m',h1,h2⟩:=h.2 j _ hx
 have e:m'=m:=by rw[List.getElem?_eq_getElem hj,hjm]at h1;injection h1 with h1;exact h1.symm
 subst e
 obtain⟨g,c,g',c',e1,e2,_⟩:=h2.slc
 simp only[List.mem_cons,List.not_mem_nil,or_false]at hu
 rcases hu with rfl|rfl
 ·rw[e1];rfl
 ·rw[e2];rfl
theorem RwG.mono {w:World}{G G':Nat→Prop}{n:Nat}{v:Value}{xs:List Value}(h:RwG w G v n xs)(hx:xs≠[]∨n=0)(hG:∀g,G g→g<w.heap.size→G' g):RwG w G' v n xs:=by
 obtain⟨a,g,c,h1,h2,h3⟩:=h
 refine⟨a,g,c,h1,fun hn=>⟨(h2 hn).1,hG g (h2 hn).2 ?_⟩,h3⟩
 rcases hx with hx|hx
 ·cases xs with
  |nil=>exact absurd rfl hx
  |cons u r=>exact World.block_lt_of_cell? _ _ (h3 hn 0 u rfl)
 ·omega
theorem ne_of_len {xs:List Value}{n:Nat}(h:n≤xs.length):xs≠[]∨n=0:=by
 cases xs with
 |nil=>exact .inr (by simpa using h)
 |cons u r=>exact .inl (by simp)
theorem BG.mono {w:World}{G G':Nat→Prop}{v:Value}{s:ByteArray}(h:BG w G v s)(hG:∀g,G g→g<w.heap.size→G' g):BG w G' v s:=RwG.mono h (ne_of_len (by rw[byv_len];exact Nat.le_refl _)) hG
theorem SG.mono {w:World}{G G':Nat→Prop}{v:Value}{L:List ByteArray}(h:SG w G v L)(hG:∀g,G g→g<w.heap.size→G' g):SG w G' v L:=by
 obtain⟨M,h1,h2,h3⟩:=h
 refine⟨M,h1,h2.mono (ne_of_len (by rw[h1];exact Nat.le_refl _)) hG,fun j x hj=>?_⟩
 obtain⟨u,h4,h5⟩:=h3 j x hj
 exact⟨u,h4,h5.mono hG⟩
theorem Nv.Ok.mono {w:World}{G G':Nat→Prop}{m:Nv}(h:m.Ok w G)(hG:∀g,G g→g<w.heap.size→G' g):m.Ok w G':=⟨h.text.mono hG,h.names.mono hG,h.types.mono (ne_of_len (by unfold inv;rw[List.length_map];exact Nat.le_refl _)) hG,h.b1,h.b2,h.b3,h.b4⟩
theorem NG.mono {w:World}{G G':Nat→Prop}{v:Value}{L:List Nd}(h:NG w G v L)(hG:∀g,G g→g<w.heap.size→G' g):NG w G' v L:=by
 obtain⟨M,h1,h2,h3⟩:=h
 exact⟨M,h1,h2.mono (ne_of_len (by rw[ncs_len];omega)) hG,fun m hm=>(h3 m hm).mono hG⟩
theorem PV.mono {w:World}{G G':Nat→Prop}{vt vp:Value}{x:Pt}(h:PV w G vt vp x)(hG:∀g,G g→g<w.heap.size→G' g):PV w G' vt vp x:=⟨h.t.mono hG,h.p.mono (ne_of_len (by unfold plv;rw[List.length_map];exact Nat.le_refl _)) hG,h.ne,h.same⟩
theorem Ms.mono {w:World}{G G':Nat→Prop}{M:List (Value × Value)}{ks:List Pt}(h:Ms w G M ks)(hG:∀g,G g→g<w.heap.size→G' g):Ms w G' M ks:=⟨h.1,fun j x hj=>by
 obtain⟨m,h1,h2⟩:=h.2 j x hj
 exact⟨m,h1,h2.mono hG⟩⟩
def PR (w:World)(G:Nat→Prop)(v:Value)(ks:List Pt):Prop:=∃M,RwG w G v ks.length (pcs M)∧Ms w G M ks
theorem PR.gw {P:Nat→Prop}{w w':World}{G:Nat→Prop}{v:Value}{ks:List Pt}(h:PR w G v ks)(hg:Gw P w w')(hp:∀k,P k→¬G k):PR w' G v ks:=by
 obtain⟨M,h1,h2⟩:=h
 exact⟨M,h1.gw hg hp,h2.gw hg hp⟩
def KO (w:World)(B:Nat)(G:Nat→Prop)(v:Value)(ks:List Pt):Prop:=∃M,w.ownsRow B 45 2 v ks.length (pcs M)∧Ms w (fun g=>G g∧v.ownBlock≠some g) M ks
theorem KO.pr {w:World}{B:Nat}{G:Nat→Prop}{v:Value}{ks:List Pt}(h:KO w B G v ks)(hG:∀g,B≤g→G g):PR w G v ks:=by
 obtain⟨M,h1,h2⟩:=h
 exact⟨M,RwG.of_own h1 hG,h2.mono (fun g hg _=>hg.1)⟩
theorem KO.gw {P:Nat→Prop}{w w':World}{B:Nat}{G:Nat→Prop}{v:Value}{ks:List Pt}(h:KO w B G v ks)(hg:Gw P w w')(hp:∀k,P k→¬G k)(hG:∀g,B≤g→G g):KO w' B G v ks:=by
 obtain⟨M,h1,h2⟩:=h
 exact⟨M,hg.own h1 (fun k hk q=>hp k q (hG k (h1.lt k hk).1)),h2.gw hg (fun k q r=>hp k q r.1)⟩
theorem KO.nil (w:World)(B:Nat)(G:Nat→Prop):KO w B G (.slice none 0 0) []:=⟨[],World.ownsRow_nil _ _ _ _,Ms.nil w _⟩
theorem KO.slc {w:World}{B:Nat}{G:Nat→Prop}{v:Value}{ks:List Pt}(h:KO w B G v ks):∃a c,v = .slice a ks.length c:=by
 obtain⟨M,h1,_⟩:=h
 rcases h1.2 with⟨h1,h0⟩|⟨g,c,cur,hv,_⟩
 ·exact⟨none,0,by rw[h1,h0]⟩
 ·exact⟨_,c,hv⟩
theorem info_partsG {P:Program}{t:TypeId}{z:Value}{a b:Nat}(h:(P.info? t).map (fun i=>(i.zero,i.size,i.bytes))=some (some z,a,b)):∃i,P.info? t=some i∧i.zero=some z∧i.size=a∧i.bytes=b:=by
 cases hi:P.info? t with
 |none=>rw[hi]at h;cases h
 |some i=>rw[hi]at h;simp at h;exact⟨i,rfl,h.1,h.2.1,h.2.2⟩
theorem KO.mono {w:World}{B:Nat}{G G':Nat→Prop}{v:Value}{ks:List Pt}(h:KO w B G v ks)(hG:∀g,G g→g<w.heap.size→G' g):KO w B G' v ks:=by
 obtain⟨M,h1,h2⟩:=h
 exact⟨M,h1,h2.mono (fun g hg hl=>⟨hG g hg.1 hl,hg.2⟩)⟩
def tcv : List (Nat × Nat × Nat)→List Value
 | []=>[]
 |t::r=>.int .i64 (t.1:Nat):: .int .i64 (t.2.1:Nat):: .int .i64 (t.2.2:Nat)::tcv r
theorem tcv_append : ∀a b,tcv (a++b)=tcv a++tcv b
 | [],_=>rfl
 |t::r,b=>by simp only[List.cons_append,tcv,tcv_append r b]
theorem tcv_one : ∀l,∀u∈tcv l,u.oneCell'=true
 | [],_,h=>by cases h
 |t::r,u,h=>by
  simp only[tcv,List.mem_cons]at h
  rcases h with rfl|rfl|rfl|h
  ·rfl
  ·rfl
  ·rfl
  ·exact tcv_one r u h
theorem Tryz.infoTok : (Tryz.prog.info? 73).map (fun i=>(i.zero,i.size,i.bytes))=some (some (.agg #[.int .i64 0,.int .i64 0,.int .i64 0]),3,24):=by kernel_rfl
theorem wp_tok {ops:Array Oper}{rest:List Oper}{o:Oper}{a:Act}{Q:Exit→Act→World→Prop}{w:World}(hgd:o.guard=none)(s x:Operand)
 (ho:o.op = .call { callee:=.builtin .append,args:=#[s,x],argTypes:=#[35,35] }) (B:Nat) (v:Value) (xs:List (Nat × Nat × Nat)) (hs:a.eval s=v) (hown:w.ownsRow B 73 3 v xs.length (tcv xs))
 (g c:Nat) (t:Nat × Nat × Nat) (hx:a.eval x = .slice (some ⟨g,0,none⟩) 1 c) (hnews:∀j u,(tcv [t])[j]?=some u→w.cell? ⟨g,j,none⟩=some u) (hlen:xs.length≤100000000) (hbase:B≤w.heap.size)
 (h:∀v' w' l,Hid (l=xs++[t])→w'.ownsRow B 73 3 v' l.length (tcv l)→w.grownBy w' v.ownBlock→wpList Tryz.prog ops Q rest (a.put o.dst v') w'):wpList Tryz.prog ops Q (o::rest) a w:=by
 obtain⟨i0,hi,hz0,hz1,hz2⟩:=info_parts Tryz.infoTok
 refine wpList_append_own _ hgd s x 35 ho B 73 i0 _ 3 24 Tryz.underlying35 hi hz0 hz1 hz2 rfl (by decide) v xs.length (tcv xs) hs hown ⟨g,0,none⟩ 1 c (tcv [t]) hx rfl (fun j u hj=>?_) (tcv_one [t]) (by unfold maxLen;omega) (by omega) hbase (fun v' w' h1 h2 _=>?_)
 ·have e:(⟨g,0,none⟩:Addr).add j = ⟨g,j,none⟩:=by unfold Addr.add;split<;>simp_all
  rw[e];exact hnews j u hj
 ·refine h v' w' (xs++[t]) rfl ?_ h2
  rw[List.length_append,tcv_append]
  exact h1
theorem tok_below {B:Nat}{w0 w w':World}{v:Value}{n:Nat}{xs:List Value}{e k:Nat}(h:Below B w0 w)(hown:w.ownsRow B e k v n xs)(hB:B≤w.heap.size)(hg:w.grownBy w' v.ownBlock):Below B w0 w':=
 h.grown hg hB (fun k hk=>(hown.lt k hk).1)
theorem own_below {w w':World}{B e k:Nat}{v:Value}{n:Nat}{xs:List Value}(h:w.ownsRow B e k v n xs)(hb:Below w.heap.size w w'):w'.ownsRow B e k v n xs:=
 h.kept (row:=none) ⟨hb.os,hb.tape,hb.output,hb.size,fun k hk _=>hb.block k hk⟩ (by cases v.ownBlock<;>simp)
theorem lex_end {s:ByteArray}{f p:Nat}{acc:List (Nat × Nat × Nat)}(h:¬p<s.size):lex s f p acc=(acc,0,0):=by cases f<;>simp[lex,h]
theorem lex_step {s:ByteArray}{f p:Nat}{acc:List (Nat × Nat × Nat)}(hf:s.size<p+f)(h:p<s.size):∃g,f=g+1∧lex s f p acc =
 (if 0<bl s p then lex s g (p+(bl s p).toNat) acc
 else if bl s p<0 then ([],2,p)
 else if (tok s p).2=0 then ([],2,p)
 else lex s g (p+(tok s p).2) (acc++[((tok s p).1,p,(tok s p).2)])):=by
 cases f with
 |zero=>omega
 |succ f=>exact⟨f,rfl,by rw[lex,if_pos h]⟩
theorem ln_le (s:ByteArray)(q:Nat)(h:q≤s.size):q+ln s q≤s.size:=by
 unfold ln
 rcases Nat.eq_zero_or_pos (cw (fun c=>c != 10) s q s.size) with g|g
 ·omega
 ·have:=(cw_all (fun c=>c != 10) s s.size q (cw (fun c=>c != 10) s q s.size - 1) (by omega)).1
  omega
theorem bc_le (s:ByteArray):∀f q r,bc s q f=some r→q≤r∧r+1<s.size
 |0,_,_,h=>by cases h
 |f+1,q,r,h=>by
  rw[bc]at h
  by_cases c:q+1<s.size
  ·rw[if_pos c]at h
   by_cases d:(s.get! q).toNat=42∧(s.get! (q+1)).toNat=47
   ·rw[if_pos d]at h
    have e:=Option.some.inj h
    omega
   ·rw[if_neg d]at h
    have:=bc_le s f (q+1) r h
    omega
  ·rw[if_neg c]at h;cases h
theorem bl_le (s:ByteArray)(p:Nat)(hp:p<s.size): -1≤bl s p∧(p:Int)+bl s p≤(s.size:Int):=by
 unfold bl
 by_cases h1:(s.get! p).toNat=32∨(s.get! p).toNat=9∨(s.get! p).toNat=13∨(s.get! p).toNat=10
 ·rw[if_pos h1];omega
 rw[if_neg h1]
 by_cases h2:(s.get! p).toNat≠47∨s.size≤p+1
 ·rw[if_pos h2];omega
 rw[if_neg h2]
 by_cases h3:(s.get! (p+1)).toNat=47
 ·rw[if_pos h3]
  have:=ln_le s (p+2) (by omega)
  omega
 rw[if_neg h3]
 by_cases h4:(s.get! (p+1)).toNat≠42
 ·rw[if_pos h4];omega
 rw[if_neg h4]
 cases e:bc s (p+2) s.size with
 |none=>show -1≤(-1:Int)∧(p:Int) + -1≤_;omega
 |some q=>
  have:=bc_le s _ _ _ e
  show -1≤((q - p+2:Nat):Int)∧(p:Int)+((q - p+2:Nat):Int)≤_
  omega
theorem lit_in (s:ByteArray):∀f i acc l q,i≤s.size→lit s f i acc=some (l,q)→i<q∧q≤s.size
 |0,_,_,_,_,_,h=>by simp[lit]at h
 |f+1,i,acc,l,q,hi,h=>by
  rw[lit]at h
  by_cases h1:s.size≤i
  ·rw[if_pos h1]at h;cases h
  rw[if_neg h1]at h
  by_cases h2:(s.get! i).toNat=34
  ·rw[if_pos h2]at h
   have e:i+1=q:=by injection h with h;injection h
   omega
  rw[if_neg h2]at h
  by_cases h3:(s.get! i).toNat=10
  ·rw[if_pos h3]at h;cases h
  rw[if_neg h3]at h
  by_cases h4:(s.get! i).toNat=92
  ·rw[if_pos h4]at h
   by_cases h5:(esc s (i+1)).2=0
   ·rw[if_pos h5]at h;cases h
   ·rw[if_neg h5]at h
    have he:=((esc_le s (i+1)).2.2 h5).1
    have ih:=lit_in s f _ _ l q (by omega) h
    omega
  ·rw[if_neg h4]at h
   have ih:=lit_in s f _ _ l q (by omega) h
   omega
theorem litRes_le (s:ByteArray)(p:Nat)(hp:p<s.size):p+(litRes s p).2≤s.size:=by
 unfold litRes litAt
 by_cases h:s.size≤p∨(s.get! p).toNat≠34
 ·rw[if_pos h];show p+0≤_;omega
 ·rw[if_neg h]
  cases e:lit s (s.size+1) (p+1) [] with
  |none=>show p+0≤_;omega
  |some lq=>
   obtain⟨l,q⟩:=lq
   have:=lit_in s _ _ _ l q (by omega) e
   show p+(q - p)≤_
   omega
theorem sg_le (s:ByteArray)(p:Nat)(hp:p<s.size):p+sg s p≤s.size:=by
 unfold sg
 by_cases h:p+2≤s.size∧sl2.contains [s.get! p,s.get! (p+1)]=true
 ·rw[if_pos h];omega
 ·rw[if_neg h];split<;>omega
theorem tok_le (s:ByteArray)(p:Nat)(hp:p<s.size):p+(tok s p).2≤s.size:=by
 have hr:=run_le s p (by omega)
 have hl:=litRes_le s p hp
 have hg:=sg_le s p hp
 unfold tok
 split
 ·exact hr
 ·split
  ·split
   ·show p+0≤_;omega
   ·exact hr
  ·split
   ·exact hl
   ·split
    ·show p+0≤_;omega
    ·exact hg
def LexGives (w w':World)(e:Ending)(r:List (Nat × Nat × Nat) × Nat × Nat):Prop:=
 ∃v',e = .returned (.tuple #[v',.int .i64 (r.2.1:Nat),.int .i64 (r.2.2:Nat)])∧w'.ownsRow w.heap.size 73 3 v' r.1.length (tcv r.1)∧Below w.heap.size w w'
theorem lexGives_nil {w w':World}{r:List (Nat × Nat × Nat) × Nat × Nat}{a c:Nat}(h:r=([],a,c))(hb:Below w.heap.size w w'):LexGives w w' (.returned (.tuple #[.slice none 0 0,.int .i64 a,.int .i64 c])) r:=by
 rw[h];exact⟨_,rfl,World.ownsRow_nil _ _ _ _,hb⟩
def TCells (w:World)(g:Nat)(l:List (Nat × Nat × Nat)):Prop:=∀i,i<l.length→w.cell? ⟨g,i*3,none⟩=some (.int .i64 ((l.getD i (0,0,0)).1:Nat))∧w.cell? ⟨g,i*3+1,none⟩=some (.int .i64 ((l.getD i (0,0,0)).2.1:Nat))∧w.cell? ⟨g,i*3+2,none⟩=some (.int .i64 ((l.getD i (0,0,0)).2.2:Nat))
theorem tcv_at : ∀(l:List (Nat × Nat × Nat)) i,i<l.length→(tcv l)[i*3]?=some (.int .i64 ((l.getD i (0,0,0)).1:Nat))∧(tcv l)[i*3+1]?=some (.int .i64 ((l.getD i (0,0,0)).2.1:Nat))∧(tcv l)[i*3+2]?=some (.int .i64 ((l.getD i (0,0,0)).2.2:Nat))
 | [],i,h=>absurd h (Nat.not_lt_zero _)
 |t::r,0,_=>⟨rfl,rfl,rfl⟩
 |t::r,i+1,h=>by
  have ih:=tcv_at r i (by simpa using h)
  rw[show (i+1)*3=i*3+3 by omega]
  exact ih
end Go.Proofs.YtbiakdjpeblclaaGreatDoor
