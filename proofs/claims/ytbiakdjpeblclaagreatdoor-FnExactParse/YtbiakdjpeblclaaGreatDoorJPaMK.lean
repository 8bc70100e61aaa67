/-
  Cells that are written; markByteS, heldByteS, markIntS, heldIntS at any slice.
-/
import Derived.Test.YtbiakdjpeblclaaGreatDoorJPaT
import Derived.Test.YtbiakdjpeblclaaGreatDoorJPaE
import Derived.Laws.BytesString
import Derived.Test.YtbiakdjpeblclaaGreatDoorJPaLX
import Derived.Lib.AppendStr
namespace Go.Proofs.YtbiakdjpeblclaaGreatDoor
open Go.RowKit
structure Wrt (b:Nat)(w w':World):Prop where
 os:w'.os=w.os
 tape:w'.tape=w.tape
 output:w'.output=w.output
 size:w'.heap.size=w.heap.size
 blk:∀g,g≠b→w'.heap[g]?=w.heap[g]?
 has:∀p:Addr,(∃v,w.cell? p=some v)→∃v,w'.cell? p=some v
 fz:∀p:Addr,w'.frozen? p=w.frozen? p
theorem Wrt.refl (b:Nat)(w:World):Wrt b w w:=⟨rfl,rfl,rfl,rfl,fun _ _=>rfl,fun _ h=>h,fun _=>rfl⟩
theorem has_setCell {w:World}{q:Addr}{u v:Value}(hq:w.cell? q=some v)(p:Addr)(h:∃x,w.cell? p=some x):∃x,(w.setCell q u).cell? p=some x:=by
 by_cases e:p=q
 ·subst e;exact⟨u,World.cell?_setCell_same _ _ _ hq⟩
 ·obtain⟨x,hx⟩:=h
  exact⟨x,by rw[World.cell?_setCell_other _ _ _ _ (fun h=>e h.symm)];exact hx⟩
theorem Wrt.setCell {b o:Nat}{w w':World}{v:Value}(h:Wrt b w w')(hq:w'.cell? ⟨b,o,none⟩=some v)(u:Value):Wrt b w (w'.setCell ⟨b,o,none⟩ u):=
 ⟨h.os,h.tape,h.output,by rw[World.size_setCell];exact h.size,fun g hg=>by rw[Below.heap_setCell _ _ _ _ hg];exact h.blk g hg,fun p hp=>has_setCell hq p (h.has p hp),fun p=>by rw[World.frozen?_setCell];exact h.fz p⟩
theorem Wrt.below {b B:Nat}{w w':World}(h:Wrt b w w')(hb:B≤b):Below B w w':=
 ⟨h.os,h.tape,h.output,by rw[h.size];exact Nat.le_refl _,fun g hg=>h.blk g (by omega)⟩
theorem Wrt.cell {b:Nat}{w w':World}(h:Wrt b w w'){p:Addr}(hp:p.block≠b):w'.cell? p=w.cell? p:=World.cell?_of_block (w:=w) (h.blk _ hp)
structure Wrs (bl:List Nat)(w w':World):Prop where
 os:w'.os=w.os
 tape:w'.tape=w.tape
 output:w'.output=w.output
 size:w.heap.size≤w'.heap.size
 blk:∀g,g<w.heap.size→g∉bl→w'.heap[g]?=w.heap[g]?
theorem Wrs.refl (bl:List Nat)(w:World):Wrs bl w w:=⟨rfl,rfl,rfl,Nat.le_refl _,fun _ _ _=>rfl⟩
theorem Wrs.trans {bl:List Nat}{a b c:World}(h:Wrs bl a b)(k:Wrs bl b c):Wrs bl a c:=
 ⟨k.os.trans h.os,k.tape.trans h.tape,k.output.trans h.output,Nat.le_trans h.size k.size,fun g hg ho=>(k.blk g (Nat.lt_of_lt_of_le hg h.size) ho).trans (h.blk g hg ho)⟩
theorem Wrs.mono {bl bl':List Nat}{w w':World}(h:Wrs bl w w')(hs:∀g∈bl,g∈bl'):Wrs bl' w w':=
 ⟨h.os,h.tape,h.output,h.size,fun g hg ho=>h.blk g hg (fun hm=>ho (hs g hm))⟩
theorem Wrs.of_below {bl:List Nat}{w w':World}(h:Below w.heap.size w w'):Wrs bl w w':=⟨h.os,h.tape,h.output,h.size,fun g hg _=>h.block g hg⟩
theorem Wrs.below {bl:List Nat}{B:Nat}{w w':World}(h:Wrs bl w w')(hB:∀g∈bl,B≤g)(hw:B≤w.heap.size):Below B w w':=
 ⟨h.os,h.tape,h.output,h.size,fun g hg=>h.blk g (by omega) (fun hm=>by have:=hB g hm;omega)⟩
theorem Wrs.set {bl:List Nat}{w w':World}{b o:Nat}(h:Wrs bl w w')(hb:b∈bl)(u:Value):Wrs bl w (w'.setCell ⟨b,o,none⟩ u):=
 ⟨h.os,h.tape,h.output,by rw[World.size_setCell];exact h.size,fun g hg ho=>by rw[Below.heap_setCell _ _ _ _ (fun e=>ho (by rw[e];exact hb))];exact h.blk g hg ho⟩
structure Fr (w w':World)(bl:List Nat):Prop where
 nd:bl.Nodup
 lo:∀g∈bl,w.heap.size≤g
 hi:∀g∈bl,g<w'.heap.size
theorem Fr.mono {w0 w w' w1:World}{bl:List Nat}(h:Fr w w' bl)(h0:w0.heap.size≤w.heap.size)(h1:w'.heap.size≤w1.heap.size):Fr w0 w1 bl:=
 ⟨h.nd,fun g hg=>by have:=h.lo g hg;omega,fun g hg=>by have:=h.hi g hg;omega⟩
theorem Fr.append {a b b' c:World}{x y:List Nat}(h:Fr a b x)(k:Fr b' c y)(hb:b.heap.size≤b'.heap.size)(hab:a.heap.size≤b.heap.size)(hbc:b'.heap.size≤c.heap.size):Fr a c (x++y):=
 ⟨List.nodup_append.2 ⟨h.nd,k.nd,fun p hp q hq e=>by have h1:=h.hi p hp;have h2:=k.lo q hq;omega⟩,fun g hg=>by
  rcases List.mem_append.1 hg with h1|h1
  ·exact h.lo g h1
  ·have:=k.lo g h1;omega,fun g hg=>by
  rcases List.mem_append.1 hg with h1|h1
  ·have:=h.hi g h1;omega
  ·exact k.hi g h1⟩
theorem Fr.one {w w':World}{b:Nat}(h1:w.heap.size≤b)(h2:b<w'.heap.size)(P:Prop)[Decidable P]:Fr w w' (if P then [b] else []):=by
 by_cases h:P
 ·rw[if_pos h]
  exact⟨by simp,fun g hg=>by rw[List.mem_singleton.1 hg];exact h1,fun g hg=>by rw[List.mem_singleton.1 hg];exact h2⟩
 ·rw[if_neg h]
  exact⟨List.nodup_nil,fun g hg=>(by cases hg),fun g hg=>(by cases hg)⟩
theorem Fr.nil (w w':World):Fr w w' []:=⟨List.nodup_nil,fun g hg=>(by cases hg),fun g hg=>(by cases hg)⟩
def mkB (k:Nat):Value:=.int .u8 ((k % 256:Nat):Int)
def mkI (k:Nat):Value:=.int .i64 (k:Int)
theorem set_hit {w:World}{b o m:Nat}{u v:Value}(h:w.cell? ⟨b,o+m,none⟩=some v)(j:Nat):(w.setCell ⟨b,o+m,none⟩ u).cell? ⟨b,j,none⟩=if j=o+m then some u else w.cell? ⟨b,j,none⟩:=by
 by_cases e:j=o+m
 ·subst e;rw[if_pos rfl];exact World.cell?_setCell_same _ _ _ h
 ·rw[if_neg e];exact World.cell?_setCell_other _ _ _ _ (fun h=>e (by have:=congrArg Addr.off h;exact this.symm))
def BF (w:World)(v:Value)(s:ByteArray)(bl:List Nat):Prop:=∃a b o c,v = .slice a s.size c∧(0<s.size→a=some ⟨b,o,none⟩)∧bl=(if 0<s.size then [b] else [])∧∀j,j<s.size→w.cell? ⟨b,o+j,none⟩=some (bts s j)∧w.frozen? ⟨b,o+j,none⟩=false
theorem BF.rd {w:World}{v:Value}{s:ByteArray}{bl:List Nat}(h:BF w v s bl):BS w v s:=by
 obtain⟨a,b,o,c,h1,h2,_,h3⟩:=h
 exact⟨a,b,o,c,h1,h2,fun j hj=>(h3 j hj).1⟩
theorem BF.lt {w:World}{v:Value}{s:ByteArray}{bl:List Nat}(h:BF w v s bl):∀g∈bl,g<w.heap.size:=by
 obtain⟨a,b,o,c,h1,h2,rfl,h3⟩:=h
 intro g hg
 by_cases hz:0<s.size
 ·rw[if_pos hz]at hg
  obtain rfl:=List.mem_singleton.1 hg
  exact World.block_lt_of_cell? _ _ (h3 0 hz).1
 ·rw[if_neg hz]at hg;cases hg
theorem BF.keep {w w':World}{v:Value}{s:ByteArray}{bl:List Nat}(h:BF w v s bl)(hk:∀g∈bl,w'.heap[g]?=w.heap[g]?):BF w' v s bl:=by
 obtain⟨a,b,o,c,h1,h2,rfl,h3⟩:=h
 refine⟨a,b,o,c,h1,h2,rfl,fun j hj=>?_⟩
 have hz:0<s.size:=by omega
 have hb:=hk b (by rw[if_pos hz];exact List.mem_singleton.2 rfl)
 exact⟨(World.cell?_of_block (w:=w) (a:=⟨b,o+j,none⟩) hb).trans (h3 j hj).1,(World.frozen?_of_block (w:=w) (a:=⟨b,o+j,none⟩) hb).trans (h3 j hj).2⟩
theorem BF.below {w w':World}{v:Value}{s:ByteArray}{bl:List Nat}(h:BF w v s bl)(hb:Below w.heap.size w w'):BF w' v s bl:=h.keep fun g hg=>hb.block g (h.lt g hg)
theorem BF.slice {w:World}{v:Value}{s:ByteArray}{bl:List Nat}(h:BF w v s bl):∃a c,v = .slice a s.size c:=by
 obtain⟨a,b,o,c,h1,_⟩:=h;exact⟨a,c,h1⟩
def BM (w:World)(v:Value)(n k:Nat)(bl:List Nat):Prop:=∃a b o c,v = .slice a n c∧(0<n→a=some ⟨b,o,none⟩)∧bl=(if 0<n then [b] else [])∧∀j,j<n→w.cell? ⟨b,o+j,none⟩=some (mkB (k+j))
theorem BM.keep {w w':World}{v:Value}{n k:Nat}{bl:List Nat}(h:BM w v n k bl)(hk:∀g∈bl,w'.heap[g]?=w.heap[g]?):BM w' v n k bl:=by
 obtain⟨a,b,o,c,h1,h2,rfl,h3⟩:=h
 refine⟨a,b,o,c,h1,h2,rfl,fun j hj=>?_⟩
 have hz:0<n:=by omega
 have hb:=hk b (by rw[if_pos hz];exact List.mem_singleton.2 rfl)
 exact (World.cell?_of_block (w:=w) (a:=⟨b,o+j,none⟩) hb).trans (h3 j hj)
theorem BM.lt {w:World}{v:Value}{n k:Nat}{bl:List Nat}(h:BM w v n k bl):∀g∈bl,g<w.heap.size:=by
 obtain⟨a,b,o,c,h1,h2,rfl,h3⟩:=h
 intro g hg
 by_cases hz:0<n
 ·rw[if_pos hz]at hg
  obtain rfl:=List.mem_singleton.1 hg
  exact World.block_lt_of_cell? _ _ (h3 0 hz)
 ·rw[if_neg hz]at hg;cases hg
theorem BM.below {w w':World}{v:Value}{n k:Nat}{bl:List Nat}(h:BM w v n k bl)(hb:Below w.heap.size w w'):BM w' v n k bl:=h.keep fun g hg=>hb.block g (h.lt g hg)
theorem BM.slice {w:World}{v:Value}{n k:Nat}{bl:List Nat}(h:BM w v n k bl):∃a c,v = .slice a n c:=by
 obtain⟨a,b,o,c,h1,_⟩:=h;exact⟨a,c,h1⟩
def IF (w:World)(v:Value)(s:List Int)(bl:List Nat):Prop:=∃a b o c,v = .slice a s.length c∧(0<s.length→a=some ⟨b,o,none⟩)∧bl=(if 0<s.length then [b] else [])∧∀j,j<s.length→w.cell? ⟨b,o+j,none⟩=some (.int .i64 (s.getD j 0))∧w.frozen? ⟨b,o+j,none⟩=false
theorem IF.rd {w:World}{v:Value}{s:List Int}{bl:List Nat}(h:IF w v s bl):IS w v s:=by
 obtain⟨a,b,o,c,h1,h2,_,h3⟩:=h
 exact⟨a,b,o,c,h1,h2,fun j hj=>(h3 j hj).1⟩
theorem IF.lt {w:World}{v:Value}{s:List Int}{bl:List Nat}(h:IF w v s bl):∀g∈bl,g<w.heap.size:=by
 obtain⟨a,b,o,c,h1,h2,rfl,h3⟩:=h
 intro g hg
 by_cases hz:0<s.length
 ·rw[if_pos hz]at hg
  obtain rfl:=List.mem_singleton.1 hg
  exact World.block_lt_of_cell? _ _ (h3 0 hz).1
 ·rw[if_neg hz]at hg;cases hg
theorem IF.keep {w w':World}{v:Value}{s:List Int}{bl:List Nat}(h:IF w v s bl)(hk:∀g∈bl,w'.heap[g]?=w.heap[g]?):IF w' v s bl:=by
 obtain⟨a,b,o,c,h1,h2,rfl,h3⟩:=h
 refine⟨a,b,o,c,h1,h2,rfl,fun j hj=>?_⟩
 have hz:0<s.length:=by omega
 have hb:=hk b (by rw[if_pos hz];exact List.mem_singleton.2 rfl)
 exact⟨(World.cell?_of_block (w:=w) (a:=⟨b,o+j,none⟩) hb).trans (h3 j hj).1,(World.frozen?_of_block (w:=w) (a:=⟨b,o+j,none⟩) hb).trans (h3 j hj).2⟩
theorem IF.below {w w':World}{v:Value}{s:List Int}{bl:List Nat}(h:IF w v s bl)(hb:Below w.heap.size w w'):IF w' v s bl:=h.keep fun g hg=>hb.block g (h.lt g hg)
theorem IF.slice {w:World}{v:Value}{s:List Int}{bl:List Nat}(h:IF w v s bl):∃a c,v = .slice a s.length c:=by
 obtain⟨a,b,o,c,h1,_⟩:=h;exact⟨a,c,h1⟩
def IM (w:World)(v:Value)(n k:Nat)(bl:List Nat):Prop:=∃a b o c,v = .slice a n c∧(0<n→a=some ⟨b,o,none⟩)∧bl=(if 0<n then [b] else [])∧∀j,j<n→w.cell? ⟨b,o+j,none⟩=some (mkI (k+j))
theorem IM.keep {w w':World}{v:Value}{n k:Nat}{bl:List Nat}(h:IM w v n k bl)(hk:∀g∈bl,w'.heap[g]?=w.heap[g]?):IM w' v n k bl:=by
 obtain⟨a,b,o,c,h1,h2,rfl,h3⟩:=h
 refine⟨a,b,o,c,h1,h2,rfl,fun j hj=>?_⟩
 have hz:0<n:=by omega
 have hb:=hk b (by rw[if_pos hz];exact List.mem_singleton.2 rfl)
 exact (World.cell?_of_block (w:=w) (a:=⟨b,o+j,none⟩) hb).trans (h3 j hj)
theorem IM.lt {w:World}{v:Value}{n k:Nat}{bl:List Nat}(h:IM w v n k bl):∀g∈bl,g<w.heap.size:=by
 obtain⟨a,b,o,c,h1,h2,rfl,h3⟩:=h
 intro g hg
 by_cases hz:0<n
 ·rw[if_pos hz]at hg
  obtain rfl:=List.mem_singleton.1 hg
  exact World.block_lt_of_cell? _ _ (h3 0 hz)
 ·rw[if_neg hz]at hg;cases hg
theorem IM.below {w w':World}{v:Value}{n k:Nat}{bl:List Nat}(h:IM w v n k bl)(hb:Below w.heap.size w w'):IM w' v n k bl:=h.keep fun g hg=>hb.block g (h.lt g hg)
theorem IM.slice {w:World}{v:Value}{n k:Nat}{bl:List Nat}(h:IM w v n k bl):∃a c,v = .slice a n c:=by
 obtain⟨a,b,o,c,h1,_⟩:=h;exact⟨a,c,h1⟩
theorem toStr_bs {w:World}{v:Value}{s:ByteArray}(h:BS w v s):(convert 22 9 v).run Tryz.prog w = .ok (.string s) w:=by
 obtain⟨a,b,o,c,rfl,ha,hc⟩:=h
 by_cases h0:0<s.size
 ·obtain rfl:=ha h0
  exact toStr_run s w b o c hc
 ·have hz:s.size=0:=by omega
  have e:s=ByteArray.empty:=ext_bytes hz (fun j hj=>by omega)
  subst e
  show (convert 22 9 (.slice a 0 c)).run Tryz.prog w=_
  rw[run_convert_bytes_string w 22 9 5 a 0 c Tryz.underlying22 Tryz.underlying5 Tryz.underlying9]
  cases a<;>simp[Conv.bytesToString,loadCells]
  all_goals rfl
def byt (l:List Nat):ByteArray:=⟨(l.map fun n=>UInt8.ofNat n).toArray⟩
def Lo (l:List Nat):Prop:=∀x∈l,x<256
theorem Lo.nil : Lo []:=fun _ h=>nomatch h
theorem Lo.app {a b:List Nat}(h:Lo a)(k:Lo b):Lo (a++b):=fun x hx=>(List.mem_append.1 hx).elim (h x) (k x)
theorem Lo.one {n:Nat}(h:n<256):Lo [n]:=fun x hx=>by rw[List.mem_singleton.1 hx];exact h
theorem Lo.cons {n:Nat}{l:List Nat}(h:n<256)(k:Lo l):Lo (n::l):=fun x hx=>(List.mem_cons.1 hx).elim (fun e=>e ▸ h) (k x)
theorem byt_size (l:List Nat):(byt l).size=l.length:=by show (byt l).data.size=_;unfold byt;simp
theorem byt_cells {l:List Nat}(h:Lo l):Lib.strCells (byt l)=cv l:=by
 unfold Lib.strCells byt cv
 rw[List.toList_toArray,List.map_map]
 refine List.map_congr_left fun x hx=>?_
 have:=h x hx
 show Value.int .u8 ((UInt8.ofNat x).toNat:Int)=_
 rw[UInt8.toNat_ofNat_of_lt' (by exact this)]
end Go.Proofs.YtbiakdjpeblclaaGreatDoor
namespace Go.Proofs.YtbiakdjpeblclaaGreatDoor
def sgW : List ByteArray:=[(⟨#[124,124]⟩:ByteArray),(⟨#[38,38]⟩:ByteArray),(⟨#[61,61]⟩:ByteArray),(⟨#[33,61]⟩:ByteArray),(⟨#[60]⟩:ByteArray),(⟨#[60,61]⟩:ByteArray),(⟨#[62]⟩:ByteArray),(⟨#[62,61]⟩:ByteArray),(⟨#[38]⟩:ByteArray),(⟨#[43]⟩:ByteArray),(⟨#[45]⟩:ByteArray),(⟨#[42]⟩:ByteArray),(⟨#[47]⟩:ByteArray),(⟨#[37]⟩:ByteArray)]
def sgB : List Nat:=[1,2,3,3,3,3,3,3,4,5,5,6,6,6]
def wyN : List ByteArray:=[(⟨#[110,111,114,116,104]⟩:ByteArray),(⟨#[101,97,115,116]⟩:ByteArray),(⟨#[115,111,117,116,104]⟩:ByteArray),(⟨#[119,101,115,116]⟩:ByteArray)]
end Go.Proofs.YtbiakdjpeblclaaGreatDoor
namespace Go.Proofs.YtbiakdjpeblclaaGreatDoor
structure PsE where
 s:ByteArray
 T:List (Nat × Nat × Nat)
structure Ps where
 at_:Nat
 bad:Int
 long:Bool
structure Pt where
 t:List Nd
 p:List Nat
namespace PsE
def tk (e:PsE)(p:Ps):Nat × Nat × Nat:=e.T.getD p.at_ (0,0,0)
def kind (e:PsE)(p:Ps):Nat:=if 0≤p.bad∨e.T.length≤p.at_ then 0 else (e.tk p).1
def now (e:PsE)(p:Ps):ByteArray:=if e.kind p=0 then ⟨#[]⟩ else e.s.extract (e.tk p).2.1 ((e.tk p).2.1+(e.tk p).2.2)
def place (e:PsE)(p:Ps):Nat:=if p.at_<e.T.length then (e.tk p).2.1 else e.s.size
def is (e:PsE)(p:Ps)(w:ByteArray):Bool:=(decide (e.kind p=2)||decide (e.kind p=5))&&decide (e.now p=w)
def wrong (e:PsE)(p:Ps):Ps:=if p.bad<0 then { p with bad:=e.place p } else p
def want (e:PsE)(p:Ps)(w:ByteArray):Ps:=if e.is p w then { p with at_:=p.at_+1 } else e.wrong p
def ident (e:PsE)(p:Ps):ByteArray × Ps:=if e.kind p=1 then (e.now p,{ p with at_:=p.at_+1,long:=p.long||decide (30<(e.now p).size) }) else (⟨#[]⟩,e.wrong p)
end PsE
def Ps.on (p:Ps):Ps:={ p with at_:=p.at_+1 }
def ptN (n:Nd)(pl:Nat)(ks:List Pt):Pt:=⟨{ n with count:=(ks.length:Int) }::(ks.map Pt.t).flatten,pl::(ks.map Pt.p).flatten⟩
def ndK (k:Int):Nd:=⟨k,0,.empty,[],[],0⟩
def opAt (e:PsE)(p:Ps):Nat→Int
 |0=> -1
 |k+1=>if e.is p (sgW.getD k ⟨#[]⟩) then (k:Int) else opAt e p k
def vl (s:ByteArray):Int:=nval s s.size 0 0
mutual
def rE (e:PsE):Nat→Nat→Ps→Pt × Ps
 |0,_,p=>(⟨[],[]⟩,p)
 |f+1,least,p=>rEl e f least (rU e f p).1 (rU e f p).2
def rEl (e:PsE):Nat→Nat→Pt→Ps→Pt × Ps
 |0,_,x,p=>(x,p)
 |f+1,least,x,p=>
  if e.kind p=5 then
   (if opAt e p 14<0∨sgB.getD (opAt e p 14).toNat 0<least then (x,p)
   else rEl e f least (ptN { ndK 20 with n:=opAt e p 14 } (e.place p) [x,(rE e f (sgB.getD (opAt e p 14).toNat 0+1) p.on).1]) (rE e f (sgB.getD (opAt e p 14).toNat 0+1) p.on).2)
  else (x,p)
def rU (e:PsE):Nat→Ps→Pt × Ps
 |0,p=>(⟨[],[]⟩,p)
 |f+1,p=>
  if e.is p (⟨#[33]⟩:ByteArray) then (ptN (ndK 21) (e.place p) [(rU e f p.on).1],(rU e f p.on).2)
  else if e.is p (⟨#[45]⟩:ByteArray) then (ptN (ndK 22) (e.place p) [(rU e f p.on).1],(rU e f p.on).2)
  else if e.is p (⟨#[40]⟩:ByteArray) then ((rE e f 1 p.on).1,e.want (rE e f 1 p.on).2 (⟨#[41]⟩:ByteArray))
  else if e.is p (⟨#[116,114,117,101]⟩:ByteArray) then (ptN { ndK 18 with n:=1 } (e.place p) [],p.on)
  else if e.is p (⟨#[102,97,108,115,101]⟩:ByteArray) then (ptN (ndK 18) (e.place p) [],p.on)
  else if e.kind p=3 then (ptN { ndK 16 with n:=vl (e.now p) } (e.place p) [],p.on)
  else if e.kind p=4 then (ptN { ndK 17 with text:=byt (unq (e.now p)).1 } (e.place p) [],{ p.on with long:=p.long||decide (60<(unq (e.now p)).1.length) })
  else (ptN { ndK 19 with names:=[(e.ident p).1] } (e.place p) [],(e.ident p).2)
end
def rCell (e:PsE)(f:Nat)(p:Ps):List Pt × Ps:=
 let a:=rE e f 1 p
 let c:=rE e f 1 (e.want a.2 (⟨#[44]⟩:ByteArray))
 ([a.1,c.1],c.2)
def rArea (e:PsE)(f:Nat)(p:Ps):List Pt × Ps:=
 let a:=rCell e f p
 if e.is a.2 (⟨#[116,111]⟩:ByteArray) then (a.1++(rCell e f a.2.on).1,(rCell e f a.2.on).2) else a
def rWay (e:PsE)(p:Ps):Nat × Ps:=
 if e.is p (wyN.getD 0 ⟨#[]⟩) then (0,p.on) else if e.is p (wyN.getD 1 ⟨#[]⟩) then (1,p.on) else if e.is p (wyN.getD 2 ⟨#[]⟩) then (2,p.on) else if e.is p (wyN.getD 3 ⟨#[]⟩) then (3,p.on) else (0,e.wrong p)
def rArgs (e:PsE)(f:Nat):Nat→List Pt→Ps→List Pt × Ps
 |0,ks,p=>(ks,p)
 |c+1,ks,p=>
  if p.bad<0∧¬(ks.length=0∧e.is p (⟨#[41]⟩:ByteArray)=true) then
   (let x:=rE e f 1 p
   if e.is x.2 (⟨#[44]⟩:ByteArray) then rArgs e f c (ks++[x.1]) x.2.on else (ks++[x.1],x.2))
  else (ks,p)
def rPars (e:PsE):Nat→List Int→List ByteArray→Ps→List Int × List ByteArray × Ps
 |0,ty,ns,p=>(ty,ns,p)
 |c+1,ty,ns,p=>
  if p.bad<0∧¬(ty.length=0∧e.is p (⟨#[41]⟩:ByteArray)=true) then
   (let q:=if e.is p (⟨#[105,110,116]⟩:ByteArray) then (0,p.on) else ((1:Int),e.want p (⟨#[116,101,120,116]⟩:ByteArray))
   let x:=e.ident q.2
   if e.is x.2 (⟨#[44]⟩:ByteArray) then rPars e c (ty++[q.1]) (ns++[x.1]) x.2.on else (ty++[q.1],ns++[x.1],x.2))
  else (ty,ns,p)
def rMany (e:PsE)(st:Ps→Pt × Ps):Nat→List Pt→Ps→List Pt × Ps
 |0,ks,p=>(ks,p)
 |c+1,ks,p=>if p.bad<0∧¬e.is p (⟨#[125]⟩:ByteArray)=true then rMany e st c (ks++[(st p).1]) (st p).2 else (ks,p)
def rBlock (e:PsE)(c:Nat)(st:Ps→Pt × Ps)(p:Ps):Pt × Ps:=
 let ks:=rMany e st c [] (e.want p (⟨#[123]⟩:ByteArray))
 (ptN (ndK 2) (e.place p) ks.1,e.want ks.2 (⟨#[125]⟩:ByteArray))
def rIf (e:PsE)(f:Nat)(blk:Ps→Pt × Ps):Nat→Nat→Ps→Pt × Ps
 |0,_,p=>(⟨[],[]⟩,p)
 |c+1,pl,p=>
  let x:=rE e f 1 p
  let y:=blk x.2
  if e.is y.2 (⟨#[101,108,115,101]⟩:ByteArray) then
   (if e.is y.2.on (⟨#[105,102]⟩:ByteArray) then (ptN (ndK 6) pl [x.1,y.1,(rIf e f blk c (e.place y.2.on) y.2.on.on).1],(rIf e f blk c (e.place y.2.on) y.2.on.on).2)
   else (ptN (ndK 6) pl [x.1,y.1,(blk y.2.on).1],(blk y.2.on).2))
  else (ptN (ndK 6) pl [x.1,y.1],y.2)
def rEnd (e:PsE)(n:Nd)(pl:Nat)(r:List Pt × Ps):Pt × Ps:=(ptN n pl r.1,e.want r.2 (⟨#[59]⟩:ByteArray))
def rFlat (e:PsE)(f:Nat)(p:Ps):Pt × Ps:=
 if e.is p (⟨#[108,101,116]⟩:ByteArray) then (let x:=e.ident p.on;let y:=rE e f 1 (e.want x.2 (⟨#[61]⟩:ByteArray));rEnd e { ndK 3 with names:=[x.1] } (e.place p) ([y.1],y.2))
 else if e.is p (⟨#[99,97,108,108]⟩:ByteArray) then (let x:=e.ident p.on;let y:=rArgs e f e.T.length [] (e.want x.2 (⟨#[40]⟩:ByteArray));let z:=e.want y.2 (⟨#[41]⟩:ByteArray);rEnd e { ndK 4 with names:=[x.1] } (e.place p) (y.1,{ z with long:=z.long||decide (10<y.1.length) }))
 else if e.is p (⟨#[103,114,105,100]⟩:ByteArray) then rEnd e (ndK 7) (e.place p) (rCell e f p.on)
 else if e.is p (⟨#[119,97,108,108]⟩:ByteArray) then rEnd e (ndK 8) (e.place p) (rArea e f p.on)
 else if e.is p (⟨#[111,112,101,110]⟩:ByteArray) then rEnd e (ndK 9) (e.place p) (rArea e f p.on)
 else if e.is p (⟨#[108,97,110,101]⟩:ByteArray) then (let x:=rArea e f p.on;let y:=rWay e x.2;rEnd e { ndK 10 with n:=y.1 } (e.place p) (x.1,y.2))
 else if e.is p (⟨#[103,97,116,101]⟩:ByteArray) then (let x:=rCell e f p.on;let y:=rWay e x.2;rEnd e { ndK 11 with n:=y.1 } (e.place p) (x.1,y.2))
 else if e.is p (⟨#[98,97,114]⟩:ByteArray) then (let x:=rCell e f p.on;let y:=rWay e x.2;rEnd e { ndK 12 with n:=y.1 } (e.place p) (x.1,y.2))
 else if e.is p (⟨#[122,111,110,101]⟩:ByteArray) then (let x:=rArea e f p.on;let y:=rE e f 1 (e.want x.2 (⟨#[99,111,115,116]⟩:ByteArray));rEnd e (ndK 13) (e.place p) (x.1++[y.1],y.2))
 else if e.is p (⟨#[115,116,97,116,105,111,110]⟩:ByteArray)||e.is p (⟨#[99,104,97,114,103,101,114]⟩:ByteArray) then (let x:=rE e f 1 p.on;let y:=rCell e f (e.want x.2 (⟨#[97,116]⟩:ByteArray));rEnd e (ndK (if e.is p (⟨#[99,104,97,114,103,101,114]⟩:ByteArray) then 15 else 14)) (e.place p) (x.1::y.1,y.2))
 else rEnd e (ndK 0) (e.place p) ([],e.wrong p)
def rS (e:PsE)(f:Nat):Nat→Ps→Pt × Ps
 |0,p=>(⟨[],[]⟩,p)
 |m+1,p=>
  let blk:=rBlock e e.T.length (rS e f m)
  if e.is p (⟨#[105,102]⟩:ByteArray) then rIf e f blk e.T.length (e.place p) p.on
  else if e.is p (⟨#[102,111,114]⟩:ByteArray) then
   (let x:=e.ident p.on
   let y:=rE e f 1 (e.want x.2 (⟨#[61]⟩:ByteArray))
   let z:=rE e f 1 (e.want y.2 (⟨#[116,111]⟩:ByteArray))
   let u:=blk z.2
   (ptN { ndK 5 with names:=[x.1] } (e.place p) [y.1,z.1,u.1],u.2))
  else rFlat e f p
def rMac (e:PsE)(f m pl:Nat)(p:Ps):Pt × Ps:=
 let x:=e.ident p
 let y:=rPars e e.T.length [] [x.1] (e.want x.2 (⟨#[40]⟩:ByteArray))
 let z:=e.want y.2.2 (⟨#[41]⟩:ByteArray)
 let u:=rBlock e e.T.length (rS e f m) { z with long:=z.long||decide (10<y.1.length) }
 (ptN { ndK 1 with names:=y.2.1,types:=y.1 } pl [u.1],u.2)
def rTop (e:PsE)(f m:Nat):Nat→List Pt→Ps→List Pt × Ps
 |0,ks,p=>(ks,p)
 |c+1,ks,p=>
  if p.bad<0∧p.at_<e.T.length then
   (if e.is p (⟨#[109,97,99,114,111]⟩:ByteArray) then rTop e f m c (ks++[(rMac e f m (e.place p) p.on).1]) (rMac e f m (e.place p) p.on).2 else rTop e f m c (ks++[(rS e f m p).1]) (rS e f m p).2)
  else (ks,p)
def rProg (s:ByteArray)(T:List (Nat × Nat × Nat)):Pt × Ps:=
 let e:PsE:=⟨s,T⟩
 let r:=rTop e (2*T.length+3) (T.length+1) (T.length+1) [] ⟨0, -1,false⟩
 (ptN (ndK 0) 0 r.1,r.2)
end Go.Proofs.YtbiakdjpeblclaaGreatDoor
