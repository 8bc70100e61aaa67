/-
  Plain facts on tokens: runs, words, numbers, signs, blanks and comments.
-/
import Derived.Test.YtbiakdjpeblclaaGreatDoorJPaE
import Derived.Lib.AtoiAll
import Derived.Lib.Index
import Derived.Test.YtbiakdjpeblclaaGreatDoorJPaT
import Derived.Deep.RegionLaw
namespace Go.Proofs.YtbiakdjpeblclaaGreatDoor
open Go.RowKit
def isD (c:Nat):Bool:=decide (48≤c∧c≤57)
def isL (c:Nat):Bool:=decide ((97≤c∧c≤122)∨(65≤c∧c≤90)∨c=95)
def isR (c:Nat):Bool:=isL c||isD c
theorem isD_iff (c:Nat):isD c=true↔48≤c∧c≤57:=by unfold isD;rw[decide_eq_true_iff]
theorem isL_iff (c:Nat):isL c=true↔(97≤c∧c≤122)∨(65≤c∧c≤90)∨c=95:=by unfold isL;rw[decide_eq_true_iff]
theorem isR_iff (c:Nat):isR c=true↔isL c=true∨isD c=true:=by unfold isR;rw[Bool.or_eq_true]
theorem isR_low {c:Nat}(h:isR c=true):c<128:=by
 rcases (isR_iff c).1 h with g|g
 ·have:=(isL_iff c).1 g;omega
 ·have:=(isD_iff c).1 g;omega
def cw (P:Nat→Bool)(s:ByteArray)(p:Nat):Nat→Nat
 |0=>0
 |f+1=>if p<s.size∧P (s.get! p).toNat=true then 1+cw P s (p+1) f else 0
theorem cw_all (P:Nat→Bool)(s:ByteArray):∀f p j,j<cw P s p f→p+j<s.size∧P (s.get! (p+j)).toNat=true
 |0,_,_,h=>absurd h (Nat.not_lt_zero _)
 |f+1,p,j,h=>by
  rw[cw]at h
  by_cases c:p<s.size∧P (s.get! p).toNat=true
  ·rw[if_pos c]at h
   cases j with
   |zero=>exact c
   |succ j=>
    have:=cw_all P s f (p+1) j (by omega)
    rw[show p+1+j=p+(j+1) by omega]at this
    exact this
  ·rw[if_neg c]at h;exact absurd h (Nat.not_lt_zero _)
theorem cw_end (P:Nat→Bool)(s:ByteArray):∀f p,cw P s p f<f→¬(p+cw P s p f<s.size∧P (s.get! (p+cw P s p f)).toNat=true)
 |0,_,h=>absurd h (Nat.not_lt_zero _)
 |f+1,p,h=>by
  rw[cw]at h ⊢
  by_cases c:p<s.size∧P (s.get! p).toNat=true
  ·rw[if_pos c]at h ⊢
   have:=cw_end P s f (p+1) (by omega)
   rw[show p+1+cw P s (p+1) f=p+(1+cw P s (p+1) f) by omega]at this
   exact this
  ·rw[if_neg c];exact c
theorem cw_is {P:Nat→Bool}{s:ByteArray}{p n:Nat}(hp:p+n≤s.size)(h1:∀j,j<n→P (s.get! (p+j)).toNat=true)(h2:¬(p+n<s.size∧P (s.get! (p+n)).toNat=true)):cw P s p s.size=n:=by
 have ha:=cw_all P s s.size p
 have he:¬(p+cw P s p s.size<s.size∧P (s.get! (p+cw P s p s.size)).toNat=true):=by
  by_cases h:cw P s p s.size<s.size
  ·exact cw_end P s s.size p h
  ·intro g;omega
 rcases Nat.lt_trichotomy (cw P s p s.size) n with h|h|h
 ·exact absurd ⟨by omega,h1 _ h⟩ he
 ·exact h
 ·exact absurd (ha n h) h2
def run (s:ByteArray)(p:Nat):Nat:=cw isR s p s.size
theorem run_le (s:ByteArray)(p:Nat)(hp:p≤s.size):p+run s p≤s.size:=by
 unfold run
 rcases Nat.eq_zero_or_pos (cw isR s p s.size) with h|h
 ·omega
 ·have:=(cw_all isR s s.size p (cw isR s p s.size - 1) (by omega)).1
  omega
theorem run_end (s:ByteArray)(p:Nat):¬(p+run s p<s.size∧isR (s.get! (p+run s p)).toNat=true):=by
 by_cases h:run s p<s.size
 ·exact cw_end isR s s.size p h
 ·intro g;omega
theorem run_all (s:ByteArray)(p:Nat):∀j,j<run s p→p+j<s.size∧isR (s.get! (p+j)).toNat=true:=cw_all isR s s.size p
theorem run_is {s:ByteArray}{p n:Nat}(hp:p+n≤s.size)(h1:∀j,j<n→isR (s.get! (p+j)).toNat=true)(h2:¬(p+n<s.size∧isR (s.get! (p+n)).toNat=true)):run s p=n:=cw_is hp h1 h2
theorem run_ext (s:ByteArray)(p:Nat)(hp:p≤s.size):run (s.extract p s.size) 0=run s p:=by
 have hz:=size_ext s p hp
 have hl:=run_le s p hp
 refine run_is (by omega) (fun j hj=>?_) ?_
 ·rw[get!_extract,Nat.zero_add];exact (run_all s p j hj).2
 ·rw[get!_extract,Nat.zero_add,hz]
  intro g
  exact run_end s p ⟨by omega,g.2⟩
theorem get!_ext2 (s:ByteArray)(p q k:Nat)(hq:q≤s.size)(hk:p+k<q):(s.extract p q).get! k=s.get! (p+k):=by
 have h1:k<(s.extract p q).size:=by rw[ByteArray.size_extract];omega
 rw[Utf8W.get!_of_lt _ k h1,Utf8W.get!_of_lt _ (p+k) (by omega),ByteArray.getElem_extract h1]
theorem size_ext2 (s:ByteArray)(p q:Nat)(hq:q≤s.size):(s.extract p q).size=q - p:=by rw[ByteArray.size_extract];omega
def wl : List (List UInt8):=[[109,97,99,114,111],[105,110,116],[116,101,120,116],[108,101,116],[99,97,108,108],[102,111,114],[116,111],[105,102],[101,108,115,101],[103,114,105,100],[119,97,108,108],[111,112,101,110],[108,97,110,101],[103,97,116,101],[98,97,114],[122,111,110,101],[99,111,115,116],[115,116,97,116,105,111,110],[99,104,97,114,103,101,114],[97,116],[116,114,117,101],[102,97,108,115,101],[110,111,114,116,104],[101,97,115,116],[115,111,117,116,104],[119,101,115,116]]
def isW (s:ByteArray):Bool:=wl.contains s.toList
def nval (s:ByteArray):Nat→Nat→Nat→Int
 |0,_,v=>v
 |k+1,p,v=>if isD (s.get! p).toNat=true then (if 99999<v*10+((s.get! p).toNat - 48) then -1 else nval s k (p+1) (v*10+((s.get! p).toNat - 48))) else -1
def nvl : List UInt8→Nat→Int
 | [],v=>v
 |c::r,v=>if isD c.toNat=true then (if 99999<v*10+(c.toNat - 48) then -1 else nvl r (v*10+(c.toNat - 48))) else -1
theorem nvl_nval (s:ByteArray):∀k p v,p+k≤s.size→nvl ((s.data.toList.drop p).take k) v=nval s k p v
 |0,p,v,_=>by simp[nvl,nval]
 |k+1,p,v,h=>by
  have hlt:p<s.data.toList.length:=by rw[Array.length_toList];show p<s.size;omega
  have e:s.data.toList.drop p=s.data.toList[p]::s.data.toList.drop (p+1):=List.drop_eq_getElem_cons hlt
  have e2:s.data.toList[p]=s.get! p:=by rw[Utf8W.get!_of_lt s p (by omega),Array.getElem_toList];rfl
  rw[e,List.take_succ_cons,nvl,nval,nvl_nval s k (p+1) _ (by omega),e2]
theorem pu_ge : ∀(l:List UInt8) (v u:Nat),Lib.parseUint10 v l = .ok u→v≤u
 | [],v,u,h=>by
   simp only[Lib.parseUint10]at h
   injection h with h
   omega
 |c::r,v,u,h=>by
  simp only[Lib.parseUint10]at h
  split at h
  ·split at h
   ·cases h
   ·split at h
    ·cases h
    ·have:=pu_ge r _ u h
     omega
  ·cases h
theorem nvl_pu : ∀(l:List UInt8) (v:Nat),v≤99999→(0≤nvl l v↔∃u,Lib.parseUint10 v l = .ok u∧u≤99999)
 | [],v,hv=>⟨fun _=>⟨v,rfl,hv⟩,fun _=>by simp[nvl]⟩
 |c::r,v,hv=>by
  rw[nvl]
  by_cases hd:isD c.toNat=true
  ·have hd':=(isD_iff _).1 hd
   rw[if_pos hd]
   by_cases hb:99999<v*10+(c.toNat - 48)
   ·rw[if_pos hb]
    constructor
    ·intro h;omega
    ·rintro⟨u,h1,h2⟩
     simp only[Lib.parseUint10]at h1
     rw[if_pos hd',if_neg (by omega),if_neg (by omega)]at h1
     have:=pu_ge r _ u h1
     omega
   ·rw[if_neg hb,nvl_pu r _ (by omega)]
    simp only[Lib.parseUint10]
    rw[if_pos hd',if_neg (by omega),if_neg (by omega)]
  ·rw[if_neg hd]
   constructor
   ·intro h;omega
   ·rintro⟨u,h1,h2⟩
    simp only[Lib.parseUint10]at h1
    rw[if_neg (fun g=>hd ((isD_iff _).2 g))]at h1
    cases h1
def sl2 : List (List UInt8):=[[61,61],[33,61],[60,61],[62,61],[38,38],[124,124]]
def sl1 : List UInt8:=[40,41,123,125,44,59,61,60,62,38,43,45,42,47,37,33]
def sl : List (List UInt8):=sl2++sl1.map fun a=>[a]
def sg (s:ByteArray)(p:Nat):Nat:=if p+2≤s.size∧sl2.contains [s.get! p,s.get! (p+1)]=true then 2 else if sl1.contains (s.get! p)=true then 1 else 0
theorem sl_lo {j:Nat}(h:j<6):sl.getD j []=sl2.getD j []∧(sl2.getD j []).length=2∧sl2.getD j []∈sl2:=by
 match j,h with
 |0,_=>decide
 |1,_=>decide
 |2,_=>decide
 |3,_=>decide
 |4,_=>decide
 |5,_=>decide
theorem sl_hi : ∀j:Fin 16,sl.getD (6+j.val) [] = [sl1.getD j.val 0]∧sl1.getD j.val 0∈sl1:=by decide
theorem sg_two {s:ByteArray}{p n:Nat}(hn:n<6)(h:p+2≤s.size)(e:[s.get! p,s.get! (p+1)]=sl.getD n []):sg s p=2:=by
 unfold sg
 rw[if_pos ⟨h,by rw[List.contains_iff_mem,e,(sl_lo hn).1];exact (sl_lo hn).2.2⟩]
theorem no_two {s:ByteArray}{p:Nat}(h:∀j,j<6→¬(p+2≤s.size∧[s.get! p,s.get! (p+1)]=sl.getD j [])):¬(p+2≤s.size∧sl2.contains [s.get! p,s.get! (p+1)]=true):=by
 rintro⟨h1,h2⟩
 rw[List.contains_iff_mem]at h2
 obtain⟨j,hj,e⟩:=List.getElem_of_mem h2
 have hj6:j<6:=hj
 exact h j hj6 ⟨h1,by rw[(sl_lo hj6).1,← e];simp[List.getD,List.getElem?_eq_getElem hj]⟩
theorem sg_one {s:ByteArray}{p n:Nat}(hn:6≤n)(hn2:n<22)(h:∀j,j<6→¬(p+2≤s.size∧[s.get! p,s.get! (p+1)]=sl.getD j []))(e:[s.get! p]=sl.getD n []):sg s p=1:=by
 unfold sg
 rw[if_neg (no_two h),if_pos]
 have:=sl_hi ⟨n - 6,by omega⟩
 simp only[show 6+(n - 6)=n by omega]at this
 rw[this.1]at e
 rw[List.contains_iff_mem,(List.cons.inj e).1]
 exact this.2
theorem sg_none {s:ByteArray}{p:Nat}(h:∀j,j<6→¬(p+2≤s.size∧[s.get! p,s.get! (p+1)]=sl.getD j []))(h2:∀j,6≤j→j<22→[s.get! p]≠sl.getD j []):sg s p=0:=by
 unfold sg
 rw[if_neg (no_two h),if_neg]
 intro g
 rw[List.contains_iff_mem]at g
 obtain⟨j,hj,e⟩:=List.getElem_of_mem g
 have hj16:j<16:=hj
 have:=sl_hi ⟨j,hj16⟩
 refine h2 (6+j) (by omega) (by omega) ?_
 rw[this.1]
 simp[List.getD,List.getElem?_eq_getElem hj,e]
theorem list_one (s:ByteArray)(p:Nat)(h:p+1≤s.size):(s.extract p (p+1)).toList = [s.get! p]:=by
 have hz:=size_ext2 s p (p+1) h
 have g0:=get!_ext2 s p (p+1) 0 h (by omega)
 rw[Lib.toList_data]
 generalize s.extract p (p+1)=x at hz g0 ⊢
 obtain⟨⟨l⟩⟩:=x
 have hl:l.length=1:=by
  have e:(ByteArray.mk l.toArray).size=l.length:=by show l.toArray.size=_;simp
  have e2:(ByteArray.mk ⟨l⟩).size=(ByteArray.mk l.toArray).size:=rfl
  omega
 match l,hl with
 | [a],_=>
   show [a]=_
   rw[← show s.get! (p+0)=s.get! p from rfl,← g0]
   rfl
theorem list_two (s:ByteArray)(p:Nat)(h:p+2≤s.size):(s.extract p (p+2)).toList = [s.get! p,s.get! (p+1)]:=by
 have hz:=size_ext2 s p (p+2) h
 have g0:=get!_ext2 s p (p+2) 0 h (by omega)
 have g1:=get!_ext2 s p (p+2) 1 h (by omega)
 rw[Lib.toList_data]
 generalize s.extract p (p+2)=x at hz g0 g1 ⊢
 obtain⟨⟨l⟩⟩:=x
 have hl:l.length=2:=by
  have e:(ByteArray.mk l.toArray).size=l.length:=by show l.toArray.size=_;simp
  have e2:(ByteArray.mk ⟨l⟩).size=(ByteArray.mk l.toArray).size:=rfl
  omega
 match l,hl with
 | [a,c],_=>
   show [a,c]=_
   rw[← show s.get! (p+0)=s.get! p from rfl,← g0,← g1]
   rfl
def ln (s:ByteArray)(q:Nat):Nat:=cw (fun c=>c != 10) s q s.size
def bc (s:ByteArray)(q:Nat):Nat→Option Nat
 |0=>none
 |f+1=>if q+1<s.size then (if (s.get! q).toNat=42∧(s.get! (q+1)).toNat=47 then some q else bc s (q+1) f) else none
theorem bc_hit (s:ByteArray):∀f q m,m<f→q+m+1<s.size→(∀j,j<m→¬((s.get! (q+j)).toNat=42∧(s.get! (q+j+1)).toNat=47))→(s.get! (q+m)).toNat=42→(s.get! (q+m+1)).toNat=47→bc s q f=some (q+m)
 |0,_,m,h,_,_,_,_=>absurd h (Nat.not_lt_zero _)
 |f+1,q,0,_,h1,_,h3,h4=>by rw[bc,if_pos h1,if_pos ⟨h3,h4⟩];rfl
 |f+1,q,m+1,h,h1,h2,h3,h4=>by
  have e:q+(m+1)=q+1+m:=by omega
  have h20:¬((s.get! q).toNat=42∧(s.get! (q+1)).toNat=47):=h2 0 (by omega)
  rw[bc,if_pos (by omega),if_neg h20,e]
  rw[e]at h1 h3 h4
  exact bc_hit s f (q+1) m (by omega) h1 (fun j hj=>by
   have:=h2 (j+1) (by omega)
   rw[show q+(j+1)=q+1+j by omega]at this
   exact this) h3 h4
theorem bc_miss (s:ByteArray):∀f q,(∀j,q+j+1<s.size→¬((s.get! (q+j)).toNat=42∧(s.get! (q+j+1)).toNat=47))→bc s q f=none
 |0,_,_=>rfl
 |f+1,q,h=>by
  rw[bc]
  by_cases c:q+1<s.size
  ·have h0:¬((s.get! q).toNat=42∧(s.get! (q+1)).toNat=47):=h 0 c
   rw[if_pos c,if_neg h0]
   exact bc_miss s f (q+1) (fun j hj=>by
    have:=h (j+1) (by omega)
    rw[show q+(j+1)=q+1+j by omega]at this
    exact this)
  ·rw[if_neg c]
def bcl (p:Nat):Option Nat→Int
 |some q=>((q - p+2:Nat):Int)
 |none=> -1
def bl (s:ByteArray)(p:Nat):Int:=
 if (s.get! p).toNat=32∨(s.get! p).toNat=9∨(s.get! p).toNat=13∨(s.get! p).toNat=10 then 1
 else if (s.get! p).toNat≠47∨s.size≤p+1 then 0
 else if (s.get! (p+1)).toNat=47 then ((2+ln s (p+2):Nat):Int)
 else if (s.get! (p+1)).toNat≠42 then 0
 else bcl p (bc s (p+2) s.size)
def tok (s:ByteArray)(p:Nat):Nat × Nat:=
 if isL (s.get! p).toNat=true then (if isW (s.extract p (p+run s p))=true then 2 else 1,run s p)
 else if 0<run s p then (if nval s (run s p) p 0<0 then (0,0) else (3,run s p))
 else if (s.get! p).toNat=34 then (4,(litRes s p).2)
 else if sg s p=0 then (0,0) else (5,sg s p)
def lex (s:ByteArray):Nat→Nat→List (Nat × Nat × Nat)→List (Nat × Nat × Nat) × Nat × Nat
 |0,_,acc=>(acc,0,0)
 |f+1,p,acc=>
  if p<s.size then
   (if 0<bl s p then lex s f (p+(bl s p).toNat) acc
   else if bl s p<0 then ([],2,p)
   else if (tok s p).2=0 then ([],2,p)
   else lex s f (p+(tok s p).2) (acc++[((tok s p).1,p,(tok s p).2)]))
  else (acc,0,0)
def lexed (s:ByteArray):List (Nat × Nat × Nat) × Nat × Nat:=
 if 5000<s.size then ([],4,5000) else if (chk s).1=0 then lex s (s.size+1) 0 [] else ([],(chk s).1,(chk s).2)
end Go.Proofs.YtbiakdjpeblclaaGreatDoor
namespace Go.Proofs.YtbiakdjpeblclaaGreatDoor
structure Nd where
 kind:Int
 n:Int
 text:ByteArray
 names:List ByteArray
 types:List Int
 count:Int
def Nd.zero : Nd:=⟨0,0,.empty,[],[],0⟩
end Go.Proofs.YtbiakdjpeblclaaGreatDoor
namespace Go.Proofs.YtbiakdjpeblclaaGreatDoor
open Go.RowKit
def nagg (d:Nd)(vt vn vy:Value):Value:=.agg #[.int .i64 d.kind,.int .i64 d.n,vt,vn,vy,.int .i64 d.count]
structure NV (w:World)(d:Nd)(vt vn vy:Value):Prop where
 text:BS w vt d.text
 names:SS w vn d.names
 types:IS w vy d.types
structure NC (w:World)(b p:Nat)(d:Nd)(vt vn vy:Value):Prop where
 kind:w.cell? ⟨b,p,none⟩=some (.int .i64 d.kind)
 n:w.cell? ⟨b,p+1,none⟩=some (.int .i64 d.n)
 text:w.cell? ⟨b,p+2,none⟩=some vt
 names:w.cell? ⟨b,p+3,none⟩=some vn
 types:w.cell? ⟨b,p+4,none⟩=some vy
 count:w.cell? ⟨b,p+5,none⟩=some (.int .i64 d.count)
def NS (w:World)(v:Value)(L:List Nd):Prop:=∃a b o c,v = .slice a L.length c∧(0<L.length→a=some ⟨b,o,none⟩)∧∀j,j<L.length→∃vt vn vy,NC w b (o+j*6) (L.getD j .zero) vt vn vy∧NV w (L.getD j .zero) vt vn vy
theorem NV.below {w w':World}{d:Nd}{vt vn vy:Value}(h:NV w d vt vn vy)(hb:Below w.heap.size w w'):NV w' d vt vn vy:=⟨h.text.below hb,h.names.below hb,h.types.below hb⟩
theorem NC.below {w w':World}{b p:Nat}{d:Nd}{vt vn vy:Value}(h:NC w b p d vt vn vy)(hb:Below w.heap.size w w'):NC w' b p d vt vn vy:=
 ⟨cell_kept h.kind hb,cell_kept h.n hb,cell_kept h.text hb,cell_kept h.names hb,cell_kept h.types hb,cell_kept h.count hb⟩
theorem NS.below {w w':World}{v:Value}{L:List Nd}(h:NS w v L)(hb:Below w.heap.size w w'):NS w' v L:=by
 obtain⟨a,b,o,c,h1,h2,h3⟩:=h
 refine⟨a,b,o,c,h1,h2,fun j hj=>?_⟩
 obtain⟨vt,vn,vy,h4,h5⟩:=h3 j hj
 exact⟨vt,vn,vy,h4.below hb,h5.below hb⟩
structure NO (w:World)(G:Nat)(d:Nd)(vt vn vy:Value):Prop where
 text:BO w G vt d.text
 names:SO w G vn d.names
 types:ICp w G vy d.types
theorem NO.below {w w':World}{G:Nat}{d:Nd}{vt vn vy:Value}(h:NO w G d vt vn vy)(hb:Below w.heap.size w w'):NO w' G d vt vn vy:=⟨h.text.below hb,h.names.below hb,h.types.below hb⟩
theorem NO.set {w:World}{G k:Nat}{d:Nd}{vt vn vy x:Value}(h:NO w G d vt vn vy):NO (w.setCell ⟨G,k,none⟩ x) G d vt vn vy:=⟨h.text.set,h.names.set,h.types.set⟩
theorem NO.setAt {w:World}{G G' k:Nat}{d:Nd}{vt vn vy x:Value}(h:NO w G d vt vn vy)(hG:G'≤G):NO (w.setCell ⟨G',k,none⟩ x) G d vt vn vy:=⟨h.text.setAt hG,h.names.setAt hG,h.types.setAt hG⟩
theorem NO.lower {w:World}{G G':Nat}{d:Nd}{vt vn vy:Value}(h:NO w G d vt vn vy)(hG:G'≤G):NO w G' d vt vn vy:=by
 obtain⟨h1,⟨b,c,h2,h3,h4,h4z,h5⟩,⟨b',c',h6,h7⟩⟩:=h
 exact⟨h1.lower hG,⟨b,c,by omega,h3,h4,h4z,h5⟩,⟨b',c',by omega,h7⟩⟩
def isStat (k:Int):Bool:=decide (3≤k)&&decide (k≤15)
def isExpr (k:Int):Bool:=decide (16≤k)&&decide (k≤22)
set_option maxHeartbeats 400000 in
set_option maxRecDepth 1000000 in
theorem implStat_any (k:Int)(w:World):Calls Tryz.prog 125 #[.int .i64 k] w fun e w'=>e = .returned (.bool (isStat k))∧w'=w:=by
 by_cases h:3≤k
 ·have d1:decide ((3:Int)≤k)=true:=decide_eq_true h
  have HS:Hid (isStat k=decide (k≤15)):=by show _=_;unfold isStat;rw[d1];rfl
  go_enter Tryz.func125,Tryz.ntmps125
  go_wp2
  go_ret
  exact⟨by rw[HS.out];rfl,by trivial⟩
 ·have d1:decide ((3:Int)≤k)=false:=decide_eq_false h
  have HS:Hid (isStat k=false):=by show _=_;unfold isStat;rw[d1];rfl
  go_enter Tryz.func125,Tryz.ntmps125
  go_wp2
  go_ret
  exact⟨by rw[HS.out];rfl,by trivial⟩
set_option maxHeartbeats 400000 in
set_option maxRecDepth 1000000 in
theorem implExpr_any (k:Int)(w:World):Calls Tryz.prog 126 #[.int .i64 k] w fun e w'=>e = .returned (.bool (isExpr k))∧w'=w:=by
 by_cases h:16≤k
 ·have d1:decide ((16:Int)≤k)=true:=decide_eq_true h
  have HS:Hid (isExpr k=decide (k≤22)):=by show _=_;unfold isExpr;rw[d1];rfl
  go_enter Tryz.func126,Tryz.ntmps126
  go_wp2
  go_ret
  exact⟨by rw[HS.out];rfl,by trivial⟩
 ·have d1:decide ((16:Int)≤k)=false:=decide_eq_false h
  have HS:Hid (isExpr k=false):=by show _=_;unfold isExpr;rw[d1];rfl
  go_enter Tryz.func126,Tryz.ntmps126
  go_wp2
  go_ret
  exact⟨by rw[HS.out];rfl,by trivial⟩
set_option maxHeartbeats 400000 in
set_option maxRecDepth 1000000 in
theorem specStat_any (k:Int)(w:World):Calls Tryz.prog 102 #[.int .i64 k] w fun e w'=>e = .returned (.bool (isStat k))∧w'=w:=by
 by_cases h:3≤k
 ·have d1:decide ((3:Int)≤k)=true:=decide_eq_true h
  have HS:Hid (isStat k=decide (k≤15)):=by show _=_;unfold isStat;rw[d1];rfl
  go_enter Tryz.func102,Tryz.ntmps102
  go_wp2
  go_ret
  exact⟨by rw[HS.out];rfl,by trivial⟩
 ·have d1:decide ((3:Int)≤k)=false:=decide_eq_false h
  have HS:Hid (isStat k=false):=by show _=_;unfold isStat;rw[d1];rfl
  go_enter Tryz.func102,Tryz.ntmps102
  go_wp2
  go_ret
  exact⟨by rw[HS.out];rfl,by trivial⟩
set_option maxHeartbeats 400000 in
set_option maxRecDepth 1000000 in
theorem specExpr_any (k:Int)(w:World):Calls Tryz.prog 101 #[.int .i64 k] w fun e w'=>e = .returned (.bool (isExpr k))∧w'=w:=by
 by_cases h:16≤k
 ·have d1:decide ((16:Int)≤k)=true:=decide_eq_true h
  have HS:Hid (isExpr k=decide (k≤22)):=by show _=_;unfold isExpr;rw[d1];rfl
  go_enter Tryz.func101,Tryz.ntmps101
  go_wp2
  go_ret
  exact⟨by rw[HS.out];rfl,by trivial⟩
 ·have d1:decide ((16:Int)≤k)=false:=decide_eq_false h
  have HS:Hid (isExpr k=false):=by show _=_;unfold isExpr;rw[d1];rfl
  go_enter Tryz.func101,Tryz.ntmps101
  go_wp2
  go_ret
  exact⟨by rw[HS.out];rfl,by trivial⟩
theorem kinds (k:Int):(k=0∨k=1∨k=2∨k=3∨k=4∨k=5∨k=6∨k=7∨k=8∨k=9∨k=10∨k=11∨k=12∨k=13∨k=14∨k=15∨k=16∨k=17∨k=18∨k=19∨k=20∨k=21∨k=22)∨(k<0∨22<k):=by omega
def gNk (k:Int):Int:=if k=10∨k=11∨k=12 then 3 else if k=16 then 99999 else if k=18 then 1 else if k=20 then 13 else 0
set_option maxHeartbeats 1000000 in
set_option maxRecDepth 1000000 in
theorem greatestN_any (k:Int)(w:World):Calls Tryz.prog 121 #[.int .i64 k] w fun e w'=>e = .returned (.int .i64 (gNk k))∧w'=w:=by
 rcases kinds k with h|h
 ·rcases h with rfl|rfl|rfl|rfl|rfl|rfl|rfl|rfl|rfl|rfl|rfl|rfl|rfl|rfl|rfl|rfl|rfl|rfl|rfl|rfl|rfl|rfl|rfl
  all_goals
   go_enter Tryz.func121,Tryz.ntmps121
   go_wp2
   go_ret
   exact⟨rfl,by trivial⟩
 ·have HS:Hid (gNk k=0):=by show _=_;unfold gNk;rw[if_neg (by omega),if_neg (by omega),if_neg (by omega),if_neg (by omega)]
  have e1:(k==10)=false:=by rw[beq_eq_false_iff_ne];omega
  have e2:(k==11)=false:=by rw[beq_eq_false_iff_ne];omega
  have e3:(k==12)=false:=by rw[beq_eq_false_iff_ne];omega
  have e4:(k==16)=false:=by rw[beq_eq_false_iff_ne];omega
  have e5:(k==18)=false:=by rw[beq_eq_false_iff_ne];omega
  have e6:(k==20)=false:=by rw[beq_eq_false_iff_ne];omega
  clear h
  go_enter Tryz.func121,Tryz.ntmps121
  go_wp2
  go_ret
  exact⟨by rw[HS.out];rfl,by trivial⟩
def ptK (k:Int):TypeId:=
 if k=0 then 151 else if k=1 then 152 else if k=2 then 153 else if k=3 then 154 else if k=4 then 155 else if k=5 then 156 else if k=6 then 157 else if k=7 then 158 else if k=8 then 158 else if k=9 then 158 else if k=10 then 159 else if k=11 then 159 else if k=12 then 159 else if k=13 then 160 else if k=14 then 161 else if k=15 then 161 else if k=16 then 162 else if k=17 then 163 else if k=18 then 164 else if k=19 then 165 else if k=20 then 166 else if k=21 then 167 else 167
def paggP (d:Nd)(pl:Nat)(vt vn vy vb:Value):Value:=.agg #[.int .i64 d.kind,.int .i64 d.n,vt,vn,vy,.int .i64 d.count,.int .i64 (pl:Nat),vb]
set_option maxHeartbeats 2000000 in
set_option maxRecDepth 1000000 in
theorem newPartP_any (d:Nd)(pl:Nat)(a1 a2 a3 a4:Option Addr)(l1 l2 l3 l4 c1 c2 c3 c4:Nat)(w:World)(h0:0≤d.kind)(h1:d.kind≤22):
 Calls Tryz.prog 82 #[paggP d pl (.slice a1 l1 c1) (.slice a2 l2 c2) (.slice a3 l3 c3) (.slice a4 l4 c4)] w fun r w'=>r = .returned (.iface (ptK d.kind) (paggP d pl (.slice a1 l1 c1) (.slice a2 l2 c2) (.slice a3 l3 c3) (.slice a4 l4 c4)))∧Below w.heap.size w w':=by
 obtain⟨K,N,T,M,Y,C⟩:=d
 unfold paggP
 simp only at h0 h1 ⊢
 obtain⟨W1,hW1⟩:∃W1,w.alloc (.cells #[.int .i64 K,.int .i64 N,.slice a1 l1 c1,.slice a2 l2 c2,.slice a3 l3 c3,.int .i64 C,.int .i64 (pl:Nat),.slice a4 l4 c4] 98)=W1:=⟨_,rfl⟩
 have HB1:Hid (Below w.heap.size w W1):=by show Below _ _ _;rw[← hW1];exact (Below.refl _ _).alloc (Nat.le_refl _) _
 have hBk:Blk W1 w.heap.size 98 #[.int .i64 K,.int .i64 N,.slice a1 l1 c1,.slice a2 l2 c2,.slice a3 l3 c3,.int .i64 C,.int .i64 (pl:Nat),.slice a4 l4 c4]:=by rw[← hW1];exact Blk.new _ _ _
 have g0:=hBk.cell 0
 have g1:=hBk.cell 1
 have g2:=hBk.cell 2
 have g3:=hBk.cell 3
 have g4:=hBk.cell 4
 have g5:=hBk.cell 5
 have g6:=hBk.cell 6
 have g7:=hBk.cell 7
 simp only[List.getElem?_toArray,List.getElem?_cons_succ,List.getElem?_cons_zero]at g0 g1 g2 g3 g4 g5 g6 g7
 have q:K=0∨K=1∨K=2∨K=3∨K=4∨K=5∨K=6∨K=7∨K=8∨K=9∨K=10∨K=11∨K=12∨K=13∨K=14∨K=15∨K=16∨K=17∨K=18∨K=19∨K=20∨K=21∨K=22:=by omega
 clear hBk
 rcases q with rfl|rfl|rfl|rfl|rfl|rfl|rfl|rfl|rfl|rfl|rfl|rfl|rfl|rfl|rfl|rfl|rfl|rfl|rfl|rfl|rfl|rfl|rfl
 all_goals
  go_enter Tryz.func82,Tryz.ntmps82
  go_wp2
  go_ret
  exact⟨rfl,HB1.out⟩
theorem wp_app_at {ops:Array Oper}{rest:List Oper}{o:Oper}{a:Act}{Q:Exit→Act→World→Prop}{w:World}(hgd:o.guard=none)(s x:Operand)
 (ho:o.op = .call { callee:=.builtin .append,args:=#[s,x],argTypes:=#[22,22] }) (B:Nat) (v:Value) (xs:List Nat) (hs:a.eval s=v) (hown:w.ownsRow B 5 1 v xs.length (cv xs))
 (g f c:Nat) (ys:List Nat) (hx:a.eval x = .slice (some ⟨g,f,none⟩) ys.length c) (hnews:∀j,j<ys.length→w.cell? ⟨g,f+j,none⟩=some (.int .u8 (ys.getD j 0:Nat))) (hlen:xs.length+ys.length≤100000000) (hbase:B≤w.heap.size)
 (h:∀v' w' l,Hid (l=xs++ys)→w'.ownsRow B 5 1 v' l.length (cv l)→w.grownBy w' v.ownBlock→wpList Tryz.prog ops Q rest (a.put o.dst v') w'):wpList Tryz.prog ops Q (o::rest) a w:=by
 obtain⟨i0,hi,hz0,hz1,hz2⟩:=info_parts Tryz.info5
 refine wpList_append_own _ hgd s x 22 ho B 5 i0 (.int .u8 0) 1 1 Tryz.underlying22 hi hz0 hz1 hz2 rfl (by decide) v xs.length (cv xs) hs hown ⟨g,f,none⟩ ys.length c (cv ys) hx (by rw[cv_length,Nat.mul_one]) (fun j u hj=>?_) (cv_one ys) (by unfold maxLen;omega) (by omega) hbase (fun v' w' h1 h2 _=>?_)
 ·have hjl:j<ys.length:=by
   rcases Nat.lt_or_ge j ys.length with h|h
   ·exact h
   ·rw[List.getElem?_eq_none (by rw[cv_length];exact h)]at hj;cases hj
  have e:(⟨g,f,none⟩:Addr).add j = ⟨g,f+j,none⟩:=by unfold Addr.add;split<;>simp_all
  rw[e,hnews j hjl,← hj]
  simp[cv,List.getD,hjl]
 ·refine h v' w' (xs++ys) rfl ?_ h2
  rw[List.length_append,cv_append]
  exact h1
theorem wp_app {ops:Array Oper}{rest:List Oper}{o:Oper}{a:Act}{Q:Exit→Act→World→Prop}{w:World}(hgd:o.guard=none)(s x:Operand)
 (ho:o.op = .call { callee:=.builtin .append,args:=#[s,x],argTypes:=#[22,22] }) (B:Nat) (v:Value) (xs:List Nat) (hs:a.eval s=v) (hown:w.ownsRow B 5 1 v xs.length (cv xs))
 (g c:Nat) (ys:List Nat) (hx:a.eval x = .slice (some ⟨g,0,none⟩) ys.length c) (hnews:∀j,j<ys.length→w.cell? ⟨g,j,none⟩=some (.int .u8 (ys.getD j 0:Nat))) (hlen:xs.length+ys.length≤100000000) (hbase:B≤w.heap.size)
 (h:∀v' w' l,Hid (l=xs++ys)→w'.ownsRow B 5 1 v' l.length (cv l)→w.grownBy w' v.ownBlock→wpList Tryz.prog ops Q rest (a.put o.dst v') w'):wpList Tryz.prog ops Q (o::rest) a w:=
 wp_app_at hgd s x ho B v xs hs hown g 0 c ys hx (fun j hj=>by rw[Nat.zero_add];exact hnews j hj) hlen hbase h
theorem app_below {B:Nat}{w0 w w':World}{v:Value}{n:Nat}{xs:List Value}(h:Below B w0 w)(hown:w.ownsRow B 5 1 v n xs)(hB:B≤w.heap.size)(hg:w.grownBy w' v.ownBlock):Below B w0 w':=
 h.grown hg hB (fun k hk=>(hown.lt k hk).1)
theorem kept_below {w w':World}{B:Nat}{v:Value}{n:Nat}{xs:List Value}(h:w.ownsRow B 5 1 v n xs)(hb:Below w.heap.size w w'):w'.ownsRow B 5 1 v n xs:=
 h.kept (row:=none) ⟨hb.os,hb.tape,hb.output,hb.size,fun k hk _=>hb.block k hk⟩ (by cases v.ownBlock<;>simp)
theorem ret_vi {k:IntKind}{v:Value}{a b:Int}(h:a=b):Ending.returned (.tuple #[v,.int k a]) = .returned (.tuple #[v,.int k b]):=by rw[h]
theorem cell_fresh (w:World)(cs:Array Value)(t:TypeId)(j:Nat):(w.alloc (.cells cs t)).cell? ⟨w.heap.size,j,none⟩=cs[j]?:=by
 have h:(w.alloc (.cells cs t)).heap[w.heap.size]?=some (.cells cs t):=by
  show (w.heap.push _)[w.heap.size]?=_
  rw[Array.getElem?_push_size]
 unfold World.cell?
 rw[h]
 rfl
end Go.Proofs.YtbiakdjpeblclaaGreatDoor
