/-
  Plain facts on literals: what a byte is written as.
-/
import Derived.Test.YtbiakdjpeblclaaGreatDoorJPaT
import Derived.Lib.RuneBytes
import Derived.Laws.BytesArg
import Derived.Shelf.Unicode.DecodeSlow
import Derived.Lib.CutLaws
import Derived.Lib.IndexLaws
import Derived.Lib.IndexBytes
import Derived.Lib.Small
namespace Go.Proofs.YtbiakdjpeblclaaGreatDoor
open Go.RowKit
def dg (k:Nat):Nat:=if k<10 then 48+k else 87+k
def hexL (c:Nat):List Nat:=if c<16 then [dg c] else [dg (c / 16),dg (c % 16)]
def qb (c:Nat):List Nat:=if c=34∨c=92 then [92,c] else if c<32∨c=127 then [92,117,123]++hexL c++[125] else [c]
def cv (l:List Nat):List Value:=l.map fun n:Nat=>Value.int .u8 (n:Int)
def qTo (s:ByteArray):Nat→List Nat
 |0=>[34]
 |k+1=>qTo s k++qb (s.get! k).toNat
theorem cv_length (l:List Nat):(cv l).length=l.length:=by simp[cv]
theorem cv_append (a b:List Nat):cv (a++b)=cv a++cv b:=by simp[cv]
theorem cv_one (l:List Nat):∀u∈cv l,u.oneCell'=true:=by
 intro u hu
 simp only[cv,List.mem_map]at hu
 obtain⟨n,_,rfl⟩:=hu
 rfl
theorem qb_high {c:Nat}(h:128≤c):qb c = [c]:=by unfold qb;rw[if_neg (by omega),if_neg (by omega)]
theorem qTo_two (s:ByteArray)(p:Nat)(h0:128≤bk s p 0)(h1:128≤bk s p 1):qTo s (p+2)=qTo s p++[bk s p 0,bk s p 1]:=by
 show qTo s p++qb (bk s p 0)++qb (bk s p 1)=_
 rw[qb_high h0,qb_high h1];simp
theorem qTo_three (s:ByteArray)(p:Nat)(h0:128≤bk s p 0)(h1:128≤bk s p 1)(h2:128≤bk s p 2):qTo s (p+3)=qTo s p++[bk s p 0,bk s p 1,bk s p 2]:=by
 show qTo s p++qb (bk s p 0)++qb (bk s p 1)++qb (bk s p 2)=_
 rw[qb_high h0,qb_high h1,qb_high h2];simp
theorem qTo_four (s:ByteArray)(p:Nat)(h0:128≤bk s p 0)(h1:128≤bk s p 1)(h2:128≤bk s p 2)(h3:128≤bk s p 3):qTo s (p+4)=qTo s p++[bk s p 0,bk s p 1,bk s p 2,bk s p 3]:=by
 show qTo s p++qb (bk s p 0)++qb (bk s p 1)++qb (bk s p 2)++qb (bk s p 3)=_
 rw[qb_high h0,qb_high h1,qb_high h2,qb_high h3];simp
theorem qTo_rune (s:ByteArray)(p:Nat)(hp:p<s.size)(h:(chr s p).1≠0)(h0:128≤bk s p 0):
 ∃ys,qTo s (p+(chr s p).1)=qTo s p++ys∧cv ys=Lib.runeCells ((chr s p).2:Int)∧128≤(chr s p).2∧(chr s p).2≤1114111∧p+(chr s p).1≤s.size:=by
 have b0:=bk_lt s p 0
 have b1:=bk_lt s p 1
 have b2:=bk_lt s p 2
 have b3:=bk_lt s p 3
 have hn:¬(bk s p 0<192∨248≤bk s p 0):=fun g=>h (by rw[chr_none s p h0 g])
 by_cases h2:bk s p 0<224
 ·have g:=chr_two s p hp (by omega) h2
  by_cases ok:okc s p 2 (bk s p 0 - 192)
  ·rw[g.1 ok]
   have hc:=(conts_two _).1 ok.2.1
   have hu:=(ulen_two _).1 ok.2.2.2
   simp only[vacc,Nat.zero_add,Nat.add_one_sub_one]at hu ⊢
   obtain⟨V,hV⟩:∃V,(bk s p 0 - 192)*64+bk s p 1 % 64=V:=⟨_,rfl⟩
   rw[hV]at hu ⊢
   refine⟨_,qTo_two s p h0 hc.1,?_,hu.1,by omega,ok.1⟩
   have e0:((bk s p 0:Nat):Int)=192+(V:Int) / 64:=by omega
   have e1:((bk s p 1:Nat):Int)=128+(V:Int) % 64:=by omega
   simp only[Lib.runeCells]
   rw[Lib.encodeRuneZ_two (by omega) (by omega),← e0,← e1]
   rfl
  ·exact absurd (by rw[g.2 ok]) h
 by_cases h3:bk s p 0<240
 ·have g:=chr_three s p hp (by omega) h3
  by_cases ok:okc s p 3 (bk s p 0 - 224)
  ·rw[g.1 ok]
   have hc:=(conts_three _).1 ok.2.1
   have hu:=(ulen_three _).1 ok.2.2.2
   have hpt:=(pointB_nat _).1 ok.2.2.1
   simp only[vacc,Nat.zero_add,Nat.add_one_sub_one,Nat.reduceAdd]at hu hpt ⊢
   obtain⟨V,hV⟩:∃V,((bk s p 0 - 224)*64+bk s p 1 % 64)*64+bk s p 2 % 64=V:=⟨_,rfl⟩
   rw[hV]at hu hpt ⊢
   refine⟨_,qTo_three s p h0 hc.1.1 hc.2.1,?_,by omega,by omega,ok.1⟩
   have e0:((bk s p 0:Nat):Int)=224+(V:Int) / 4096:=by omega
   have e1:((bk s p 1:Nat):Int)=128+(V:Int) / 64 % 64:=by omega
   have e2:((bk s p 2:Nat):Int)=128+(V:Int) % 64:=by omega
   simp only[Lib.runeCells]
   rw[Lib.encodeRuneZ_three (by omega),← e0,← e1,← e2]
   rfl
  ·exact absurd (by rw[g.2 ok]) h
 ·have g:=chr_four s p hp (by omega) (by omega)
  by_cases ok:okc s p 4 (bk s p 0 - 240)
  ·rw[g.1 ok]
   have hc:=(conts_four _).1 ok.2.1
   have hu:=(ulen_four _).1 ok.2.2.2
   have hpt:=(pointB_nat _).1 ok.2.2.1
   simp only[vacc,Nat.zero_add,Nat.add_one_sub_one,Nat.reduceAdd]at hu hpt ⊢
   obtain⟨V,hV⟩:∃V,(((bk s p 0 - 240)*64+bk s p 1 % 64)*64+bk s p 2 % 64)*64+bk s p 3 % 64=V:=⟨_,rfl⟩
   rw[hV]at hu hpt ⊢
   refine⟨_,qTo_four s p h0 hc.1.1 hc.2.1.1 hc.2.2.1,?_,by omega,by omega,ok.1⟩
   have e0:((bk s p 0:Nat):Int)=240+(V:Int) / 262144:=by omega
   have e1:((bk s p 1:Nat):Int)=128+(V:Int) / 4096 % 64:=by omega
   have e2:((bk s p 2:Nat):Int)=128+(V:Int) / 64 % 64:=by omega
   have e3:((bk s p 3:Nat):Int)=128+(V:Int) % 64:=by omega
   simp only[Lib.runeCells]
   rw[Lib.encodeRuneZ_four (by omega) (by omega),← e0,← e1,← e2,← e3]
   rfl
  ·exact absurd (by rw[g.2 ok]) h
def hd (c:Nat):Int:=if 48≤c∧c≤57 then (c:Int) - 48 else if 97≤c∧c≤102 then (c:Int) - 87 else if 65≤c∧c≤70 then (c:Int) - 55 else -1
theorem hd_lt (c:Nat): -1≤hd c∧hd c≤15:=by unfold hd;repeat' split<;>omega
def kc (s:ByteArray)(p:Nat):Nat→Nat
 |0=>0
 |f+1=>if p<s.size∧0≤hd (s.get! p).toNat then 1+kc s (p+1) f else 0
def hv (s:ByteArray)(p:Nat):Nat→Nat
 |0=>0
 |k+1=>hv s p k*16+(hd (s.get! (p+k)).toNat).toNat
theorem hv_lt (s:ByteArray)(p:Nat):∀k,hv s p k<16 ^ k
 |0=>by simp[hv]
 |k+1=>by
  have h:=hv_lt s p k
  have h2:=hd_lt (s.get! (p+k)).toNat
  have e:16 ^ (k+1)=16 ^ k*16:=Nat.pow_succ ..
  rw[hv,e]
  omega
theorem kc_le (s:ByteArray):∀f p,kc s p f≤f
 |0,_=>Nat.le_refl _
 |f+1,p=>by
  have:=kc_le s f (p+1)
  rw[kc];split<;>omega
def esc (s:ByteArray)(i:Nat):List Nat × Nat:=
 if s.size≤i then ([],0)
 else if (s.get! i).toNat=34∨(s.get! i).toNat=92 then ([(s.get! i).toNat],1)
 else if (s.get! i).toNat≠117∨s.size≤i+1∨(s.get! (i+1)).toNat≠123 then ([],0)
 else if kc s (i+2) 7<1∨6<kc s (i+2) 7∨s.size≤i+2+kc s (i+2) 7∨(s.get! (i+2+kc s (i+2) 7)).toNat≠125∨pointB (hv s (i+2) (kc s (i+2) 7))=false then ([],0)
 else (ubytes (hv s (i+2) (kc s (i+2) 7)),kc s (i+2) 7+3)
theorem kc_more {s:ByteArray}{p k:Nat}(hk:k<7)(h:p+k<s.size)(hh:0≤hd (s.get! (p+k)).toNat)(e:k+kc s (p+k) (7 - k)=kc s p 7):k+1+kc s (p+(k+1)) (7 - (k+1))=kc s p 7:=by
 obtain⟨f,hf⟩:∃f,7 - k=f+1:=⟨6 - k,by omega⟩
 rw[hf,kc,if_pos ⟨h,hh⟩]at e
 rw[show 7 - (k+1)=f by omega,← Nat.add_assoc p k 1]
 omega
theorem kc_stop {s:ByteArray}{p k:Nat}(hk:k≤7)(h:¬(k<7∧p+k<s.size∧0≤hd (s.get! (p+k)).toNat))(e:k+kc s (p+k) (7 - k)=kc s p 7):kc s p 7=k:=by
 by_cases h7:k=7
 ·subst h7;rw[← e];rfl
 ·obtain⟨f,hf⟩:∃f,7 - k=f+1:=⟨6 - k,by omega⟩
  rw[hf,kc,if_neg (fun g=>h ⟨by omega,g⟩)]at e
  omega
theorem ulen_pos (v:Nat):0<ulen v:=by unfold ulen;(repeat' split)<;>omega
theorem esc_le (s:ByteArray)(i:Nat):(esc s i).2≤9∧(esc s i).1.length≤4∧((esc s i).2≠0→i+(esc s i).2≤s.size∧0<(esc s i).1.length):=by
 have hk:=kc_le s 7 (i+2)
 unfold esc
 by_cases h1:s.size≤i
 ·rw[if_pos h1];exact⟨by simp,by simp,fun h=>absurd rfl h⟩
 rw[if_neg h1]
 by_cases h2:(s.get! i).toNat=34∨(s.get! i).toNat=92
 ·rw[if_pos h2];exact⟨by simp,by simp,fun _=>⟨by simp only;omega,by simp⟩⟩
 rw[if_neg h2]
 by_cases h3:(s.get! i).toNat≠117∨s.size≤i+1∨(s.get! (i+1)).toNat≠123
 ·rw[if_pos h3];exact⟨by simp,by simp,fun h=>absurd rfl h⟩
 rw[if_neg h3]
 generalize kc s (i+2) 7=k at *
 by_cases h4:k<1∨6<k∨s.size≤i+2+k∨(s.get! (i+2+k)).toNat≠125∨pointB (hv s (i+2) k)=false
 ·rw[if_pos h4];exact⟨by simp,by simp,fun h=>absurd rfl h⟩
 ·rw[if_neg h4]
  refine⟨by simp only;omega,?_,fun _=>⟨by simp only;omega,by simp only;rw[ubytes_len];exact ulen_pos _⟩⟩
  simp only
  rw[ubytes_len]
  unfold ulen
  (repeat' split)<;>omega
def lit (s:ByteArray):Nat→Nat→List Nat→Option (List Nat × Nat)
 |0,_,_=>none
 |f+1,i,acc=>
  if s.size≤i then none
  else if (s.get! i).toNat=34 then some (acc,i+1)
  else if (s.get! i).toNat=10 then none
  else if (s.get! i).toNat=92 then (if (esc s (i+1)).2=0 then none else lit s f (i+1+(esc s (i+1)).2) (acc++(esc s (i+1)).1))
  else lit s f (i+1) (acc++[(s.get! i).toNat])
def litAt (s:ByteArray)(p:Nat):Option (List Nat × Nat):=if s.size≤p∨(s.get! p).toNat≠34 then none else lit s (s.size+1) (p+1) []
def litRes (s:ByteArray)(p:Nat):List Nat × Nat:=match litAt s p with|none=>([],0)|some (l,q)=>(l,q - p)
theorem lit_end {s:ByteArray}{f i:Nat}{acc:List Nat}(h:s.size≤i):lit s f i acc=none:=by cases f<;>simp[lit,h]
theorem lit_quote {s:ByteArray}{f i:Nat}{acc:List Nat}(hf:s.size<i+f)(h:i<s.size)(hq:(s.get! i).toNat=34):lit s f i acc=some (acc,i+1):=by
 cases f with
 |zero=>omega
 |succ f=>rw[lit,if_neg (by omega),if_pos hq]
theorem lit_lf {s:ByteArray}{f i:Nat}{acc:List Nat}(h:i<s.size)(hq:(s.get! i).toNat=10):lit s f i acc=none:=by
 cases f with
 |zero=>rfl
 |succ f=>rw[lit,if_neg (by omega),if_neg (by omega),if_pos hq]
theorem lit_esc {s:ByteArray}{f i:Nat}{acc:List Nat}(hf:s.size<i+f)(h:i<s.size)(hq:(s.get! i).toNat=92):
 ((esc s (i+1)).2=0→lit s f i acc=none)∧((esc s (i+1)).2≠0→∃g,f=g+1∧lit s f i acc=lit s g (i+1+(esc s (i+1)).2) (acc++(esc s (i+1)).1)):=by
 cases f with
 |zero=>omega
 |succ f=>
  rw[lit,if_neg (by omega),if_neg (by omega),if_neg (by omega),if_pos hq]
  exact⟨fun e=>by rw[if_pos e],fun e=>⟨f,rfl,by rw[if_neg e]⟩⟩
theorem lit_byte {s:ByteArray}{f i:Nat}{acc:List Nat}(hf:s.size<i+f)(h:i<s.size)(h1:(s.get! i).toNat≠34)(h2:(s.get! i).toNat≠10)(h3:(s.get! i).toNat≠92):
 ∃g,f=g+1∧lit s f i acc=lit s g (i+1) (acc++[(s.get! i).toNat]):=by
 cases f with
 |zero=>omega
 |succ f=>exact⟨f,rfl,by rw[lit,if_neg (by omega),if_neg h1,if_neg h2,if_neg h3]⟩
def unq (s:ByteArray):List Nat × Nat:=if (chk s).1=0∧(litRes s 0).2≠0∧(litRes s 0).2=s.size then ((litRes s 0).1,0) else ([],2)
theorem get!_beyond (s:ByteArray)(j:Nat)(h:s.size≤j):s.get! j=0:=by
 cases s with|mk a=>
 simp only[ByteArray.get!]
 rw[getElem!_neg a j (by have h':a.size≤j:=h;omega)];rfl
theorem get!_extract (s:ByteArray)(i k:Nat):(s.extract i s.size).get! k=s.get! (i+k):=by
 by_cases h:i+k<s.size
 ·have h1:k<(s.extract i s.size).size:=by rw[ByteArray.size_extract];omega
  rw[Utf8W.get!_of_lt _ k h1,Utf8W.get!_of_lt _ (i+k) h]
  exact ByteArray.getElem_extract h1
 ·rw[get!_beyond s _ (by omega),get!_beyond _ k (by rw[ByteArray.size_extract];omega)]
def nums (s:ByteArray):List Int:=s.data.toList.map fun c=>(c.toNat:Int)
theorem nums_length (s:ByteArray):(nums s).length=s.size:=by unfold nums;rw[List.length_map,Array.length_toList];rfl
theorem strOf_nums (s:ByteArray):strOfNums (nums s)=s:=by
 cases s with|mk a=>
 unfold strOfNums nums
 congr 1
 apply Array.ext'
 rw[List.map_map,List.toList_toArray]
 refine (List.map_congr_left (g:=id) (fun c _=>?_)).trans (List.map_id _)
 show UInt8.ofNat ((c.toNat:Int).toNat)=c
 rw[Int.toNat_natCast]
 exact UInt8.ofNat_toNat
theorem nums_getD (s:ByteArray)(j:Nat)(h:j<s.size):Value.int .u8 ((nums s).getD j 0)=bts s j:=by
 unfold bts
 rw[Utf8W.get!_of_lt s j h]
 cases s with|mk a=>
 have h':j<a.size:=h
 show Value.int .u8 (((a.toList.map fun c=>(c.toNat:Int))[j]?).getD 0)=Value.int .u8 ((a[j]).toNat:Int)
 rw[List.getElem?_map,Array.getElem?_toList,Array.getElem?_eq_getElem h']
 rfl
theorem toStr_run (s:ByteArray)(w:World)(b off cap:Nat)(hc:∀j,j<s.size→w.cell? ⟨b,off+j,none⟩=some (bts s j)):
 (convert 22 9 (.slice (some ⟨b,off,none⟩) s.size cap)).run Tryz.prog w = .ok (.string s) w:=by
 have:=run_convert_bytes_arg (P:=Tryz.prog) w 22 5 Tryz.underlying22 Tryz.underlying5 b off s.size cap (nums s) (nums_length s) (fun i hi=>by rw[nums_getD s i hi];exact hc i hi) 9 Tryz.underlying9
 rw[strOf_nums]at this
 exact this
theorem size_ext (s:ByteArray)(i:Nat)(h:i≤s.size):(s.extract i s.size).size=s.size - i:=by rw[ByteArray.size_extract];omega
theorem kc_ext (s:ByteArray)(i:Nat)(h:i≤s.size):∀f p,kc (s.extract i s.size) p f=kc s (i+p) f
 |0,_=>rfl
 |f+1,p=>by
  have ih:=kc_ext s i h f (p+1)
  have hz:=size_ext s i h
  rw[kc,kc,get!_extract,hz,ih,Nat.add_assoc]
  by_cases c:i+p<s.size∧0≤hd (s.get! (i+p)).toNat
  ·rw[if_pos c,if_pos ⟨by omega,c.2⟩]
  ·rw[if_neg c,if_neg (fun g=>c ⟨by omega,g.2⟩)]
theorem hv_ext (s:ByteArray)(i p:Nat):∀k,hv (s.extract i s.size) p k=hv s (i+p) k
 |0=>rfl
 |k+1=>by rw[hv,hv,hv_ext s i p k,get!_extract,Nat.add_assoc]
theorem esc_ext (s:ByteArray)(i p:Nat)(h:i≤s.size):esc (s.extract i s.size) p=esc s (i+p):=by
 have hz:=size_ext s i h
 unfold esc
 rw[hz,get!_extract,get!_extract,kc_ext s i h,hv_ext,get!_extract]
 have e1:i+(p+1)=i+p+1:=by omega
 have e2:i+(p+2)=i+p+2:=by omega
 rw[e1,e2]
 have e3:i+(p+2+kc s (i+p+2) 7)=i+p+2+kc s (i+p+2) 7:=by omega
 rw[e3]
 have a1:(s.size - i≤p)=(s.size≤i+p):=by apply propext;omega
 have a2:(s.size - i≤p+1)=(s.size≤i+p+1):=by apply propext;omega
 have a3:(s.size - i≤p+2+kc s (i+p+2) 7)=(s.size≤i+p+2+kc s (i+p+2) 7):=by apply propext;omega
 simp only[a1,a2,a3]
theorem hv_pre (s:ByteArray)(j:Nat)(hj:j≤s.size):∀k,k≤j→hv (s.extract 0 j) 0 k=hv s 0 k
 |0,_=>rfl
 |k+1,hk=>by
  have h1:k<(s.extract 0 j).size:=by rw[ByteArray.size_extract];omega
  have e:(s.extract 0 j).get! (0+k)=s.get! (0+k):=by
   rw[Nat.zero_add,Utf8W.get!_of_lt _ k h1,Utf8W.get!_of_lt _ k (by omega),ByteArray.getElem_extract h1]
   simp
  rw[hv,hv,hv_pre s j hj k (by omega),e]
theorem get!_pre (s:ByteArray)(j k:Nat)(hj:j≤s.size)(hk:k<j):(s.extract 0 j).get! k=s.get! k:=by
 have h1:k<(s.extract 0 j).size:=by rw[ByteArray.size_extract];omega
 rw[Utf8W.get!_of_lt _ k h1,Utf8W.get!_of_lt _ k (by omega),ByteArray.getElem_extract h1]
 simp
def escv (s:ByteArray)(i:Nat):Nat:=if (s.get! i).toNat=34∨(s.get! i).toNat=92 then (s.get! i).toNat else hv s (i+2) (kc s (i+2) 7)
theorem esc_v (s:ByteArray)(i:Nat)(h:(esc s i).2≠0):(esc s i).1=ubytes (escv s i)∧pointB (escv s i)=true:=by
 unfold esc at h ⊢
 unfold escv
 by_cases h1:s.size≤i
 ·rw[if_pos h1]at h;exact absurd rfl h
 rw[if_neg h1]at h ⊢
 by_cases h2:(s.get! i).toNat=34∨(s.get! i).toNat=92
 ·rw[if_pos h2,if_pos h2]
  rcases h2 with e|e<;>rw[e]<;>exact⟨rfl,rfl⟩
 rw[if_neg h2]at h ⊢
 rw[if_neg h2]
 by_cases h3:(s.get! i).toNat≠117∨s.size≤i+1∨(s.get! (i+1)).toNat≠123
 ·rw[if_pos h3]at h;exact absurd rfl h
 rw[if_neg h3]at h ⊢
 generalize kc s (i+2) 7=k at *
 by_cases h4:k<1∨6<k∨s.size≤i+2+k∨(s.get! (i+2+k)).toNat≠125∨pointB (hv s (i+2) k)=false
 ·rw[if_pos h4]at h;exact absurd rfl h
 ·rw[if_neg h4]
  refine⟨rfl,?_⟩
  cases hb:pointB (hv s (i+2) k) with
  |true=>rfl
  |false=>exact absurd (.inr (.inr (.inr (.inr hb)))) h4
theorem kc_all (s:ByteArray):∀f p j,j<kc s p f→p+j<s.size∧0≤hd (s.get! (p+j)).toNat
 |0,_,_,h=>absurd h (Nat.not_lt_zero _)
 |f+1,p,j,h=>by
  rw[kc]at h
  by_cases c:p<s.size∧0≤hd (s.get! p).toNat
  ·rw[if_pos c]at h
   cases j with
   |zero=>exact c
   |succ j=>
    have:=kc_all s f (p+1) j (by omega)
    rw[show p+1+j=p+(j+1) by omega]at this
    exact this
  ·rw[if_neg c]at h;exact absurd h (Nat.not_lt_zero _)
theorem kc_end (s:ByteArray):∀f p,kc s p f<f→¬(p+kc s p f<s.size∧0≤hd (s.get! (p+kc s p f)).toNat)
 |0,_,h=>absurd h (Nat.not_lt_zero _)
 |f+1,p,h=>by
  rw[kc]at h ⊢
  by_cases c:p<s.size∧0≤hd (s.get! p).toNat
  ·rw[if_pos c]at h ⊢
   have:=kc_end s f (p+1) (by omega)
   rw[show p+1+kc s (p+1) f=p+(1+kc s (p+1) f) by omega]at this
   exact this
  ·rw[if_neg c];exact c
theorem hd_low {c:Nat}(h:0≤hd c):c<128:=by unfold hd at h;(repeat' split at h)<;>omega
theorem hd_125 : hd 125 = -1:=by decide
theorem esc_low (s:ByteArray)(i:Nat)(h:(esc s i).2≠0):∀j,j<(esc s i).2→(s.get! (i+j)).toNat<128:=by
 unfold esc at h ⊢
 by_cases h1:s.size≤i
 ·rw[if_pos h1]at h;exact absurd rfl h
 rw[if_neg h1]at h ⊢
 by_cases h2:(s.get! i).toNat=34∨(s.get! i).toNat=92
 ·rw[if_pos h2]
  intro j hj
  have e:j=0:=by simp only at hj;omega
  rw[e,Nat.add_zero];omega
 rw[if_neg h2]at h ⊢
 by_cases h3:(s.get! i).toNat≠117∨s.size≤i+1∨(s.get! (i+1)).toNat≠123
 ·rw[if_pos h3]at h;exact absurd rfl h
 rw[if_neg h3]at h ⊢
 have hka:=kc_all s 7 (i+2)
 generalize kc s (i+2) 7=k at *
 by_cases h4:k<1∨6<k∨s.size≤i+2+k∨(s.get! (i+2+k)).toNat≠125∨pointB (hv s (i+2) k)=false
 ·rw[if_pos h4]at h;exact absurd rfl h
 ·rw[if_neg h4]
  intro j hj
  simp only at hj
  by_cases e0:j=0
  ·rw[e0,Nat.add_zero];omega
  by_cases e1:j=1
  ·rw[e1];omega
  by_cases e2:j=k+2
  ·rw[e2,show i+(k+2)=i+2+k by omega];omega
  ·have:=(hka (j - 2) (by omega)).2
   rw[show i+2+(j - 2)=i+j by omega]at this
   exact hd_low this
theorem esc_brace {s:ByteArray}{i d:Nat}(h0:i+1<s.size)(h1:(s.get! i).toNat=117)(h2:(s.get! (i+1)).toNat=123)(hd':i+2+d<s.size)(hc:(s.get! (i+2+d)).toNat=125)(hno:∀j,j<d→(s.get! (i+2+j)).toNat≠125):
 ((6<d∨kc s (i+2) 7≠d∨d=0∨pointB (hv s (i+2) d)=false)→esc s i=([],0))∧(d≤6→kc s (i+2) 7=d→0<d→pointB (hv s (i+2) d)=true→esc s i=(ubytes (hv s (i+2) d),d+3)∧escv s i=hv s (i+2) d):=by
 have hle:=kc_le s 7 (i+2)
 have hka:=kc_all s 7 (i+2)
 unfold esc escv
 rw[if_neg (by omega),if_neg (by omega),if_neg (by omega)]
 generalize kc s (i+2) 7=k at *
 have hkd:k≤d:=by
  rcases Nat.lt_or_ge d k with g|g
  ·have:=(hka d g).2
   rw[hc,hd_125]at this
   omega
  ·exact g
 constructor
 ·intro h
  by_cases e:k=d
  ·rw[if_pos]
   rcases h with h|h|h|h
   ·exact .inr (.inl (by omega))
   ·exact absurd e h
   ·exact .inl (by omega)
   ·rw[e];exact .inr (.inr (.inr (.inr h)))
  ·rw[if_pos]
   exact .inr (.inr (.inr (.inl (hno k (by omega)))))
 ·intro a b c e
  rw[if_neg (by rw[b];rintro (g|g|g|g|g);omega;omega;omega;exact g hc;rw[e]at g;cases g),if_neg (by omega),b]
  exact⟨rfl,rfl⟩
theorem esc_open {s:ByteArray}{i:Nat}(hno:∀j,i+2+j<s.size→(s.get! (i+2+j)).toNat≠125)(h2:¬((s.get! i).toNat=34∨(s.get! i).toNat=92)):esc s i=([],0):=by
 unfold esc
 by_cases h1:s.size≤i
 ·rw[if_pos h1]
 rw[if_neg h1,if_neg h2]
 by_cases h3:(s.get! i).toNat≠117∨s.size≤i+1∨(s.get! (i+1)).toNat≠123
 ·rw[if_pos h3]
 rw[if_neg h3,if_pos]
 by_cases h4:s.size≤i+2+kc s (i+2) 7
 ·exact .inr (.inr (.inl h4))
 ·exact .inr (.inr (.inr (.inl (hno _ (by omega)))))
theorem kc_is (s:ByteArray)(p d:Nat)(hd6:d≤6)(hin:p+d<s.size)(hc:(s.get! (p+d)).toNat=125):kc s p 7=d↔∀j,j<d→0≤hd (s.get! (p+j)).toNat:=by
 have hle:=kc_le s 7 p
 have hka:=kc_all s 7 p
 have hke:=kc_end s 7 p
 generalize kc s p 7=k at *
 constructor
 ·intro e j hj;exact (hka j (by omega)).2
 ·intro h
  rcases Nat.lt_or_ge k d with g|g
  ·exact absurd ⟨by omega,h k g⟩ (hke (by omega))
  ·rcases Nat.lt_or_ge d k with g'|g'
   ·have:=(hka d g').2
    rw[hc,hd_125]at this
    omega
   ·omega
theorem validRune_point (v:Nat):Lib.validRune (v:Int)=pointB (v:Int):=by
 unfold Lib.validRune pointB
 rw[decide_eq_decide]
 constructor<;>intro h<;>omega
def byl (s:ByteArray)(p:Nat):Nat→List Nat
 |0=>[]
 |k+1=>byl s p k++[bk s p k]
theorem qTo_byl (s:ByteArray)(p:Nat):∀d,(∀k,k<d→128≤bk s p k)→qTo s (p+d)=qTo s p++byl s p d
 |0,_=>by simp[byl]
 |d+1,h=>by
  have ih:=qTo_byl s p d (fun k hk=>h k (by omega))
  show qTo s (p+d)++qb (bk s p d)=_
  rw[ih,qb_high (h d (by omega)),byl,List.append_assoc]
theorem chr_high (s:ByteArray)(p:Nat)(hp:p<s.size)(h:(chr s p).1≠0)(h0:128≤bk s p 0):∀k,k<(chr s p).1→128≤bk s p k:=by
 have hn:¬(bk s p 0<192∨248≤bk s p 0):=fun g=>h (by rw[chr_none s p h0 g])
 have key:∀n v,conts (bk s p) n→chr s p=(n,v)→∀k,k<(chr s p).1→128≤bk s p k:=by
  intro n v hc he k hk
  rw[he]at hk
  cases k with
  |zero=>exact h0
  |succ k=>exact (hc (k+1) (by omega) hk).1
 by_cases h2:bk s p 0<224
 ·have g:=chr_two s p hp (by omega) h2
  by_cases ok:okc s p 2 (bk s p 0 - 192)
  ·exact key _ _ ok.2.1 (g.1 ok)
  ·exact absurd (by rw[g.2 ok]) h
 by_cases h3:bk s p 0<240
 ·have g:=chr_three s p hp (by omega) h3
  by_cases ok:okc s p 3 (bk s p 0 - 224)
  ·exact key _ _ ok.2.1 (g.1 ok)
  ·exact absurd (by rw[g.2 ok]) h
 ·have g:=chr_four s p hp (by omega) (by omega)
  by_cases ok:okc s p 4 (bk s p 0 - 240)
  ·exact key _ _ ok.2.1 (g.1 ok)
  ·exact absurd (by rw[g.2 ok]) h
theorem lit_high (s:ByteArray):∀d p f acc,p+d≤s.size→s.size<p+f→(∀k,k<d→128≤bk s p k)→∃g,s.size<p+d+g∧lit s f p acc=lit s g (p+d) (acc++byl s p d)
 |0,p,f,acc,_,hf,_=>⟨f,by omega,by simp[byl]⟩
 |d+1,p,f,acc,hp,hf,h=>by
  obtain⟨g,hg,e⟩:=lit_high s d p f acc (by omega) hf (fun k hk=>h k (by omega))
  have hb:128≤(s.get! (p+d)).toNat:=h d (by omega)
  obtain⟨g',hg',e'⟩:=lit_byte (acc:=acc++byl s p d) hg (by omega) (by omega) (by omega) (by omega)
  refine⟨g',by omega,?_⟩
  rw[e,e',byl,List.append_assoc];rfl
theorem lit_rune (s:ByteArray)(p f:Nat)(acc:List Nat)(hp:p<s.size)(hf:s.size<p+f)(h:(chr s p).1≠0)(h0:128≤bk s p 0):
 ∃g ys,s.size<p+(chr s p).1+g∧lit s f p acc=lit s g (p+(chr s p).1) (acc++ys)∧cv ys=Lib.runeCells ((chr s p).2:Int)∧128≤(chr s p).2∧(chr s p).2≤1114111∧p+(chr s p).1≤s.size:=by
 have hh:=chr_high s p hp h h0
 obtain⟨ys,e1,e2,e3,e4,e5⟩:=qTo_rune s p hp h h0
 have e6:=qTo_byl s p _ hh
 rw[e1]at e6
 have e7:=List.append_cancel_left e6
 obtain⟨g,hg,e8⟩:=lit_high s _ p f acc e5 hf hh
 exact⟨g,ys,hg,by rw[e7];exact e8,e2,e3,e4,e5⟩
theorem chkAt_low (s:ByteArray):∀n p f,p+n≤s.size→s.size<p+f→chkAt s f p=(0,0)→(∀j,j<n→(s.get! (p+j)).toNat<128)→∃g,s.size<p+n+g∧chkAt s g (p+n)=(0,0)
 |0,p,f,_,hf,h,_=>⟨f,hf,h⟩
 |n+1,p,f,hp,hf,h,hl=>by
  have hb:bk s p 0<128:=by have:=hl 0 (by omega);exact this
  have hc:=chr_ascii s p hb
  obtain⟨g,hg,e⟩:=chkAt_good (f:=f) (by omega:p<s.size) hf (by rw[hc];simp)
  rw[hc]at e
  obtain⟨g',h1,h2⟩:=chkAt_low s n (p+1) g (by omega) (by omega) (by rw[← e];exact h) (fun j hj=>by have:=hl (j+1) (by omega);rw[show p+(j+1)=p+1+j by omega]at this;exact this)
  exact⟨g',by omega,by rw[show p+(n+1)=p+1+n by omega];exact h2⟩
theorem pre_two (r:ByteArray)(a b:UInt8):Lib.hasPrefix r.data.toList [a,b]=decide (2≤r.size∧r.get! 0=a∧r.get! 1=b):=by
 obtain⟨⟨l⟩⟩:=r
 match l with
 | []=>simp[Lib.hasPrefix,ByteArray.size]
 | [x]=>simp[Lib.hasPrefix,ByteArray.size,List.isPrefixOf]
 |x::y::t=>
  simp only[Lib.hasPrefix,List.isPrefixOf,ByteArray.get!,ByteArray.size]
  rw[Bool.eq_iff_iff]
  simp
  constructor
  ·rintro⟨h1,h2⟩;exact⟨h1.symm,h2.symm⟩
  ·rintro⟨h1,h2⟩;exact⟨h1.symm,h2.symm⟩
theorem pre_one (r:ByteArray)(a:UInt8):Lib.hasPrefix r.data.toList [a]=decide (1≤r.size∧r.get! 0=a):=by
 obtain⟨⟨l⟩⟩:=r
 match l with
 | []=>simp[Lib.hasPrefix,ByteArray.size]
 |x::t=>
  simp only[Lib.hasPrefix,List.isPrefixOf,ByteArray.get!,ByteArray.size]
  rw[Bool.eq_iff_iff]
  simp
  exact⟨fun h=>h.symm,fun h=>h.symm⟩
theorem pre_three (r:ByteArray)(a b c:UInt8):Lib.hasPrefix r.data.toList [a,b,c]=decide (3≤r.size∧r.get! 0=a∧r.get! 1=b∧r.get! 2=c):=by
 obtain⟨⟨l⟩⟩:=r
 match l with
 | []=>simp[Lib.hasPrefix,ByteArray.size]
 | [x]=>simp[Lib.hasPrefix,ByteArray.size,List.isPrefixOf]
 | [x,y]=>simp[Lib.hasPrefix,ByteArray.size,List.isPrefixOf]
 |x::y::z::t=>
  simp only[Lib.hasPrefix,List.isPrefixOf,ByteArray.get!,ByteArray.size]
  rw[Bool.eq_iff_iff]
  simp
  constructor
  ·rintro⟨h1,h2,h3⟩;exact⟨h1.symm,h2.symm,h3.symm⟩
  ·rintro⟨h1,h2,h3⟩;exact⟨h1.symm,h2.symm,h3.symm⟩
theorem cut_one (t:ByteArray)(c:UInt8):
 (∃d,d<t.size∧t.get! d=c∧(∀j,j<d→t.get! j≠c)∧(⟨(Lib.cut t.data.toList [c]).1.toArray⟩:ByteArray)=t.extract 0 d∧(Lib.cut t.data.toList [c]).2.2=true)∨((∀j,j<t.size→t.get! j≠c)∧(Lib.cut t.data.toList [c]).2.2=false):=by
 have hi:Lib.indexB t ⟨#[c]⟩=Lib.indexByte t.data.toList c:=Lib.index_one t.data.toList c
 have gl:∀j,j<t.size→t.data.toList[j]?=some (t.get! j):=fun j hj=>by
  rw[Utf8W.get!_of_lt t j hj]
  have h':j<t.data.size:=hj
  rw[Array.getElem?_toList,Array.getElem?_eq_getElem h']
  rfl
 rcases Lib.indexB_cases t ⟨#[c]⟩ with h|⟨d,h,hd'⟩
 ·refine .inr ⟨fun j hj e=>?_,(Lib.cutB_miss t ⟨#[c]⟩ h).2.2⟩
  rw[hi]at h
  exact Lib.indexByte_none h j (by rw[gl j hj,e])
 ·have hd1:d<t.size:=by have:(⟨#[c]⟩:ByteArray).size=1:=rfl;omega
  have hh:=Lib.cutB_hit t ⟨#[c]⟩ d h
  rw[hi]at h
  have hs:=Lib.indexByte_some h
  refine .inl ⟨d,hd1,?_,fun j hj e=>?_,hh.1,hh.2.2⟩
  ·have:=hs.1;rw[gl d hd1]at this;exact Option.some.inj this
  ·exact hs.2 j hj (by rw[gl j (by omega),e])
end Go.Proofs.YtbiakdjpeblclaaGreatDoor
