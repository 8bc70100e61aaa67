/-
  Plainly: what the children of a node may be (l2shapes, l2fits), held against validCount and mayStand.
-/
import Derived.Test.YtbiakdjpeblclaaGreatDoorJPaVK2
import Derived.Test.YtbiakdjpeblclaaGreatDoorJPaT
import Derived.Test.YtbiakdjpeblclaaGreatDoorJPaRH
import Derived.Test.YtbiakdjpeblclaaGreatDoorJPaVB
import Derived.Test.YtbiakdjpeblclaaGreatDoorJPaVG5
namespace Go.Proofs.YtbiakdjpeblclaaGreatDoor
open Go.RowKit
def bx (l:List UInt8):ByteArray:=⟨l.toArray⟩
theorem bx_size (l:List UInt8):(bx l).size=l.length:=by simp[bx,ByteArray.size]
theorem bx_get (l:List UInt8)(i:Nat)(h:i<l.length):(bx l).get! i=l.getD i 0:=by
 show l.toArray[i]! = _
 rw[getElem!_pos _ i (by simpa using h)]
 simp[List.getD,h]
theorem bx_inj {a b:List UInt8}(h:bx a=bx b):a=b:=by
 have:=congrArg (fun x:ByteArray=>x.data.toList) h
 simpa [bx] using this
def mny (c:UInt8)(k:Nat):ByteArray:=bx (List.replicate k c)
theorem mny_size (c:UInt8)(k:Nat):(mny c k).size=k:=by rw[mny,bx_size,List.length_replicate]
theorem mny_get (c:UInt8)(k i:Nat)(h:i<k):(mny c k).get! i=c:=by
 rw[mny,bx_get _ _ (by simpa using h)];simp[List.getD,h]
def shp (k c:Int):List ByteArray:=
 if k=0 then [mny 109 c.toNat] else if k=1 then [bx [98]] else if k=2 then [mny 115 c.toNat]
 else if k=3∨k=21∨k=22 then [bx [101]] else if k=4 then (if 10<c then [] else [mny 101 c.toNat])
 else if k=5 then [bx [101,101,98]] else if k=6 then [bx [101,98],bx [101,98,105]]
 else if k=7∨k=11∨k=12∨k=20 then [bx [101,101]] else if k=8∨k=9∨k=10 then [bx [101,101],bx [101,101,101,101]]
 else if k=13 then [bx [101,101,101],bx [101,101,101,101,101]] else if k=14∨k=15 then [bx [101,101,101]] else [bx []]
def fit (c:Nat)(k:Int):Bool:=if c=101 then isExpr k else if c=98 then k==2 else if c=115 then isStat k else if c=109 then k==1||isStat k else k==2||k==6
def pkS (n:Nat):List ByteArray→ByteArray→ByteArray
 | [],s=>s
 |x::r,s=>pkS n r (if x.size=n then x else s)
def qm : ByteArray:=bx [63]
theorem ne_qm_size {a:List UInt8}(h:a.length≠1):bx a≠qm:=fun e=>h (by rw[bx_inj e];rfl)
theorem mny_ne (c:UInt8)(k:Nat)(h:c≠63):mny c k≠qm:=by
 intro e
 have:=bx_inj e
 cases k with
 |zero=>simp at this
 |succ k=>cases k with
  |zero=>simp at this;exact h this
  |succ k=>simp[List.replicate]at this
theorem pkS1 (n:Nat)(x:ByteArray)(hx:x≠qm):(pkS n [x] qm).size=n∧pkS n [x] qm≠qm↔x.size=n:=by
 simp only[pkS]
 by_cases h:x.size=n
 ·rw[if_pos h];exact⟨fun _=>h,fun _=>⟨h,hx⟩⟩
 ·rw[if_neg h];exact⟨fun ⟨_,h2⟩=>absurd rfl h2,fun h2=>absurd h2 h⟩
theorem pkS2 (n:Nat)(x y:ByteArray)(hx:x≠qm)(hy:y≠qm):(pkS n [x,y] qm).size=n∧pkS n [x,y] qm≠qm↔(x.size=n∨y.size=n):=by
 simp only[pkS]
 by_cases h:y.size=n
 ·rw[if_pos h];exact⟨fun _=>.inr h,fun _=>⟨h,hy⟩⟩
 ·rw[if_neg h]
  by_cases h':x.size=n
  ·rw[if_pos h'];exact⟨fun _=>.inl h',fun _=>⟨h',hx⟩⟩
  ·rw[if_neg h'];exact⟨fun ⟨_,h2⟩=>absurd rfl h2,fun h2=>by omega⟩
def shpOf (k c:Int):ByteArray:=pkS c.toNat (shp k c) qm
set_option maxHeartbeats 1000000 in
theorem shape_count (k c:Int)(hk:0≤k)(hk2:k≤22)(hc:0≤c):((shpOf k c).size=c.toNat∧shpOf k c≠qm)↔vCnt k c=true:=by
 unfold shpOf
 rcases kinds k with g|g
 ·rcases g with rfl|rfl|rfl|rfl|rfl|rfl|rfl|rfl|rfl|rfl|rfl|rfl|rfl|rfl|rfl|rfl|rfl|rfl|rfl|rfl|rfl|rfl|rfl
  case inr.inr.inr.inr.inl=>
   by_cases h10:10<c
   ·have e:shp 4 c = []:=by simp[shp,h10]
    rw[e];simp[pkS,vCnt];omega
   ·have e:shp 4 c = [mny 101 c.toNat]:=by simp[shp,h10]
    rw[e,pkS1 _ _ (mny_ne _ _ (by decide)),mny_size];simp[vCnt];omega
  all_goals first
   |(simp only[shp,Int.reduceEq,or_false,or_true,or_self,if_true,if_false];rw[pkS1 _ _ (mny_ne _ _ (by decide)),mny_size];simp[vCnt];omega)
   |(simp only[shp,Int.reduceEq,or_false,or_true,or_self,if_true,if_false];rw[pkS1 _ _ (ne_qm_size (by decide)),bx_size];simp[vCnt];omega)
   |(simp only[shp,Int.reduceEq,or_false,or_true,or_self,if_true,if_false];rw[pkS1 _ _ (fun e=>absurd (bx_inj e) (by decide)),bx_size];simp[vCnt];omega)
   |(simp only[shp,Int.reduceEq,or_false,or_true,or_self,if_true,if_false];rw[pkS2 _ _ _ (ne_qm_size (by decide)) (ne_qm_size (by decide)),bx_size,bx_size];simp[vCnt];omega)
 ·omega
theorem i1 {i:Nat}(h:i<(1:Int).toNat):i=0:=by have:(1:Int).toNat=1:=rfl;omega
theorem i2 {i:Nat}(h:i<(2:Int).toNat):i=0∨i=1:=by have:(2:Int).toNat=2:=rfl;omega
theorem i3 {i:Nat}(h:i<(3:Int).toNat):i=0∨i=1∨i=2:=by have:(3:Int).toNat=3:=rfl;omega
theorem i4 {i:Nat}(h:i<(4:Int).toNat):i=0∨i=1∨i=2∨i=3:=by have:(4:Int).toNat=4:=rfl;omega
theorem i5 {i:Nat}(h:i<(5:Int).toNat):i=0∨i=1∨i=2∨i=3∨i=4:=by have:(5:Int).toNat=5:=rfl;omega
set_option maxHeartbeats 2000000 in
theorem shape_fits (k c:Int)(hv:vCnt k c=true)(i:Nat)(hi:i<c.toNat)(kk:Int):fit ((shpOf k c).get! i).toNat kk=mSt k i kk:=by
 unfold shpOf
 rcases kinds k with g|g
 ·rcases g with rfl|rfl|rfl|rfl|rfl|rfl|rfl|rfl|rfl|rfl|rfl|rfl|rfl|rfl|rfl|rfl|rfl|rfl|rfl|rfl|rfl|rfl|rfl
  case inl=>
   have e:pkS c.toNat (shp 0 c) qm=mny 109 c.toNat:=by simp[shp,pkS,mny_size]
   rw[e,mny_get _ _ _ hi];rfl
  case inr.inr.inl=>
   have e:pkS c.toNat (shp 2 c) qm=mny 115 c.toNat:=by simp[shp,pkS,mny_size]
   rw[e,mny_get _ _ _ hi];rfl
  case inr.inr.inr.inr.inl=>
   have h10:¬10<c:=by simp[vCnt]at hv;omega
   have e:pkS c.toNat (shp 4 c) qm=mny 101 c.toNat:=by simp[shp,pkS,mny_size,h10]
   rw[e,mny_get _ _ _ hi];rfl
  case inr.inr.inr.inr.inr.inr.inl=>
   have hc:c=2∨c=3:=by simpa [vCnt] using hv
   rcases hc with rfl|rfl
   ·have:i=0∨i=1:=by have:(2:Int).toNat=2:=rfl;omega
    rcases this with rfl|rfl
    ·rfl
    ·show (kk==2)=(kk==2||(false&&(kk==6)));simp
   ·have:i=0∨i=1∨i=2:=by have:(3:Int).toNat=3:=rfl;omega
    rcases this with rfl|rfl|rfl
    ·rfl
    ·show (kk==2)=(kk==2||(false&&(kk==6)));simp
    ·rfl
  all_goals first
   |(simp[vCnt]at hv;subst hv;obtain rfl:=i1 hi;rfl)
   |(simp[vCnt]at hv;subst hv;rcases i2 hi with rfl|rfl<;>rfl)
   |(simp[vCnt]at hv;subst hv;rcases i3 hi with rfl|rfl|rfl<;>rfl)
   |(simp[vCnt]at hv;rcases hv with rfl|rfl
     ·rcases i2 hi with rfl|rfl<;>rfl
     ·rcases i4 hi with rfl|rfl|rfl|rfl<;>rfl)
   |(simp[vCnt]at hv;rcases hv with rfl|rfl
     ·rcases i3 hi with rfl|rfl|rfl<;>rfl
     ·rcases i5 hi with rfl|rfl|rfl|rfl|rfl<;>rfl)
   |(simp[vCnt]at hv;subst hv;exact absurd hi (Nat.not_lt_zero _))
 ·rw[vCnt_none k c g]at hv;cases hv
set_option maxHeartbeats 1000000 in
set_option maxRecDepth 1000000 in
theorem fits_any (c:Nat)(k:Int)(w:World):Calls Tryz.prog 73 #[.int .u8 c,.int .i64 k] w fun e w'=>e = .returned (.bool (fit c k))∧w'=w:=by
 have HE:=hide (fun w=>specExpr_any k w)
 have HS:=hide (fun w=>specStat_any k w)
 by_cases h1:c=101
 ·subst h1
  have HN:Hid (fit 101 k=isExpr k):=rfl
  go_enter Tryz.func73,Tryz.ntmps73
  go_wp2_with fail
  refine (HE.out _).mono ?_
  rintro e w1 ⟨rfl,rfl⟩
  go_wp2
  go_ret
  exact⟨by rw[HN.out];rfl,rfl⟩
 by_cases h2:c=98
 ·subst h2
  have HN:Hid (fit 98 k=(k==2)):=rfl
  go_enter Tryz.func73,Tryz.ntmps73
  go_wp2
  go_ret
  exact⟨by rw[HN.out];rfl,rfl⟩
 by_cases h3:c=115
 ·subst h3
  have HN:Hid (fit 115 k=isStat k):=rfl
  go_enter Tryz.func73,Tryz.ntmps73
  go_wp2_with fail
  refine (HS.out _).mono ?_
  rintro e w1 ⟨rfl,rfl⟩
  go_wp2
  go_ret
  exact⟨by rw[HN.out];rfl,rfl⟩
 by_cases h4:c=109
 ·subst h4
  by_cases h5:k=1
  ·subst h5
   have HN:Hid (fit 109 1=true):=rfl
   go_enter Tryz.func73,Tryz.ntmps73
   go_wp2
   go_ret
   exact⟨by rw[HN.out];rfl,rfl⟩
  ·have t5:(k==1)=false:=beq_eq_false_iff_ne.2 h5
   have HN:Hid (fit 109 k=isStat k):=by show (k==1||isStat k)=isStat k;rw[t5];rfl
   clear h5
   go_enter Tryz.func73,Tryz.ntmps73
   go_wp2_with fail
   refine (HS.out _).mono ?_
   rintro e w1 ⟨rfl,rfl⟩
   go_wp2
   go_ret
   exact⟨by rw[HN.out];rfl,rfl⟩
 ·have t1:(((c:Nat):Int)==101)=false:=beq_eq_false_iff_ne.2 (by omega)
  have t2:(((c:Nat):Int)==98)=false:=beq_eq_false_iff_ne.2 (by omega)
  have t3:(((c:Nat):Int)==115)=false:=beq_eq_false_iff_ne.2 (by omega)
  have t4:(((c:Nat):Int)==109)=false:=beq_eq_false_iff_ne.2 (by omega)
  have HN:Hid (fit c k=(k==2||k==6)):=by show _=_;unfold fit;rw[if_neg h1,if_neg h2,if_neg h3,if_neg h4]
  clear h1 h2 h3 h4
  by_cases h5:k=2
  ·subst h5
   go_enter Tryz.func73,Tryz.ntmps73
   go_wp2
   go_ret
   exact⟨by rw[HN.out];rfl,rfl⟩
  ·have t5:(k==2)=false:=beq_eq_false_iff_ne.2 h5
   rw[t5,Bool.false_or]at HN
   clear h5
   go_enter Tryz.func73,Tryz.ntmps73
   go_wp2
   go_ret
   exact⟨by rw[HN.out];rfl,rfl⟩
theorem bx_append (a b:List UInt8):bx a++bx b=bx (a++b):=by
 apply ByteArray.ext
 simp[bx]
theorem mny_snoc (c:UInt8)(k:Nat):mny c k++bx [c]=mny c (k+1):=by
 rw[mny,bx_append,mny,List.replicate_succ']
set_option maxHeartbeats 1000000 in
set_option maxRecDepth 1000000 in
theorem many_any (c:UInt8)(n:Nat)(hn:n≤1048576)(w:World):Calls Tryz.prog 100 #[.string (bx [c]),.int .i64 n] w fun e w'=>e = .returned (.string (mny c n))∧w'=w:=by
 go_enter Tryz.func100,Tryz.ntmps100
 go_wp2
 go_loop [5,6] (fun o i=>∃k:Nat,k≤n∧i = .int .i64 k∧o = .string (mny c k)) (fun _ i=>n - (intOf i).toNat)
 case atStart=>exact⟨0,Nat.zero_le _,rfl,rfl⟩
 case round=>
  obtain⟨k,hk,rfl,rfl⟩:=hrel
  by_cases hlt:k<n
  ·have hlti:decide ((k:Int)<(n:Int))=true:=decide_eq_true (by omega)
   have hz:¬9223372036854775807<(mny c k).size+(bx [c]).size:=by rw[mny_size,bx_size];simp;omega
   have HS:Hid (mny c k++bx [c]=mny c (k+1)):=mny_snoc c k
   go_wp2
   go_round
   case rel=>exact⟨k+1,by omega,by go_num,by rw[HS.out]⟩
   case measure=>simp[intOf];omega
  ·have hlti:decide ((k:Int)<(n:Int))=false:=decide_eq_false (by omega)
   have HE:Hid (k=n):=by show k=n;omega
   go_wp2
   go_ret
   exact⟨by rw[← HE.out];rfl,rfl⟩
def TS (w:World)(v:Value)(L:List ByteArray):Prop:=∃a b o c,v = .slice a L.length c∧(0<L.length→a=some ⟨b,o,none⟩)∧∀j,j<L.length→w.cell? ⟨b,o+j,none⟩=some (.string (L.getD j .empty))
theorem TS.below {w w':World}{v:Value}{L:List ByteArray}(h:TS w v L)(hb:Below w.heap.size w w'):TS w' v L:=by
 obtain⟨a,b,o,c,h1,h2,h3⟩:=h
 exact⟨a,b,o,c,h1,h2,fun j hj=>cell_kept (h3 j hj) hb⟩
theorem ts_one {w:World}{b:Nat}{t:TypeId}{x:ByteArray}(h:Blk w b t #[.string x]):TS w (.slice (some ⟨b,0,none⟩) 1 1) [x]:=by
 refine⟨_,b,0,1,rfl,fun _=>rfl,fun j hj=>?_⟩
 have:j=0:=by simp at hj;omega
 subst this
 rw[h.cell];rfl
theorem ts_two {w:World}{b:Nat}{t:TypeId}{x y:ByteArray}(h:Blk w b t #[.string x,.string y]):TS w (.slice (some ⟨b,0,none⟩) 2 2) [x,y]:=by
 refine⟨_,b,0,2,rfl,fun _=>rfl,fun j hj=>?_⟩
 have:j=0∨j=1:=by simp at hj;omega
 rcases this with rfl|rfl<;>(rw[h.cell];rfl)
theorem blk_new2 (w:World)(o:Obj)(t:TypeId)(cs:Array Value):Blk ((w.alloc o).alloc (.cells cs t)) (w.heap.size+1) t cs:=by
 have:=Blk.new (w.alloc o) t cs
 simpa using this
theorem below2 (w:World)(o o':Obj):Below w.heap.size w ((w.alloc o).alloc o'):=((Below.refl _ _).alloc (Nat.le_refl _) _).alloc (by simp) _
set_option maxHeartbeats 4000000 in
set_option maxRecDepth 1000000 in
theorem shapes_any (K N C:Int)(vt vn vy:Value)(w:World)(hk:0≤K)(hk2:K≤22)(hc:0≤C)(hc2:C≤1048576):
 Calls Tryz.prog 72 #[.agg #[.int .i64 K,.int .i64 N,vt,vn,vy,.int .i64 C]] w fun e w'=>∃u,e = .returned u∧TS w' u (shp K C)∧Below w.heap.size w w':=by
 obtain⟨n,rfl⟩:∃n:Nat,C=n:=⟨C.toNat,by omega⟩
 have HM:=hide (fun c w=>many_any c n (by omega) w)
 have HB:=hide ((Below.refl w.heap.size w).alloc (Nat.le_refl _) (.cells #[.int .i64 K,.int .i64 N,vt,vn,vy,.int .i64 n] 51))
 rcases kinds K with g|g
 ·rcases g with rfl|rfl|rfl|rfl|rfl|rfl|rfl|rfl|rfl|rfl|rfl|rfl|rfl|rfl|rfl|rfl|rfl|rfl|rfl|rfl|rfl|rfl|rfl
  case inl=>
   have HN:Hid (shp 0 n = [mny 109 n]):=rfl
   go_enter Tryz.func72,Tryz.ntmps72
   go_wp2_with fail
   refine (HM.out 109 _).mono ?_
   rintro e w1 ⟨rfl,rfl⟩
   go_wp2
   go_ret
   exact⟨_,rfl,by rw[HN.out];exact ts_one (blk_new2 _ _ _ _),below2 _ _ _⟩
  case inr.inr.inl=>
   have HN:Hid (shp 2 n = [mny 115 n]):=rfl
   go_enter Tryz.func72,Tryz.ntmps72
   go_wp2_with fail
   refine (HM.out 115 _).mono ?_
   rintro e w1 ⟨rfl,rfl⟩
   go_wp2
   go_ret
   exact⟨_,rfl,by rw[HN.out];exact ts_one (blk_new2 _ _ _ _),below2 _ _ _⟩
  case inr.inr.inr.inr.inl=>
   by_cases h10:10<(n:Int)
   ·have t10:decide ((10:Int)<(n:Int))=true:=decide_eq_true h10
    have HN:Hid (shp 4 n = []):=by show _=_;simp[shp];omega
    go_enter Tryz.func72,Tryz.ntmps72
    go_wp2
    go_ret
    exact⟨_,rfl,by rw[HN.out];exact⟨none,0,0,0,rfl,fun h=>absurd h (by decide),fun j hj=>absurd hj (Nat.not_lt_zero _)⟩,HB.out⟩
   ·have t10:decide ((10:Int)<(n:Int))=false:=decide_eq_false h10
    have HN:Hid (shp 4 n = [mny 101 n]):=by show _=_;simp[shp];omega
    go_enter Tryz.func72,Tryz.ntmps72
    go_wp2_with fail
    refine (HM.out 101 _).mono ?_
    rintro e w1 ⟨rfl,rfl⟩
    go_wp2
    go_ret
    exact⟨_,rfl,by rw[HN.out];exact ts_one (blk_new2 _ _ _ _),below2 _ _ _⟩
  all_goals
   go_enter Tryz.func72,Tryz.ntmps72
   go_wp2
   go_ret
   first
    |exact⟨_,rfl,ts_one (blk_new2 _ _ _ _),below2 _ _ _⟩
    |exact⟨_,rfl,ts_two (blk_new2 _ _ _ _),below2 _ _ _⟩
 ·omega
theorem drop_kp {nx:Nat→Nat}{X:List Int}{k c p:Nat}(h:X.drop k=kp nx (c+1) p):k<X.length∧X.getD k 0=p∧X.drop (k+1)=kp nx c (nx p):=by
 have hlt:k<X.length:=by
  rcases Nat.lt_or_ge k X.length with g|g
  ·exact g
  ·rw[List.drop_eq_nil_of_le g]at h;cases h
 rw[drop_at X 0 k hlt,kp]at h
 injection h with h1 h2
 exact⟨hlt,h1,h2⟩
theorem get_el (S:ByteArray)(k:Nat)(h:k<S.size):S.get! k=S[k]:=by
 show S.data[k]! = _
 rw[getElem!_pos _ k h]
 rfl
theorem qm_list (S:ByteArray):S.toList = [63]↔S=qm:=by
 rw[Lib.toList_data]
 constructor
 ·intro h;exact Go.WideShapes.bytes_inj (by rw[h];rfl)
 ·rintro rfl;rfl
theorem shp_len (k c:Int):(shp k c).length≤2:=by
 unfold shp;repeat' split
 all_goals simp
set_option maxHeartbeats 4000000 in
set_option maxRecDepth 1000000 in
theorem l2good_any (v:Value)(L:List Nd)(hl:L.length≤1048576)(hz:∀j,j<L.length→NB (L.getD j .zero)):∀f:Nat,f≤60→∀(i e:Nat) (w:World),sE L.length (cn L) f i=some e→NS w v L→
 Calls Tryz.prog 46 #[v,.int .i64 i] w fun x w'=>x = .returned (.bool (sG L.length (cn L) (okN L) (stN L) f i))∧Below w.heap.size w w':=by
 intro f
 induction f with
 |zero=>intro _ i e w hs _;cases hs
 |succ f ih=>
  intro hf i e w hs h
  have HIH:=hide (ih (by omega))
  have HNS:=hide h
  rw[sE]at hs
  by_cases hcnd:L.length≤i∨cn L i<0∨(L.length:Int)<cn L i
  ·rw[if_pos hcnd]at hs;cases hs
  rw[if_neg hcnd]at hs
  have hi:i<L.length:=by omega
  have hC0:0≤cn L i:=by omega
  have hC1:cn L i≤1048576:=by omega
  have HKD:=hide (fun w2 (hb2:Below w.heap.size w w2)=>l2kids_any v L hl i e f w2 hi (by omega) hC0 hs (h.below hb2))
  obtain⟨a,b,o,c,rfl,ha,hc⟩:=h
  obtain rfl:=ha (by omega)
  have HCK:Hid (∀j,j<L.length→w.cell? ⟨b,o+j*6,none⟩=some (.int .i64 (L.getD j .zero).kind)):=fun j hj=>by
   obtain⟨_,_,_,hN,_⟩:=hc j hj
   exact hN.kind
  obtain⟨vt,vn,vy,hN,hV⟩:=hc i hi
  have HZ:=hz i hi
  have g0:=hN.kind
  have g1:=hN.n
  have g2:=hN.text
  have g3:=hN.names
  have g4:=hN.types
  have g5:=hN.count
  have HR:Hid (sG L.length (cn L) (okN L) (stN L) (f+1) i=(okN L i&&gLoop (nxT L.length (cn L)) (stN L) (sG L.length (cn L) (okN L) (stN L) f) i (cn L i).toNat 0 (i+1))):=rfl
  have HOK:Hid (okN L i=(vFd (L.getD i .zero)&&vCnt (L.getD i .zero).kind (L.getD i .zero).count)):=rfl
  have HST:Hid (∀k j,stN L i k j=mSt (L.getD i .zero).kind k (L.getD j .zero).kind):=fun _ _=>rfl
  have hcn:cn L i=(L.getD i .zero).count:=rfl
  rw[hcn]at hs hC0 hC1 HR
  simp only[hcn]at HKD
  obtain⟨d,hd⟩:∃d,L.getD i .zero=d:=⟨_,rfl⟩
  rw[hd]at g0 g1 g5 hV HZ HOK hs hC0 hC1 HR
  simp only[hd]at HST HKD
  obtain⟨at_,ct,hvt⟩:∃a c,vt = .slice a d.text.size c:=by obtain⟨a,_,_,c,h,_⟩:=hV.text;exact⟨a,c,h⟩
  obtain⟨an,cn',hvn⟩:∃a c,vn = .slice a d.names.length c:=by obtain⟨a,_,_,c,h,_⟩:=hV.names;exact⟨a,c,h⟩
  obtain⟨ay,cy,hvy⟩:∃a c,vy = .slice a d.types.length c:=by obtain⟨a,_,_,c,h,_⟩:=hV.types;exact⟨a,c,h⟩
  subst hvt hvn hvy
  obtain⟨W1,hW1⟩:∃W1,w.alloc (.cells #[.int .i64 d.kind,.int .i64 d.n,.slice at_ d.text.size ct,.slice an d.names.length cn',.slice ay d.types.length cy,.int .i64 d.count] 51)=W1:=⟨_,rfl⟩
  have hB1:Below w.heap.size w W1:=by rw[← hW1];exact (Below.refl _ _).alloc (Nat.le_refl _) _
  have hBk:Blk W1 w.heap.size 51 #[.int .i64 d.kind,.int .i64 d.n,.slice at_ d.text.size ct,.slice an d.names.length cn',.slice ay d.types.length cy,.int .i64 d.count]:=by rw[← hW1];exact Blk.new _ _ _
  have b0:=hBk.cell 0
  have b1:=hBk.cell 1
  have b2:=hBk.cell 2
  have b3:=hBk.cell 3
  have b4:=hBk.cell 4
  have b5:=hBk.cell 5
  simp only[List.getElem?_toArray,List.getElem?_cons_succ,List.getElem?_cons_zero]at b0 b1 b2 b3 b4 b5
  have HB1:=hide hB1
  have HW:=hide hW1
  have HF:=hide (l2fields_any d _ _ _ W1 (hV.below hB1) HZ)
  obtain⟨R,hR⟩:∃R,sG L.length (cn L) (okN L) (stN L) (f+1) i=R:=⟨_,rfl⟩
  rw[hR]at HR ⊢
  obtain⟨F,hFF⟩:∃F,vFd d=F:=⟨_,rfl⟩
  rw[hFF]at HF HOK
  have HS0:=hide hs
  clear hW1 hB1 hBk hV HZ hFF hR hc ha hN ih hs hd hcn hcnd hz
  by_cases k0:d.kind<0∨22<d.kind
  ·have HE:Hid (R=false):=by show _=_;rw[HR.out,HOK.out,vCnt_none _ _ k0,Bool.and_false,Bool.false_and]
   rcases k0 with k0|k0
   ·have t0:decide (d.kind<0)=true:=decide_eq_true k0
    clear k0
    go_enter Tryz.func46,Tryz.ntmps46
    go_wp2_with fail
    rw[HW.out]
    go_wp2
    go_ret
    exact⟨by rw[HE.out];rfl,HB1.out⟩
   ·have t0:decide (d.kind<0)=false:=decide_eq_false (by omega)
    have t1:decide (22<d.kind)=true:=decide_eq_true k0
    clear k0
    go_enter Tryz.func46,Tryz.ntmps46
    go_wp2_with fail
    rw[HW.out]
    go_wp2
    go_ret
    exact⟨by rw[HE.out];rfl,HB1.out⟩
  have t0:decide (d.kind<0)=false:=decide_eq_false (by omega)
  have t1:decide (22<d.kind)=false:=decide_eq_false (by omega)
  have hk0:0≤d.kind:=by omega
  have hk1:d.kind≤22:=by omega
  clear k0
  cases F with
  |false=>
   have HE:Hid (R=false):=by show _=_;rw[HR.out,HOK.out,Bool.false_and,Bool.false_and]
   go_enter Tryz.func46,Tryz.ntmps46
   go_wp2_with fail
   rw[HW.out]
   go_wp2_with fail
   refine HF.out.mono ?_
   rintro e w2 ⟨rfl,hb2⟩
   have HB2:Hid (Below w.heap.size w w2):=HB1.out.trans (hb2.mono HB1.out.size)
   clear hb2
   go_wp2
   go_ret
   exact⟨by rw[HE.out];rfl,HB2.out⟩
  |true=>
   rw[Bool.true_and]at HOK
   have HSH:=hide (fun w2=>shapes_any d.kind d.n d.count (.slice at_ d.text.size ct) (.slice an d.names.length cn') (.slice ay d.types.length cy) w2 hk0 hk1 hC0 hC1)
   have HCT:=hide (shape_count d.kind d.count hk0 hk1 hC0)
   have HFT:=hide (shape_fits d.kind d.count)
   go_enter Tryz.func46,Tryz.ntmps46
   go_wp2_with fail
   rw[HW.out]
   go_wp2_with fail
   refine HF.out.mono ?_
   rintro e' w2 ⟨rfl,hb2⟩
   have HB2:Hid (Below w.heap.size w w2):=HB1.out.trans (hb2.mono HB1.out.size)
   have HBW2:=hide hb2
   clear hb2 HF HW
   go_wp2_with fail
   refine (HKD.out _ HB2.out).mono ?_
   rintro e' w3 ⟨u3,rfl,hu3,hb3⟩
   have HB3:Hid (Below w.heap.size w w3):=HB2.out.trans (hb3.mono HB2.out.size)
   have HBW3:Hid (Below W1.heap.size W1 w3):=HBW2.out.trans (hb3.mono HBW2.out.size)
   have HU3:=hide hu3
   have q0:=cell_kept b0 HBW3.out
   have q1:=cell_kept b1 HBW3.out
   have q2:=cell_kept b2 HBW3.out
   have q3:=cell_kept b3 HBW3.out
   have q4:=cell_kept b4 HBW3.out
   have q5:=cell_kept b5 HBW3.out
   obtain⟨a3,b3',o3,c3,hv3,ha3,hc3⟩:=hu3
   rw[kp_length]at hv3
   subst hv3
   clear hb3 ha3 hc3 HKD HB2 HBW2
   go_wp2_with fail
   refine (HSH.out _).mono ?_
   rintro e' w4 ⟨u4,rfl,hu4,hb4⟩
   have HB4:Hid (Below w.heap.size w w4):=HB3.out.trans (hb4.mono HB3.out.size)
   have HU4:=hide (HU3.out.below hb4)
   clear hb4 HSH HBW3 q0 q1 q2 q3 q4 q5 b0 b1 b2 b3 b4 b5 g0 g1 g2 g3 g4 g5 HU3 HB3
   obtain⟨a4,b4,o4,c4,rfl,ha4,hc4⟩:=hu4
   have HC4:=hide hc4
   obtain⟨Z,hZ⟩:∃Z,shp d.kind d.count=Z:=⟨_,rfl⟩
   obtain⟨cc,hcc⟩:∃cc,d.count.toNat=cc:=⟨_,rfl⟩
   have HPK:Hid (pkS cc Z qm=shpOf d.kind d.count):=by show _=_;rw[← hZ,← hcc];rfl
   have hcb:cc≤1048576:=by omega
   rw[hZ]at ha4 HC4 ⊢
   rw[hcc]at HR HS0 HCT HFT HU4 ⊢
   have hZl:(Z.length:Int)≤2:=by rw[← hZ];have:=shp_len d.kind d.count;omega
   clear hc4 hcc hZ
   go_wp2
   go_loop [8,9] (fun x ix=>∃(k:Nat) (S:ByteArray),k≤Z.length∧ix = .int .i64 k∧x = .string S∧pkS cc (Z.drop k) S=shpOf d.kind d.count) (fun _ ix=>Z.length - (intOf ix).toNat)
   case atStart=>exact⟨0,qm,Nat.zero_le _,rfl,rfl,HPK.out⟩
   case round=>
    obtain⟨k,S,hk,rfl,rfl,hpk⟩:=hrel
    by_cases hlt:k<Z.length
    ·obtain rfl:=ha4 (by omega)
     have g:=HC4.out k hlt
     rw[drop_at Z .empty k hlt,pkS]at hpk
     obtain⟨z,hz⟩:∃z,Z.getD k .empty=z:=⟨_,rfl⟩
     rw[hz]at g hpk
     have hlti:(k:Int)<(Z.length:Int):=by omega
     by_cases hzc:z.size=cc
     ·have t2:((z.size:Int)==(cc:Int))=true:=by rw[beq_iff_eq];omega
      rw[if_pos hzc]at hpk
      have HP:=hide hpk
      clear hpk hz hzc
      go_wp2
      go_round
      case rel=>exact⟨k+1,z,by omega,by go_num,rfl,HP.out⟩
      case measure=>simp[intOf];omega
     ·have t2:((z.size:Int)==(cc:Int))=false:=by rw[beq_eq_false_iff_ne];omega
      rw[if_neg hzc]at hpk
      have HP:=hide hpk
      clear hpk hz hzc
      go_wp2
      go_round
      case rel=>exact⟨k+1,S,by omega,by go_num,rfl,HP.out⟩
      case measure=>simp[intOf];omega
    ·have hge:¬(k:Int)<(Z.length:Int):=by omega
     rw[show Z.drop k = [] from List.drop_eq_nil_of_le (by omega),pkS]at hpk
     rw[← hpk]at HCT HFT
     clear hpk ha4 hk hlt
     by_cases hv:vCnt d.kind d.count=true
     ·obtain⟨hS1,hS2⟩:=HCT.out.2 hv
      have t2:((S.size:Int) != (cc:Int))=false:=by rw[bne_eq_false_iff_eq];omega
      have t3:(S.toList == [63])=false:=beq_eq_false_iff_ne.2 fun h=>hS2 ((qm_list S).1 h)
      have HGL:Hid (gLoop (nxT L.length (cn L)) (stN L) (sG L.length (cn L) (okN L) (stN L) f) i cc 0 (i+1)=R):=by show _=_;rw[HR.out,HOK.out,hv,Bool.true_and]
      have HFT2:=hide (HFT.out hv)
      have hSS:(S.size:Int)=(cc:Int):=by omega
      have HSS:=hide hSS
      obtain⟨X,hX⟩:∃X,kp (nxT L.length (cn L)) cc (i+1)=X:=⟨_,rfl⟩
      have HX:=hide hX
      rw[hX]at HU4
      have HXL:Hid (X.length=cc):=by show _=_;rw[← hX,kp_length]
      clear hv hS1 hS2 HFT HCT HR HOK hX hSS HPK HC4
      go_wp2
      clear hge t0 t1 t2 t3
      go_loopw [10] (fun ix wr=>∃k p:Nat,k≤cc∧ix = .int .i64 k∧sLoop (sE L.length (cn L) f) (cc - k) p=some e∧X.drop k=kp (nxT L.length (cn L)) (cc - k) p∧gLoop (nxT L.length (cn L)) (stN L) (sG L.length (cn L) (okN L) (stN L) f) i (cc - k) k p=R∧Below w.heap.size w wr∧Below w4.heap.size w4 wr) (fun ix _=>cc - (intOf ix).toNat)
      case atStart=>exact⟨0,i+1,Nat.zero_le _,rfl,HS0.out,HX.out.symm,HGL.out,HB4.out,Below.refl _ _⟩
      case round=>
       obtain⟨k,p,hk,rfl,hs,hdr,hgl,hb,hb4⟩:=hrel
       have HB:=hide hb
       have HBW:=hide hb4
       by_cases hlt:k<cc
       ·have hlti:decide ((k:Int)<(cc:Int))=true:=decide_eq_true (by omega)
        have hsp:cc - k=(cc - (k+1))+1:=by omega
        rw[hsp]at hs hdr hgl
        rw[sLoop]at hs
        rw[gLoop]at hgl
        obtain⟨hkX,hXp,hdr2⟩:=drop_kp hdr
        cases hx:sE L.length (cn L) f p with
        |none=>rw[hx]at hs;cases hs
        |some q=>
         rw[hx]at hs
         rw[nx_of (by omega) hx]at hgl hdr2
         have hbr:=sE_br _ _ _ _ _ hx
         have hpl:p<L.length:=by have:=hbr.lt;have:=hbr.le;omega
         obtain⟨_,b3x,o3x,_,hsl,ha3,hc3⟩:=HU4.out.below hb4
         obtain⟨e1,e2,e3⟩:_∧_∧_:=by simpa only[Value.slice.injEq] using hsl
         subst e1 e3
         obtain rfl:=ha3 (by omega)
         have r1:=hc3 k hkX
         rw[hXp]at r1
         have r2:=cell_kept (HCK.out p hpl) hb
         have hst:=HST.out k p
         obtain⟨kk,hkk⟩:∃kk,(L.getD p .zero).kind=kk:=⟨_,rfl⟩
         rw[hkk]at r2 hst
         rw[hst,← HFT2.out k hlt kk]at hgl
         have hkS:k<S.size:=by have:=HSS.out;omega
         rw[get_el S k hkS]at hgl
         obtain⟨y,hy⟩:∃y,S[k]=y:=⟨_,rfl⟩
         rw[hy]at hgl
         have HFI:=hide (fun w=>fits_any y.toNat kk w)
         have HG:=hide (fun w2 (hb2:Below w.heap.size w w2)=>HIH.out p q w2 hx (HNS.out.below hb2))
         obtain⟨B1,hB1⟩:∃B1,fit y.toNat kk=B1:=⟨_,rfl⟩
         obtain⟨B2,hB2⟩:∃B2,sG L.length (cn L) (okN L) (stN L) f p=B2:=⟨_,rfl⟩
         simp only[hB1]at HFI hgl
         simp only[hB2]at HG hgl
         have HS:=hide hs
         have HGL2:=hide hgl
         have HDR:=hide hdr2
         have hSk:(k:Int)<(S.size:Int):=by have:=HSS.out;omega
         have hpI:(p:Int)<(L.length:Int):=by omega
         clear hs hgl hdr hdr2 hB1 hB2 hkk hst hx hbr ha3 hc3 hb hb4 hsl hXp e2 hsp hkX HIH HNS HCK HST HFT2 HSS HU4 HXL HX HS0 hk0 hk1 hC0 hC1 hZl
         cases B1 with
         |false=>
          have HRR:Hid (R=false):=by show _=_;rw[← HGL2.out,Bool.false_and]
          go_wp2_with fail
          go_quiet ((go_at_call 73;exact Calls.quiet_of_same (HFI.out _)))
          go_wp2
          go_ret
          exact⟨by rw[HRR.out];rfl,HB.out.trans ⟨rfl,rfl,rfl,Nat.le_refl _,fun _ _=>rfl⟩⟩
         |true=>
          have HBD:=hide HB.out.drew
          have HG1:=hide (HG.out _ HBD.out)
          rw[Bool.true_and]at HGL2
          clear HG
          have HRF:Hid (B2=false→R=false):=fun h=>by rw[← HGL2.out,h,Bool.false_and]
          have HRT:Hid (B2=true→gLoop (nxT L.length (cn L)) (stN L) (sG L.length (cn L) (okN L) (stN L) f) i (cc - (k+1)) (k+1) q=R):=fun h=>by rw[← HGL2.out,h,Bool.true_and]
          clear HGL2
          go_wp2_with fail
          go_region_with (first
           |(go_at_call 73;refine (HFI.out _).mono ?_;rintro e' w5 ⟨rfl,rfl⟩)
           |(go_at_call 46;refine HG1.out.mono ?_;rintro e' w6 ⟨rfl,hb6⟩;have HB6:=hide (HBD.out.trans (hb6.mono HBD.out.size));have HBW6:=hide (HBW.out.drew.trans (hb6.mono HBW.out.drew.size));clear hb6))
          all_goals
           cases B2 with
           |false=>
            have HRR:=hide (HRF.out rfl)
            go_wp2
            go_ret
            exact⟨by rw[HRR.out];rfl,HB6.out⟩
           |true=>
            have HGL3:=hide (HRT.out rfl)
            go_wp2
            go_roundw
            case rel=>exact⟨k+1,q,by omega,by go_num,HS.out,HDR.out,HGL3.out,HB6.out,HBW6.out⟩
            case measure=>simp[intOf];omega
       ·have hlti:decide ((k:Int)<(cc:Int))=false:=decide_eq_false (by omega)
        have HRR:Hid (R=true):=by show _=_;rw[← hgl,show cc - k=0 by omega,gLoop]
        clear hs hdr hgl hb hb4
        go_wp2
        go_ret
        exact⟨by rw[HRR.out];rfl,HB.out⟩
     ·have HE:Hid (R=false):=by show _=_;rw[HR.out,HOK.out];simp[hv]
      by_cases hS1:S.size=cc
      ·have t2:((S.size:Int) != (cc:Int))=false:=by rw[bne_eq_false_iff_eq];omega
       have hS2:S=qm:=by
        rcases Classical.em (S=qm) with h|h
        ·exact h
        ·exact absurd (HCT.out.1 ⟨hS1,h⟩) hv
       have t3:(S.toList == [63])=true:=beq_iff_eq.2 ((qm_list S).2 hS2)
       clear hv hS1 HCT HFT hS2
       go_wp2
       go_ret
       exact⟨by rw[HE.out];rfl,HB4.out⟩
      ·have t2:((S.size:Int) != (cc:Int))=true:=by rw[bne_iff_ne];omega
       clear hv hS1 HCT HFT
       go_wp2
       go_ret
       exact⟨by rw[HE.out];rfl,HB4.out⟩
end Go.Proofs.YtbiakdjpeblclaaGreatDoor
