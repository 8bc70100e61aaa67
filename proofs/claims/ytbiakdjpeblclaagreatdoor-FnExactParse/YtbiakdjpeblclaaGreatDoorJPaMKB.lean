/-
  markByteS at any slice.
-/
import Derived.Test.YtbiakdjpeblclaaGreatDoorJPaMK
import Derived.Test.YtbiakdjpeblclaaGreatDoorJPaRF
import Derived.Test.YtbiakdjpeblclaaGreatDoorJPaDR0
import Derived.Deep.RegionHeld3
namespace Go.Proofs.YtbiakdjpeblclaaGreatDoor
open Go.RowKit
set_option maxHeartbeats 400000 in
set_option maxRecDepth 1000000 in
theorem markB_w (a0:Option Addr)(b o n cap k0:Nat)(w:World)(hn:n≤100000000)(hk0:k0≤1000000000000000000)(ha:0<n→a0=some ⟨b,o,none⟩)(hc:∀j,j<n→∃v,w.cell? ⟨b,o+j,none⟩=some v)(hf:∀j,j<n→w.frozen? ⟨b,o+j,none⟩=false):
 Calls Tryz.prog 10 #[.slice a0 n cap,.int .i64 k0] w fun e w'=>e = .returned (.int .i64 (k0+n:Nat))∧Wrt b w w'∧(∀j,j<n→w'.cell? ⟨b,o+j,none⟩=some (mkB (k0+j)))∧(∀j,j<o∨o+n≤j→w'.cell? ⟨b,j,none⟩=w.cell? ⟨b,j,none⟩)∧(n=0→w'=w):=by
 have HC:=hide hc
 have HF:=hide hf
 clear hc hf
 go_enter Tryz.func10,Tryz.ntmps10
 go_wp2
 go_loopw [1,5] (fun kk i wr=>∃m:Nat,m≤n∧i = .int .i64 m∧kk = .int .i64 (k0+m:Nat)∧Wrt b w wr∧(∀j,j<m→wr.cell? ⟨b,o+j,none⟩=some (mkB (k0+j)))∧(∀j,j<o∨o+n≤j→wr.cell? ⟨b,j,none⟩=w.cell? ⟨b,j,none⟩)∧(m=0→wr=w)) (fun _ i _=>n - (intOf i).toNat)
 case atStart=>exact⟨0,Nat.zero_le _,rfl,rfl,Wrt.refl _ _,fun j hj=>absurd hj (Nat.not_lt_zero _),fun _ _=>rfl,fun _=>rfl⟩
 case round=>
  obtain⟨m,hm,rfl,rfl,hon,hmk,hot,hz0⟩:=hrel
  have HZ:=hide hz0
  have HM:=hide hmk
  have HO:=hide hot
  have HW:=hide hon
  clear hmk hot hon hz0
  by_cases hlt:m<n
  ·obtain rfl:=ha (by omega)
   obtain⟨v,g1⟩:=HW.out.has _ (HC.out m hlt)
   have g2:=(HW.out.fz ⟨b,o+m,none⟩).trans (HF.out m hlt)
   have EV:Hid (Value.int .u8 (((k0:Int)+(m:Int)) % 256)=mkB (k0+m)):=by show _=_;unfold mkB;congr 1
   go_wp2
   rw[EV.out]
   have hcell:=fun j=>set_hit (u:=mkB (k0+m)) g1 j
   go_roundw
   case rel=>exact⟨m+1,by omega,by go_num,by go_num,HW.out.setCell g1 _,fun j hj=>by
    rw[hcell]
    by_cases e:j=m
    ·rw[if_pos (by omega),e]
    ·rw[if_neg (by omega)];exact HM.out j (by omega),fun j hj=>by
    rw[hcell,if_neg (by omega)];exact HO.out j hj,fun h=>absurd h (by omega)⟩
   case measure=>simp[intOf];omega
  ·have e:m=n:=by omega
   subst e
   go_wp2
   go_ret
   exact⟨rfl,HW.out,HM.out,HO.out,HZ.out⟩
set_option maxHeartbeats 400000 in
set_option maxRecDepth 1000000 in
theorem markI_w (a0:Option Addr)(b o n cap k0:Nat)(w:World)(hn:n≤100000000)(hk0:k0≤1000000000000000000)(ha:0<n→a0=some ⟨b,o,none⟩)(hc:∀j,j<n→∃v,w.cell? ⟨b,o+j,none⟩=some v)(hf:∀j,j<n→w.frozen? ⟨b,o+j,none⟩=false):
 Calls Tryz.prog 12 #[.slice a0 n cap,.int .i64 k0] w fun e w'=>e = .returned (.int .i64 (k0+n:Nat))∧Wrt b w w'∧(∀j,j<n→w'.cell? ⟨b,o+j,none⟩=some (mkI (k0+j)))∧(∀j,j<o∨o+n≤j→w'.cell? ⟨b,j,none⟩=w.cell? ⟨b,j,none⟩)∧(n=0→w'=w):=by
 have HC:=hide hc
 have HF:=hide hf
 clear hc hf
 go_enter Tryz.func12,Tryz.ntmps12
 go_wp2
 go_loopw [1,5] (fun kk i wr=>∃m:Nat,m≤n∧i = .int .i64 m∧kk = .int .i64 (k0+m:Nat)∧Wrt b w wr∧(∀j,j<m→wr.cell? ⟨b,o+j,none⟩=some (mkI (k0+j)))∧(∀j,j<o∨o+n≤j→wr.cell? ⟨b,j,none⟩=w.cell? ⟨b,j,none⟩)∧(m=0→wr=w)) (fun _ i _=>n - (intOf i).toNat)
 case atStart=>exact⟨0,Nat.zero_le _,rfl,rfl,Wrt.refl _ _,fun j hj=>absurd hj (Nat.not_lt_zero _),fun _ _=>rfl,fun _=>rfl⟩
 case round=>
  obtain⟨m,hm,rfl,rfl,hon,hmk,hot,hz0⟩:=hrel
  have HZ:=hide hz0
  have HM:=hide hmk
  have HO:=hide hot
  have HW:=hide hon
  clear hmk hot hon hz0
  by_cases hlt:m<n
  ·obtain rfl:=ha (by omega)
   obtain⟨v,g1⟩:=HW.out.has _ (HC.out m hlt)
   have g2:=(HW.out.fz ⟨b,o+m,none⟩).trans (HF.out m hlt)
   have EV:Hid (Value.int .i64 ((k0:Int)+(m:Int))=mkI (k0+m)):=by show _=_;unfold mkI;congr 1
   go_wp2
   rw[EV.out]
   have hcell:=fun j=>set_hit (u:=mkI (k0+m)) g1 j
   go_roundw
   case rel=>exact⟨m+1,by omega,by go_num,by go_num,HW.out.setCell g1 _,fun j hj=>by
    rw[hcell]
    by_cases e:j=m
    ·rw[if_pos (by omega),e]
    ·rw[if_neg (by omega)];exact HM.out j (by omega),fun j hj=>by
    rw[hcell,if_neg (by omega)];exact HO.out j hj,fun h=>absurd h (by omega)⟩
   case measure=>simp[intOf];omega
  ·have e:m=n:=by omega
   subst e
   go_wp2
   go_ret
   exact⟨rfl,HW.out,HM.out,HO.out,HZ.out⟩
def mks (f:Nat→Value)(k n:Nat):List Value:=(List.range n).map fun j=>f (k+j)
theorem mks_at {f:Nat→Value}{k n j:Nat}(h:j<n):(mks f k n)[j]?=some (f (k+j)):=by
 unfold mks
 rw[List.getElem?_map,List.getElem?_range h];rfl
theorem mks_lt {f:Nat→Value}{k n j:Nat}{u:Value}(h:(mks f k n)[j]?=some u):j<n:=by
 have:=(List.getElem?_eq_some_iff.1 h).1
 unfold mks at this
 rwa [List.length_map,List.length_range]at this
def InB (w:World)(g:Nat):Prop:=∃t x,w.cell? ⟨g,0,none⟩=some (.int t x)
theorem gw_in {P Q R:Nat→Prop}{a b c:World}(h:Gw (fun g=>P g∧InB a g) a b)(k:Gw (fun g=>Q g∧InB b g) b c)(hp:∀g,P g→R g)(hq:∀g,Q g→R g):Gw (fun g=>R g∧InB a g) a c:=by
 refine (h.mono (fun j _ q=>⟨hp _ q.1,q.2⟩)).trans k (fun j hj q=>?_)
 by_cases z:P j∧InB a j
 ·exact⟨hp _ z.1,z.2⟩
 ·obtain⟨t,x,e⟩:=q.2
  exact⟨hq _ q.1,t,x,by rw[← e];exact (World.cell?_of_block (w:=a) (h.block j hj z)).symm⟩
set_option maxHeartbeats 400000 in
theorem markB_r {w:World}{G:Nat→Prop}{v:Value}{s:ByteArray}{k:Nat}(hs:s.size≤100000000)(hk:k≤1000000000000000000)(h:BGf w G v s):
 Calls Tryz.prog 10 #[v,.int .i64 (k:Nat)] w fun e w'=>e = .returned (.int .i64 (k+s.size:Nat))∧RwG w' G v s.size (mks mkB k s.size)∧Gw (fun g=>G g∧InB w g) w w':=by
 obtain⟨⟨a,g,c,rfl,h2,h3⟩,hl,hnf⟩:=h
 refine (markB_w a g 0 s.size c k w hs hk (fun h0=>(h2 h0).1) (fun j hj=>⟨_,by rw[Nat.zero_add];exact h3 (by omega) j _ (byv_at s j hj)⟩) (fun j hj=>by
  rw[Nat.zero_add]
  have e:=(h2 (by omega)).1
  subst e
  exact hnf g _ c rfl j hj)).mono ?_
 rintro e w' ⟨rfl,hw,hm,_,hz⟩
 refine⟨rfl,⟨a,g,c,rfl,h2,fun h0 j u hj=>?_⟩,?_⟩
 ·have hj':=mks_lt hj
  rw[mks_at hj']at hj
  have:=hm j hj'
  rw[Nat.zero_add]at this
  rw[this];exact hj
 ·by_cases h0:0<s.size
  ·exact⟨hw.os,hw.tape,hw.output,by rw[hw.size];exact Nat.le_refl _,fun q hq hn=>hw.blk q (fun e=>hn (by subst e;exact⟨(h2 h0).2,_,_,h3 h0 0 _ (byv_at s 0 h0)⟩))⟩
  ·rw[hz (by omega)];exact Gw.refl _ _
theorem markI_r {w:World}{G:Nat→Prop}{v:Value}{n:Nat}{xs:List Value}{k:Nat}(hs:n≤100000000)(hk:k≤1000000000000000000)(h:RGf w G v n xs)(hx:∀j,j<n→∃x,xs[j]?=some (.int .i64 x)):
 Calls Tryz.prog 12 #[v,.int .i64 (k:Nat)] w fun e w'=>e = .returned (.int .i64 (k+n:Nat))∧RwG w' G v n (mks mkI k n)∧Gw (fun g=>G g∧InB w g) w w':=by
 obtain⟨⟨a,g,c,rfl,h2,h3⟩,hl,hnf⟩:=h
 have hc:∀j,j<n→∃x,w.cell? ⟨g,j,none⟩=some (.int .i64 x):=fun j hj=>by
  obtain⟨x,e⟩:=hx j hj
  exact⟨x,h3 (by omega) j _ e⟩
 refine (markI_w a g 0 n c k w hs hk (fun h0=>(h2 h0).1) (fun j hj=>by rw[Nat.zero_add];exact⟨_,(hc j hj).choose_spec⟩) (fun j hj=>by
  rw[Nat.zero_add]
  have e:=(h2 (by omega)).1
  subst e
  exact hnf g _ c rfl j hj)).mono ?_
 rintro e w' ⟨rfl,hw,hm,_,hz⟩
 refine⟨rfl,⟨a,g,c,rfl,h2,fun h0 j u hj=>?_⟩,?_⟩
 ·have hj':=mks_lt hj
  rw[mks_at hj']at hj
  have:=hm j hj'
  rw[Nat.zero_add]at this
  rw[this];exact hj
 ·by_cases h0:0<n
  ·exact⟨hw.os,hw.tape,hw.output,by rw[hw.size];exact Nat.le_refl _,fun q hq hn=>hw.blk q (fun e=>hn (by subst e;exact⟨(h2 h0).2,_,_,(hc 0 h0).choose_spec⟩))⟩
  ·rw[hz (by omega)];exact Gw.refl _ _
theorem inv_int (l:List Int):∀j,j<l.length→∃x,(inv l)[j]?=some (.int .i64 x):=fun j hj=>⟨l[j],by unfold inv;rw[List.getElem?_map,List.getElem?_eq_getElem hj];rfl⟩
theorem plv_int (l:List Nat):∀j,j<l.length→∃x,(plv l)[j]?=some (.int .i64 x):=fun j hj=>⟨(l[j]:Nat),by unfold plv;rw[List.getElem?_map,List.getElem?_eq_getElem hj];rfl⟩
theorem RwG.slcs {P:Nat→Prop}{w w':World}{G:Nat→Prop}{n:Nat}{v:Value}{M:List Value}(h:RwG w G v n M)(hM:0<n→∃a l c,M[0]?=some (.slice a l c))(hg:Gw (fun g=>P g∧InB w g) w w'):RwG w' G v n M:=by
 obtain⟨a,g,c,h1,h2,h3⟩:=h
 refine⟨a,g,c,h1,h2,fun hn=>(h3 hn).gw hg (fun q=>?_)⟩
 obtain⟨_,t,x,e⟩:=q
 obtain⟨a',l',c',e'⟩:=hM hn
 rw[h3 hn 0 _ e']at e
 cases e
def tS (L:List ByteArray)(j:Nat):Nat:=((L.take j).map ByteArray.size).sum
theorem tS_succ {L:List ByteArray}{j:Nat}{x:ByteArray}(h:L[j]?=some x):tS L (j+1)=tS L j+x.size:=by
 unfold tS
 rw[List.take_add_one,h]
 simp
theorem tS_le {L:List ByteArray}(hz:∀x∈L,x.size≤1048576):∀j,tS L j≤j*1048576
 |0=>by unfold tS;simp
 |j+1=>by
  have ih:=tS_le hz j
  cases h:L[j]? with
  |none=>
   have:tS L (j+1)=tS L j:=by unfold tS;rw[List.take_add_one,h];simp
   omega
  |some x=>
   rw[tS_succ h]
   have:=hz x (List.mem_of_getElem? h)
   omega
def SMk (w:World)(G:Nat→Prop)(Gs:Nat→Nat→Prop)(v:Value)(L:List ByteArray)(k:Nat):Prop:=∃M:List Value,M.length=L.length∧RwG w G v L.length M∧∀(j:Nat) (x:ByteArray),L[j]?=some x→∃u:Value,M[j]?=some u∧RwG w (Gs (j+2)) u x.size (mks mkB (k+tS L j) x.size)
structure SMj (w0 w:World)(G:Nat→Prop)(Gs:Nat→Nat→Prop)(v:Value)(L:List ByteArray)(M:List Value)(k j:Nat):Prop where
 row:RwG w G v L.length M
 fst:∀(i:Nat) (x:ByteArray),L[i]?=some x→i<j→∃u:Value,M[i]?=some u∧RwG w (Gs (i+2)) u x.size (mks mkB (k+tS L i) x.size)
 nxt:∀(i:Nat) (x:ByteArray),L[i]?=some x→j≤i→∃u:Value,M[i]?=some u∧BGf w (Gs (i+2)) u x
 frm:Gw (fun g=>(∃i,Gs (i+2) g)∧InB w0 g) w0 w
set_option maxHeartbeats 2000000 in
set_option maxRecDepth 1000000 in
theorem markSS_r {w:World}{G:Nat→Prop}{Gs:Nat→Nat→Prop}{v:Value}{L:List ByteArray}(k:Nat)(hD:Dj Gs)(hn:L.length≤1048576)(hz:∀x∈L,x.size≤1048576)(hk:k≤900000000000000000)(h:SGd w G Gs v L):
 Calls Tryz.prog 29 #[v,.int .i64 (k:Nat)] w fun r w'=>r = .returned (.int .i64 (k+tS L L.length:Nat))∧SMk w' G Gs v L k∧Gw (fun g=>(∃i,Gs (i+2) g)∧InB w g) w w':=by
 obtain⟨M,hML,hrow,hel⟩:=h
 have HM0:Hid (0<L.length→∃a l c,M[0]?=some (.slice a l c)):=fun h0=>by
  obtain⟨u,h1,h2⟩:=hel 0 L[0] (List.getElem?_eq_getElem h0)
  obtain⟨a,c,rfl⟩:=h2.slc
  exact⟨_,_,_,h1⟩
 have HST:Hid (SMj w w G Gs v L M k 0):=⟨hrow,fun i x _ hi=>absurd hi (Nat.not_lt_zero _),fun i x hx _=>hel i x hx,Gw.refl _ _⟩
 have HTS:=hide (tS_le hz)
 have HZ:=hide hz
 have HD:=hide hD
 have HML:=hide hML
 obtain⟨a0,g,c,rfl,h2,h3⟩:=hrow
 clear hz hel h3 hD
 go_enter Tryz.func29,Tryz.ntmps29
 go_wp2
 go_loopw [1,5] (fun kk ix wr=>∃j:Nat,j≤L.length∧ix = .int .i64 j∧kk = .int .i64 (k+tS L j:Nat)∧SMj w wr G Gs (.slice a0 L.length c) L M k j) (fun _ ix _=>L.length - (intOf ix).toNat)
 case atStart=>exact⟨0,Nat.zero_le _,rfl,rfl,HST.out⟩
 case round=>
  obtain⟨j,hj,rfl,rfl,hst⟩:=hrel
  have HJ:=hide hst
  by_cases q:j<L.length
  ·have hqi:(j:Int)<(L.length:Int):=by omega
   obtain rfl:=(h2 (by omega)).1
   obtain⟨x,hx⟩:∃x,L[j]?=some x:=⟨L[j],List.getElem?_eq_getElem q⟩
   obtain⟨u,hu,hb⟩:=hst.nxt j x hx (Nat.le_refl _)
   obtain⟨a',c',rfl⟩:=hb.slc
   have hcell:wr.cell? ⟨g,j,none⟩=some (.slice a' x.size c'):=by
    obtain⟨a2,g2,c2,e1,e2,e3⟩:=hst.row
    injection e1 with e1 _ _
    have e4:=(e2 (by omega)).1
    rw[e4]at e1
    injection e1 with e1
    injection e1 with e1
    subst e1
    exact e3 (by omega) j _ hu
   have hts:=HTS.out j
   have hxs:=HZ.out x (List.mem_of_getElem? hx)
   have HXS:=hide (tS_succ hx)
   obtain⟨m,hm⟩:∃m,k+tS L j=m:=⟨_,rfl⟩
   have hmu:m≤1000000000000000000:=by omega
   have HC:=hide (markB_r (k:=m) (by omega) hmu hb)
   have HB:=hide hb
   have HX:=hide hx
   have HU:=hide hu
   have HMM:=hide hm
   rw[hm]
   clear hst hx hu hb hm hts
   go_wp2_with fail
   refine HC.out.mono ?_
   rintro r w2 ⟨rfl,hr2,hg2⟩
   have HN:Hid (SMj w w2 G Gs (.slice (some ⟨g,0,none⟩) L.length c) L M k (j+1)):=by
    refine⟨HJ.out.row.slcs HM0.out hg2,fun i y hy hi=>?_,fun i y hy hi=>?_,gw_in HJ.out.frm hg2 (fun _ z=>z) (fun _ z=>⟨j,z⟩)⟩
    ·by_cases e:i=j
     ·subst e
      rw[HX.out]at hy
      injection hy with hy
      subst hy
      rw[HMM.out]
      exact⟨_,HU.out,hr2⟩
     ·obtain⟨y',a,b⟩:=HJ.out.fst i y hy (by omega)
      exact⟨y',a,b.gw hg2 (fun z p z'=>HD.out (j+2) (i+2) z (by omega) p.1 z')⟩
    ·obtain⟨y',a,b⟩:=HJ.out.nxt i y hy (by omega)
     exact⟨y',a,b.gw hg2 (fun z p z'=>HD.out (j+2) (i+2) z (by omega) p.1 z')⟩
   clear hr2 hg2 HC
   go_wp2
   go_roundw
   case rel=>exact⟨j+1,by omega,by go_num,by rw[HXS.out];have:=HMM.out;congr 1;omega,HN.out⟩
   case measure=>simp[intOf];omega
  ·obtain rfl:j=L.length:=by omega
   clear hst
   go_wp2
   go_ret
   exact⟨rfl,⟨M,HML.out,HJ.out.row,fun i x hx=>HJ.out.fst i x hx (List.getElem?_eq_some_iff.1 hx).1⟩,HJ.out.frm⟩
theorem Tryz.infoGNd : (Tryz.prog.info? 51).map (fun i=>(i.zero,i.size,i.bytes))=some (some (.agg #[.int .i64 0,.int .i64 0,.slice none 0 0,.slice none 0 0,.slice none 0 0,.int .i64 0]),6,96):=by kernel_rfl
theorem wp_appGNd {ops:Array Oper}{rest:List Oper}{o:Oper}{a:Act}{Q:Exit→Act→World→Prop}{w:World}(hgd:o.guard=none)(s x:Operand)
 (ho:o.op = .call { callee:=.builtin .append,args:=#[s,x],argTypes:=#[23,23] }) (B:Nat) (v:Value) (n:Nat) (xs:List Value) (hs:a.eval s=v) (hown:w.ownsRow B 51 6 v n xs)
 (g f c m:Nat) (ys:List Value) (hx:a.eval x = .slice (some ⟨g,f,none⟩) m c) (hy:ys.length=m*6) (hnews:∀j u,ys[j]?=some u→w.cell? ⟨g,f+j,none⟩=some u) (hone:∀u∈ys,u.oneCell'=true) (hlen:n+m≤10000000) (hbase:B≤w.heap.size)
 (h:∀v' w',w'.ownsRow B 51 6 v' (n+m) (xs++ys)→w.grownBy w' v.ownBlock→(v'.ownBlock=v.ownBlock∨v'.ownBlock=some w.heap.size)→wpList Tryz.prog ops Q rest (a.put o.dst v') w'):wpList Tryz.prog ops Q (o::rest) a w:=by
 obtain⟨i0,hi,hz0,hz1,hz2⟩:=info_partsG Tryz.infoGNd
 refine wpList_append_own_at _ hgd s x 23 ho B 51 i0 _ 6 96 Tryz.underlying23 hi hz0 hz1 hz2 rfl (by decide) v n xs hs hown ⟨g,f,none⟩ m c ys hx hy (fun j u hj=>?_) hone (by unfold maxLen;omega) (by omega) hbase (fun v' w' h1 h2 _ h4=>h v' w' h1 h2 h4)
 have e:(⟨g,f,none⟩:Addr).add j = ⟨g,f+j,none⟩:=by unfold Addr.add;split<;>simp_all
 rw[e];exact hnews j u hj
theorem step_appGNd {ops:Array Oper}{o:Oper}{a:Act}{w:World}{K:Act→World→Prop}{Q:Exit→Act→World→Prop}{E:Prop}(hgd:o.guard=none)(s x:Operand)
 (ho:o.op = .call { callee:=.builtin .append,args:=#[s,x],argTypes:=#[23,23] }) (B:Nat) (v:Value) (n:Nat) (xs:List Value) (hs:a.eval s=v) (hown:w.ownsRow B 51 6 v n xs)
 (g f c m:Nat) (ys:List Value) (hx:a.eval x = .slice (some ⟨g,f,none⟩) m c) (hy:ys.length=m*6) (hnews:∀j u,ys[j]?=some u→w.cell? ⟨g,f+j,none⟩=some u) (hone:∀u∈ys,u.oneCell'=true) (hlen:n+m≤10000000) (hbase:B≤w.heap.size)
 (h:∀v' w',w'.ownsRow B 51 6 v' (n+m) (xs++ys)→w.grownBy w' v.ownBlock→(v'.ownBlock=v.ownBlock∨v'.ownBlock=some w.heap.size)→K (a.put o.dst v') w'):
 if Region.wanted o (yielded ops a.tmps)=true then Oper.wp Tryz.prog o a w K Q else E:=by
 have hw:Region.wanted o (yielded ops a.tmps)=true:=by simp[Region.wanted,hgd]
 rw[if_pos hw]
 obtain⟨i0,hi,hz0,hz1,hz2⟩:=info_partsG Tryz.infoGNd
 obtain⟨v',w',hr,h2,h3,h4,h5⟩:=run_append_own_at (P:=Tryz.prog) w B 23 o.type 51 i0 _ 6 96 Tryz.underlying23 hi hz0 hz1 hz2 rfl (by decide) v n xs hown ⟨g,f,none⟩ m c ys hy (fun j u hj=>by
  have e:(⟨g,f,none⟩:Addr).add j = ⟨g,f+j,none⟩:=by unfold Addr.add;split<;>simp_all
  rw[e];exact hnews j u hj) hone (by unfold maxLen;omega) (by omega) hbase
 unfold Oper.wp execOp
 simp only[ho,resolve,invoke,builtin,Sem.run_bind,Sem.run_pure,Result.andThen_ok,List.map_toArray,List.map_cons,List.map_nil,hs,hx,hr]
 exact h v' w' h2 h3 h5
theorem Tryz.infoGPt : (Tryz.prog.info? 45).map (fun i=>(i.zero,i.size,i.bytes))=some (some (.agg #[.slice none 0 0,.slice none 0 0]),2,48):=by kernel_rfl
theorem wp_appGPt {ops:Array Oper}{rest:List Oper}{o:Oper}{a:Act}{Q:Exit→Act→World→Prop}{w:World}(hgd:o.guard=none)(s x:Operand)
 (ho:o.op = .call { callee:=.builtin .append,args:=#[s,x],argTypes:=#[41,41] }) (B:Nat) (v:Value) (n:Nat) (xs:List Value) (hs:a.eval s=v) (hown:w.ownsRow B 45 2 v n xs)
 (g f c m:Nat) (ys:List Value) (hx:a.eval x = .slice (some ⟨g,f,none⟩) m c) (hy:ys.length=m*2) (hnews:∀j u,ys[j]?=some u→w.cell? ⟨g,f+j,none⟩=some u) (hone:∀u∈ys,u.oneCell'=true) (hlen:n+m≤10000000) (hbase:B≤w.heap.size)
 (h:∀v' w',w'.ownsRow B 45 2 v' (n+m) (xs++ys)→w.grownBy w' v.ownBlock→(v'.ownBlock=v.ownBlock∨v'.ownBlock=some w.heap.size)→wpList Tryz.prog ops Q rest (a.put o.dst v') w'):wpList Tryz.prog ops Q (o::rest) a w:=by
 obtain⟨i0,hi,hz0,hz1,hz2⟩:=info_partsG Tryz.infoGPt
 refine wpList_append_own_at _ hgd s x 41 ho B 45 i0 _ 2 48 Tryz.underlying41 hi hz0 hz1 hz2 rfl (by decide) v n xs hs hown ⟨g,f,none⟩ m c ys hx hy (fun j u hj=>?_) hone (by unfold maxLen;omega) (by omega) hbase (fun v' w' h1 h2 _ h4=>h v' w' h1 h2 h4)
 have e:(⟨g,f,none⟩:Addr).add j = ⟨g,f+j,none⟩:=by unfold Addr.add;split<;>simp_all
 rw[e];exact hnews j u hj
theorem step_appGPt {ops:Array Oper}{o:Oper}{a:Act}{w:World}{K:Act→World→Prop}{Q:Exit→Act→World→Prop}{E:Prop}(hgd:o.guard=none)(s x:Operand)
 (ho:o.op = .call { callee:=.builtin .append,args:=#[s,x],argTypes:=#[41,41] }) (B:Nat) (v:Value) (n:Nat) (xs:List Value) (hs:a.eval s=v) (hown:w.ownsRow B 45 2 v n xs)
 (g f c m:Nat) (ys:List Value) (hx:a.eval x = .slice (some ⟨g,f,none⟩) m c) (hy:ys.length=m*2) (hnews:∀j u,ys[j]?=some u→w.cell? ⟨g,f+j,none⟩=some u) (hone:∀u∈ys,u.oneCell'=true) (hlen:n+m≤10000000) (hbase:B≤w.heap.size)
 (h:∀v' w',w'.ownsRow B 45 2 v' (n+m) (xs++ys)→w.grownBy w' v.ownBlock→(v'.ownBlock=v.ownBlock∨v'.ownBlock=some w.heap.size)→K (a.put o.dst v') w'):
 if Region.wanted o (yielded ops a.tmps)=true then Oper.wp Tryz.prog o a w K Q else E:=by
 have hw:Region.wanted o (yielded ops a.tmps)=true:=by simp[Region.wanted,hgd]
 rw[if_pos hw]
 obtain⟨i0,hi,hz0,hz1,hz2⟩:=info_partsG Tryz.infoGPt
 obtain⟨v',w',hr,h2,h3,h4,h5⟩:=run_append_own_at (P:=Tryz.prog) w B 41 o.type 45 i0 _ 2 48 Tryz.underlying41 hi hz0 hz1 hz2 rfl (by decide) v n xs hown ⟨g,f,none⟩ m c ys hy (fun j u hj=>by
  have e:(⟨g,f,none⟩:Addr).add j = ⟨g,f+j,none⟩:=by unfold Addr.add;split<;>simp_all
  rw[e];exact hnews j u hj) hone (by unfold maxLen;omega) (by omega) hbase
 unfold Oper.wp execOp
 simp only[ho,resolve,invoke,builtin,Sem.run_bind,Sem.run_pure,Result.andThen_ok,List.map_toArray,List.map_cons,List.map_nil,hs,hx,hr]
 exact h v' w' h2 h3 h5
theorem Tryz.infoGSn : (Tryz.prog.info? 22).map (fun i=>(i.zero,i.size,i.bytes))=some (some (.slice none 0 0),1,24):=by kernel_rfl
theorem step_appGSn {ops:Array Oper}{o:Oper}{a:Act}{w:World}{K:Act→World→Prop}{Q:Exit→Act→World→Prop}{E:Prop}(hgd:o.guard=none)(s x:Operand)
 (ho:o.op = .call { callee:=.builtin .append,args:=#[s,x],argTypes:=#[49,49] }) (B:Nat) (v:Value) (n:Nat) (xs:List Value) (hs:a.eval s=v) (hown:w.ownsRow B 22 1 v n xs)
 (g f c m:Nat) (ys:List Value) (hx:a.eval x = .slice (some ⟨g,f,none⟩) m c) (hy:ys.length=m*1) (hnews:∀j u,ys[j]?=some u→w.cell? ⟨g,f+j,none⟩=some u) (hone:∀u∈ys,u.oneCell'=true) (hlen:n+m≤10000000) (hbase:B≤w.heap.size)
 (h:∀v' w',w'.ownsRow B 22 1 v' (n+m) (xs++ys)→w.grownBy w' v.ownBlock→(v'.ownBlock=v.ownBlock∨v'.ownBlock=some w.heap.size)→K (a.put o.dst v') w'):
 if Region.wanted o (yielded ops a.tmps)=true then Oper.wp Tryz.prog o a w K Q else E:=by
 have hw:Region.wanted o (yielded ops a.tmps)=true:=by simp[Region.wanted,hgd]
 rw[if_pos hw]
 obtain⟨i0,hi,hz0,hz1,hz2⟩:=info_partsG Tryz.infoGSn
 obtain⟨v',w',hr,h2,h3,h4,h5⟩:=run_append_own_at (P:=Tryz.prog) w B 49 o.type 22 i0 _ 1 24 Tryz.underlying49 hi hz0 hz1 hz2 rfl (by decide) v n xs hown ⟨g,f,none⟩ m c ys hy (fun j u hj=>by
  have e:(⟨g,f,none⟩:Addr).add j = ⟨g,f+j,none⟩:=by unfold Addr.add;split<;>simp_all
  rw[e];exact hnews j u hj) hone (by unfold maxLen;omega) (by omega) hbase
 unfold Oper.wp execOp
 simp only[ho,resolve,invoke,builtin,Sem.run_bind,Sem.run_pure,Result.andThen_ok,List.map_toArray,List.map_cons,List.map_nil,hs,hx,hr]
 exact h v' w' h2 h3 h5
theorem Tryz.infoGIn : (Tryz.prog.info? 3).map (fun i=>(i.zero,i.size,i.bytes))=some (some (.int .i64 0),1,8):=by kernel_rfl
theorem wp_appGIn {ops:Array Oper}{rest:List Oper}{o:Oper}{a:Act}{Q:Exit→Act→World→Prop}{w:World}(hgd:o.guard=none)(s x:Operand)
 (ho:o.op = .call { callee:=.builtin .append,args:=#[s,x],argTypes:=#[24,24] }) (B:Nat) (v:Value) (n:Nat) (xs:List Value) (hs:a.eval s=v) (hown:w.ownsRow B 3 1 v n xs)
 (g f c m:Nat) (ys:List Value) (hx:a.eval x = .slice (some ⟨g,f,none⟩) m c) (hy:ys.length=m*1) (hnews:∀j u,ys[j]?=some u→w.cell? ⟨g,f+j,none⟩=some u) (hone:∀u∈ys,u.oneCell'=true) (hlen:n+m≤10000000) (hbase:B≤w.heap.size)
 (h:∀v' w',w'.ownsRow B 3 1 v' (n+m) (xs++ys)→w.grownBy w' v.ownBlock→(v'.ownBlock=v.ownBlock∨v'.ownBlock=some w.heap.size)→wpList Tryz.prog ops Q rest (a.put o.dst v') w'):wpList Tryz.prog ops Q (o::rest) a w:=by
 obtain⟨i0,hi,hz0,hz1,hz2⟩:=info_partsG Tryz.infoGIn
 refine wpList_append_own_at _ hgd s x 24 ho B 3 i0 _ 1 8 Tryz.underlying24 hi hz0 hz1 hz2 rfl (by decide) v n xs hs hown ⟨g,f,none⟩ m c ys hx hy (fun j u hj=>?_) hone (by unfold maxLen;omega) (by omega) hbase (fun v' w' h1 h2 _ h4=>h v' w' h1 h2 h4)
 have e:(⟨g,f,none⟩:Addr).add j = ⟨g,f+j,none⟩:=by unfold Addr.add;split<;>simp_all
 rw[e];exact hnews j u hj
theorem step_appGIn {ops:Array Oper}{o:Oper}{a:Act}{w:World}{K:Act→World→Prop}{Q:Exit→Act→World→Prop}{E:Prop}(hgd:o.guard=none)(s x:Operand)
 (ho:o.op = .call { callee:=.builtin .append,args:=#[s,x],argTypes:=#[24,24] }) (B:Nat) (v:Value) (n:Nat) (xs:List Value) (hs:a.eval s=v) (hown:w.ownsRow B 3 1 v n xs)
 (g f c m:Nat) (ys:List Value) (hx:a.eval x = .slice (some ⟨g,f,none⟩) m c) (hy:ys.length=m*1) (hnews:∀j u,ys[j]?=some u→w.cell? ⟨g,f+j,none⟩=some u) (hone:∀u∈ys,u.oneCell'=true) (hlen:n+m≤10000000) (hbase:B≤w.heap.size)
 (h:∀v' w',w'.ownsRow B 3 1 v' (n+m) (xs++ys)→w.grownBy w' v.ownBlock→(v'.ownBlock=v.ownBlock∨v'.ownBlock=some w.heap.size)→K (a.put o.dst v') w'):
 if Region.wanted o (yielded ops a.tmps)=true then Oper.wp Tryz.prog o a w K Q else E:=by
 have hw:Region.wanted o (yielded ops a.tmps)=true:=by simp[Region.wanted,hgd]
 rw[if_pos hw]
 obtain⟨i0,hi,hz0,hz1,hz2⟩:=info_partsG Tryz.infoGIn
 obtain⟨v',w',hr,h2,h3,h4,h5⟩:=run_append_own_at (P:=Tryz.prog) w B 24 o.type 3 i0 _ 1 8 Tryz.underlying24 hi hz0 hz1 hz2 rfl (by decide) v n xs hown ⟨g,f,none⟩ m c ys hy (fun j u hj=>by
  have e:(⟨g,f,none⟩:Addr).add j = ⟨g,f+j,none⟩:=by unfold Addr.add;split<;>simp_all
  rw[e];exact hnews j u hj) hone (by unfold maxLen;omega) (by omega) hbase
 unfold Oper.wp execOp
 simp only[ho,resolve,invoke,builtin,Sem.run_bind,Sem.run_pure,Result.andThen_ok,List.map_toArray,List.map_cons,List.map_nil,hs,hx,hr]
 exact h v' w' h2 h3 h5
theorem results_one {fn:Func}{p:Tmp}{ty:TypeId}(h:fn.results = #[.cell p ty])(P:Program)(tmps:Array Value)(w:World)(g:Nat)(t:TypeId)(cs:Array Value)(fr:Nat × Nat){fs:Array Field}
 (hp:tmps.getD p undef = .pointer (some ⟨g,0,none⟩)) (hg:w.heap[g]?=some (.cells cs t fr))
 (hu:P.underlying ty=some (.struct fs)) (hi:(P.info? ty).map (·.size)=some cs.size):
 (results fn tmps).run P w = .ok (.agg cs) w:=by
 have hp':tmps[p]?.getD undef = .pointer (some ⟨g,0,none⟩):=by simpa using hp
 simp[results,h,hp',asAddr,run_loadVar_row w g t ty cs fr _ hg hu rfl hi]
theorem own_sl {w:World}{B e sz n:Nat}{v:Value}{xs:List Value}(h:w.ownsRow B e sz v n xs):∃a c,v = .slice a n c:=by
 rcases h.2 with⟨h1,h0⟩|⟨g,c,cur,hv,_⟩
 ·exact⟨none,0,by rw[h1,h0]⟩
 ·exact⟨_,c,hv⟩
theorem own_lit {w:World}{g B e sz n:Nat}{cs:Array Value}(h:Blk w g e cs)(hB:B≤g)(hs:cs.size=n*sz)(hn:n≤1000):w.ownsRow B e sz (.slice (some ⟨g,0,none⟩) n n) n cs.toList:=
 ⟨by rw[Array.length_toList];exact hs,.inr ⟨g,n,cs,rfl,hB,h,Nat.le_refl _,by unfold maxLen;omega,hs,by rw[← hs];exact List.take_of_length_le (by rw[Array.length_toList];exact Nat.le_refl _)⟩⟩
set_option maxHeartbeats 1000000 in
set_option maxRecDepth 1000000 in
theorem qtext_any {w:World}{c:PsC}{e:PsE}{n:Nat}(h:QsW w c e n):
 Calls Tryz.prog 114 #[.pointer (some ⟨c.P,0,none⟩)] w fun r w'=>r = .returned (.string (e.txt n))∧Below w.heap.size w w':=by
 obtain⟨g0,g1,g2⟩:=h.cells
 have htl:=h.tl
 have hat:=h.at_
 by_cases hn:n<e.T.length
 ·have d0:decide (e.T.length≤n)=false:=decide_eq_false (by omega)
  obtain⟨k0,k1,k2⟩:=h.tok n hn
  have hin:=h.tin n hn
  have HX:Hid (e.txt n=e.s.extract (e.T.getD n (0,0,0)).2.1 ((e.T.getD n (0,0,0)).2.1+(e.T.getD n (0,0,0)).2.2)):=by show _=_;unfold PsE.txt;rw[if_pos hn]
  obtain⟨hta,htb⟩:=h.ta (by omega)
  rw[hta]at g1
  obtain⟨A,hA⟩:∃A,(e.T.getD n (0,0,0)).2.1=A:=⟨_,rfl⟩
  obtain⟨K,hK⟩:∃K,(e.T.getD n (0,0,0)).1=K:=⟨_,rfl⟩
  obtain⟨Q,hQ⟩:∃Q,(e.T.getD n (0,0,0)).2.2=Q:=⟨_,rfl⟩
  rw[hA,hQ]at HX
  rw[hK]at k0
  rw[hA]at k1
  rw[hQ]at k2
  rw[hA,hQ,hK]at hin
  have hsz:=h.szl
  have HIN:=hide hin
  clear hA hK hQ hin
  go_enter Tryz.func114,Tryz.ntmps114
  go_wp2_with fail
  go_quiet (fail)
  have hV:∀m,Below w.heap.size w ((w.drewN m).alloc (.cells #[.int .i64 0,.int .i64 0,.int .i64 0] 73)):=fun m=>(below_drewN (Below.refl _ _) m).alloc (by simp) _
  have mixed:Tryz.prog.follows Departure.mixedOrders=true:=by kernel_rfl
  have v1:=fun m=>cell_kept g1 (hV m)
  have v2:=fun m=>cell_kept g2 (hV m)
  have v3:=fun m=>cell_kept k0 (hV m)
  have v4:=fun m=>cell_kept k1 (hV m)
  have v5:=fun m=>cell_kept k2 (hV m)
  have hB:∀m,Blk ((w.drewN m).alloc (.cells #[.int .i64 0,.int .i64 0,.int .i64 0] 73)) w.heap.size 73 #[.int .i64 0,.int .i64 0,.int .i64 0]:=fun m=>by have:=Blk.new (w.drewN m) 73 #[.int .i64 0,.int .i64 0,.int .i64 0];simpa using this
  have y0:=fun m=>(hB m).cell 0
  have z0:=fun m=>(hB m).frozen 0
  have y1:=fun m=>((hB m).set 0 (.int .i64 (K:Nat))).cell 1
  have z1:=fun m=>((hB m).set 0 (.int .i64 (K:Nat))).frozen 1
  have y2:=fun m=>(((hB m).set 0 (.int .i64 (K:Nat))).set 1 (.int .i64 (A:Nat))).cell 2
  have z2:=fun m=>(((hB m).set 0 (.int .i64 (K:Nat))).set 1 (.int .i64 (A:Nat))).frozen 2
  have HBB:=hide hB
  have HVV:=hide hV
  simp only[List.getElem?_toArray,List.getElem?_cons_zero,Array.setIfInBounds,List.size_toArray,List.length_cons,List.length_nil]at y0 y1 y2
  clear hB hV
  go_wp2_with fail
  go_region_o
  have hU:=(((HBB.out (nq+1)).set 0 (.int .i64 (K:Nat))).set 1 (.int .i64 (A:Nat))).set 2 (.int .i64 (Q:Nat))
  have hUb:=(((HVV.out (nq+1)).setCell (p:=⟨w.heap.size,0,none⟩) (Nat.le_refl _) (.int .i64 (K:Nat))).setCell (p:=⟨w.heap.size,1,none⟩) (Nat.le_refl _) (.int .i64 (A:Nat))).setCell (p:=⟨w.heap.size,2,none⟩) (Nat.le_refl _) (.int .i64 (Q:Nat))
  generalize ((((w.drewN (nq+1)).alloc (.cells #[.int .i64 0,.int .i64 0,.int .i64 0] 73)).setCell ⟨w.heap.size,0,none⟩ (.int .i64 (K:Nat))).setCell ⟨w.heap.size,1,none⟩ (.int .i64 (A:Nat))).setCell ⟨w.heap.size,2,none⟩ (.int .i64 (Q:Nat))=U at hU hUb ⊢
  have u1:=hU.cell 1
  have u2:=hU.cell 2
  have p0:=cell_kept g0 hUb
  have HUB:=hide hUb
  have hAQ:A+Q≤e.s.size:=HIN.out.1
  have q1:(A:Int)+(Q:Int)≤(e.s.size:Int):=by omega
  have q2:IntKind.i64.wrap ((A:Int)+(Q:Int))=((A+Q:Nat):Int):=by rw[IntKind.wrap_i64]<;>omega
  simp only[Array.setIfInBounds,List.size_toArray,List.length_cons,List.length_nil]at u1 u2
  clear hU hUb HBB HVV y0 y1 y2 z0 z1 z2 v1 v2 v3 v4 v5 g0 g1 g2 k0 k1 k2 mixed
  go_wp2_with fail
  go_quiet (fail)
  go_wp2
  go_ret
  exact⟨by rw[HX.out];rfl,below_drewN HUB.out nq⟩
 ·have d0:decide (e.T.length≤n)=true:=decide_eq_true (by omega)
  have HX:Hid (e.txt n = ⟨#[]⟩):=by show _=_;unfold PsE.txt;rw[if_neg hn]
  clear hn
  go_enter Tryz.func114,Tryz.ntmps114
  go_wp2_with fail
  go_quiet (fail)
  go_wp2
  go_ret
  exact⟨by rw[HX.out];rfl,by first|exact Below.refl _ _|exact below_drewN (Below.refl _ _) _|exact below_drewN (below_drewN (Below.refl _ _) _) _⟩
set_option maxHeartbeats 1000000 in
set_option maxRecDepth 1000000 in
theorem qfault_any {w:World}{c:PsC}{e:PsE}{n:Nat}(h:QsW w c e n):
 Calls Tryz.prog 115 #[.pointer (some ⟨c.P,0,none⟩)] w fun r w'=>r = .returned (.agg #[.int .i64 (e.place ⟨n, -1,false⟩:Nat)])∧Below w.heap.size w w':=by
 have HP:=hide (fun W (hW:Below w.heap.size w W)=>qplace_any (h.below hW))
 obtain⟨Q,hQ⟩:∃Q,e.place ⟨n, -1,false⟩=Q:=⟨_,rfl⟩
 rw[hQ]at HP ⊢
 clear h hQ
 go_enter Tryz.func115,Tryz.ntmps115
 go_wp2_with fail
 have hB1:Below w.heap.size w (w.alloc (.cells #[.int .i64 0] 54)):=(Below.refl _ _).alloc (Nat.le_refl _) _
 obtain⟨W1,hW1⟩:∃W,w.alloc (.cells #[.int .i64 0] 54)=W:=⟨_,rfl⟩
 have hk:Blk W1 w.heap.size 54 #[.int .i64 0]:=by rw[← hW1];exact Blk.new _ _ _
 rw[hW1]at hB1 ⊢
 refine (HP.out W1 hB1).mono ?_
 rintro r w' ⟨rfl,hb⟩
 have hk':=hb.block _ hk.lt
 have HBk:Blk w' w.heap.size 54 #[.int .i64 0]:=hk'.trans hk
 have b0:=HBk.cell 0
 have bz:=HBk.frozen 0
 have HB:=hide (hB1.trans (hb.mono hB1.size))
 have HBl:=hide HBk
 clear hk hk' hB1 hW1 hb HBk
 go_wp2
 refine bodyPost_ret (results_one rfl _ _ _ w.heap.size 54 _ (0,0) rfl (HBl.out.set 0 _) Tryz.underlying54 (by kernel_rfl)) rfl ?_
 exact⟨rfl,HB.out.setCell (Nat.le_refl _) _⟩
set_option maxHeartbeats 1000000 in
set_option maxRecDepth 1000000 in
theorem qtake_any {w:World}{c:PsC}{e:PsE}{n:Nat}(s:ByteArray)(h:QsW w c e n)(hn:n≤e.T.length):
 Calls Tryz.prog 83 #[.pointer (some ⟨c.P,0,none⟩),.string s] w fun r w'=>r = .returned (.bool (decide (e.txt n=s)))∧QdQ c e (if e.txt n=s then n+1 else n) w w':=by
 have HT:=hide (qtext_any h)
 have HQ:=hide h
 have hsd:=str_dec (e.txt n) s
 obtain⟨R,hR⟩:∃R,e.txt n=R:=⟨_,rfl⟩
 rw[hR]at HT hsd ⊢
 clear h hR
 go_enter Tryz.func83,Tryz.ntmps83
 go_wp2_with fail
 refine HT.out.mono ?_
 rintro r w' ⟨rfl,hb⟩
 have HB:=hide hb
 by_cases hs:R=s
 ·rw[decide_eq_true hs]at hsd
  have hq:=HQ.out.below hb
  obtain⟨g0,g1,g2⟩:=hq.cells
  have gz:=hq.fz 2
  have htl:=hq.tl
  clear hq hb
  have hnI:(n:Int)+1≤5001:=by omega
  subst hs
  go_wp2
  go_ret
  exact⟨rfl,by first|exact HQ.out.onQ HB.out hn|(rw[if_pos rfl];exact HQ.out.onQ HB.out hn)⟩
 ·rw[decide_eq_false hs]at hsd
  clear hb
  go_wp2
  go_ret
  exact⟨rfl,QdQ.of_below HQ.out HB.out⟩
set_option maxHeartbeats 1000000 in
set_option maxRecDepth 1000000 in
theorem qwant_yes {w:World}{c:PsC}{e:PsE}{n:Nat}(s:ByteArray)(h:QsW w c e n)(hn:n≤e.T.length)(hs:e.txt n=s):
 Calls Tryz.prog 84 #[.pointer (some ⟨c.P,0,none⟩),.string s] w fun r w'=>r = .returned (.tuple #[])∧QdQ c e (n+1) w w':=by
 have HT:=hide (qtake_any s h hn)
 simp only[hs,decide_true,if_true]at HT
 clear h hn hs
 go_enter Tryz.func84,Tryz.ntmps84
 go_wp2_with fail
 refine HT.out.mono ?_
 rintro r w' ⟨rfl,hq⟩
 have HQ:=hide hq
 clear hq
 go_wp2
 exact⟨rfl,_,by first|exact results_none rfl _ _ _|rfl,rfl,HQ.out⟩
set_option maxHeartbeats 1000000 in
set_option maxRecDepth 1000000 in
theorem qwant_no {w:World}{c:PsC}{e:PsE}{n:Nat}(s:ByteArray)(h:QsW w c e n)(hn:n≤e.T.length)(hs:e.txt n≠s):
 Calls Tryz.prog 84 #[.pointer (some ⟨c.P,0,none⟩),.string s] w fun r w'=>r=Flt (e.place ⟨n, -1,false⟩:Nat)∧QdQ c e n w w':=by
 have HT:=hide (qtake_any s h hn)
 have HF:=hide (fun W (hW:QsW W c e n)=>qfault_any hW)
 simp only[hs,decide_false,if_false]at HT
 clear h hn hs
 unfold Flt
 obtain⟨Q,hQ⟩:∃Q,e.place ⟨n, -1,false⟩=Q:=⟨_,rfl⟩
 rw[hQ]at HF ⊢
 clear hQ
 go_enter Tryz.func84,Tryz.ntmps84
 go_wp2_with fail
 refine HT.out.mono ?_
 rintro r w1 ⟨rfl,hq⟩
 have HQ:=hide hq
 clear hq
 go_wp2_with fail
 refine (HF.out w1 HQ.out.1).mono ?_
 rintro r w2 ⟨rfl,hb⟩
 have HB:=hide (HQ.out.trans (QdQ.of_below HQ.out.1 hb))
 clear hb
 go_wp2
 exact⟨rfl,rfl,HB.out⟩
end Go.Proofs.YtbiakdjpeblclaaGreatDoor
