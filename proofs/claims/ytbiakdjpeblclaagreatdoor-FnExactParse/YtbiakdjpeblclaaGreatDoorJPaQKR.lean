/-
  What impl.Parse answered: it is read, marked, held.
-/
import Derived.Test.YtbiakdjpeblclaaGreatDoorJPaQKN
import Derived.Test.YtbiakdjpeblclaaGreatDoorJPaQPH
import Derived.Test.YtbiakdjpeblclaaGreatDoorJPaIN2
import Derived.Test.YtbiakdjpeblclaaGreatDoorJPaPRS
import Derived.Test.YtbiakdjpeblclaaGreatDoorJPaVG0
import Derived.Test.YtbiakdjpeblclaaGreatDoorJPaO1
import Derived.BigQuiet
import Derived.Deep.QuietTactic
namespace Go.Proofs.YtbiakdjpeblclaaGreatDoor
open Go.RowKit
theorem prog_same (s:ByteArray)(T:List (Nat × Nat × Nat)):(rProg s T).1.p.length=(rProg s T).1.t.length:=by
 have hBT:=bd_top ⟨s,T⟩ (2*T.length+3) (T.length+1) (T.length+1) [] ⟨0, -1,false⟩ (fun x hx=>absurd hx (by simp))
 exact ptN_same (ndK 0) 0 hBT.2.1
theorem psA_len (s:ByteArray):(psA s).1.1.length≤50000∧(psA s).1.2.length≤50000:=by
 have h:=prog_len s (lexed s).1 (lexed_len s)
 have h2:=prog_same s (lexed s).1
 unfold psA
 split
 ·exact⟨Nat.zero_le _,Nat.zero_le _⟩
 split
 ·exact⟨Nat.zero_le _,Nat.zero_le _⟩
 split
 ·exact⟨Nat.zero_le _,Nat.zero_le _⟩
 ·exact⟨h,by show (rProg s (lexed s).1).1.p.length≤_;omega⟩
def nti (l:List Nat):List Int:=l.map fun (n:Nat)=>(n:Int)
theorem nti_len (l:List Nat):(nti l).length=l.length:=by unfold nti;rw[List.length_map]
theorem is_plv {w:World}{G:Nat→Prop}{v:Value}{l:List Nat}(h:RwG w G v l.length (plv l)):IS w v (nti l):=by
 obtain⟨a,g,c,h1,h2,h3⟩:=h
 refine⟨a,g,0,c,by rw[nti_len];exact h1,fun h0=>(h2 (by rw[nti_len]at h0;exact h0)).1,fun j hj=>?_⟩
 rw[nti_len]at hj
 rw[Nat.zero_add]
 refine h3 (by omega) j _ ?_
 unfold plv nti
 rw[List.getElem?_map,List.getElem?_eq_getElem hj,List.getD_eq_getElem?_getD,List.getElem?_map,List.getElem?_eq_getElem hj]
 rfl
theorem IS.blw {w w':World}{v:Value}{l:List Int}(h:IS w v l)(hb:Below w.heap.size w w'):IS w' v l:=by
 obtain⟨a,b,o,c,h1,h2,h3⟩:=h
 exact⟨a,b,o,c,h1,h2,fun j hj=>cell_kept (h3 j hj) hb⟩
def ImR (w:World)(lo:Nat)(vt vp:Value)(M:List Nv)(pl:List Nat):Prop:=
 ∃B0 Gs,lo≤B0∧Dj Gs∧(∀i g,Gs i g→Iv lo B0 g)∧(∀(i:Nat) (m:Nv),M[i]?=some m→m.Od w (Gs i))∧w.ownsRow B0 51 6 vt M.length (ncs M)∧w.ownsRow B0 3 1 vp pl.length (plv pl)
theorem ImR.gw {P:Nat→Prop}{w w':World}{lo:Nat}{vt vp:Value}{M:List Nv}{pl:List Nat}(h:ImR w lo vt vp M pl)(hg:Gw P w w')(hp:∀k,P k→k<lo):ImR w' lo vt vp M pl:=by
 obtain⟨B0,Gs,h1,h2,h3,h4,h5,h6⟩:=h
 exact⟨B0,Gs,h1,h2,h3,fun i m hm=>(h4 i m hm).gw hg (fun k q z=>by have:=hp k q;have:=(h3 _ _ z).1;omega),hg.own h5 (fun k hk q=>by have:=hp k q;have:=(World.ownsRow.lt h5 k hk).1;omega),hg.own h6 (fun k hk q=>by have:=hp k q;have:=(World.ownsRow.lt h6 k hk).1;omega)⟩
theorem ImR.blw {w w':World}{lo:Nat}{vt vp:Value}{M:List Nv}{pl:List Nat}(h:ImR w lo vt vp M pl)(hb:Below w.heap.size w w'):ImR w' lo vt vp M pl:=h.gw (P:=fun _=>False) (Gw.of_below hb) (fun _ q=>q.elim)
theorem ImR.ns {w:World}{lo:Nat}{vt vp:Value}{M:List Nv}{pl:List Nat}(h:ImR w lo vt vp M pl):NS w vt (M.map Nv.d):=by
 obtain⟨B0,Gs,h1,h2,h3,h4,h5,h6⟩:=h
 refine (NG.ns (G:=fun _=>True) ⟨M,rfl,RwG.of_own h5 (fun _ _=>trivial),fun m hm=>?_⟩).1
 obtain⟨i,hi,hx⟩:=List.getElem_of_mem hm
 exact (h4 i m (by rw[List.getElem?_eq_getElem hi,hx])).ok.mono (fun _ _ _=>trivial)
theorem ImR.is {w:World}{lo:Nat}{vt vp:Value}{M:List Nv}{pl:List Nat}(h:ImR w lo vt vp M pl):IS w vp (nti pl):=by
 obtain⟨B0,Gs,h1,h2,h3,h4,h5,h6⟩:=h
 exact is_plv (RwG.of_own (G:=fun _=>True) h6 (fun _ _=>trivial))
theorem ImR.bnd {w:World}{lo:Nat}{vt vp:Value}{M:List Nv}{pl:List Nat}(h:ImR w lo vt vp M pl):∀m∈M,∃G,m.Ok w G:=fun m hm=>by
 obtain⟨B0,Gs,h1,h2,h3,h4,h5,h6⟩:=h
 obtain⟨i,hi,hx⟩:=List.getElem_of_mem hm
 exact⟨_,(h4 i m (by rw[List.getElem?_eq_getElem hi,hx])).ok⟩
structure MiR (w:World)(lo:Nat)(vt vp:Value)(M:List Nv)(pl:List Nat)(B0 b:Nat)(Gs:Nat→Nat→Prop):Prop where
 low:lo≤B0
 nd:∀(i:Nat) (m:Nv),M[i]?=some m→NdK w b (i*6) (Gs i) m (1+cN M i)
 sub:∀i g,Gs i g→Iv lo B0 g
 vts:∃a0 cap,vt = .slice a0 M.length cap∧(0<M.length→a0=some ⟨b,0,none⟩)
 row:w.ownsRow B0 3 1 vp pl.length (plv pl)
 nb:vp.ownBlock≠some b
def HdR (w:World)(vt vp:Value)(M:List Nv)(pl:List Nat):Prop:=
 ∃(b:Nat) (Gs:Nat→Nat→Prop),(∀(i:Nat) (m:Nv),M[i]?=some m→NdK w b (i*6) (Gs i) m (1+cN M i))∧(∃a0 cap,vt = .slice a0 M.length cap∧(0<M.length→a0=some ⟨b,0,none⟩))∧∃G,RwG w G vp pl.length (mks mkI (1+cN M M.length) pl.length)
theorem HdR.blw {w w':World}{vt vp:Value}{M:List Nv}{pl:List Nat}(h:HdR w vt vp M pl)(hb:Below w.heap.size w w'):HdR w' vt vp M pl:=by
 obtain⟨b,Gs,h1,h2,G,h3⟩:=h
 have hg:Gw (fun _=>False) w w':=Gw.of_below hb
 exact⟨b,Gs,fun i m hm=>(h1 i m hm).gw hg (fun _ q=>q.elim) (fun q=>q),h2,G,h3.gw hg (fun _ q=>q.elim)⟩
theorem cN_all {M:List Nv}(h:∀m∈M,∃w G,m.Ok w G):∀j,cN M j≤j*1099513724931
 |0=>by unfold cN;simp
 |j+1=>by
  have ih:=cN_all h j
  cases e:M[j]? with
  |none=>
   have:cN M (j+1)=cN M j:=by unfold cN;rw[List.take_add_one,e];simp
   omega
  |some m=>
   rw[cN_succ e]
   obtain⟨w,G,hm⟩:=h m (List.mem_of_getElem? e)
   have:=cst_le hm
   omega
theorem markNS_i {w:World}{lo:Nat}{vt vp:Value}{M:List Nv}{pl:List Nat}(h:ImR w lo vt vp M pl)(hl:M.length≤100000):
 Calls Tryz.prog 11 #[vt,.int .i64 1] w fun r w'=>r = .returned (.int .i64 (1+cN M M.length:Nat))∧(∃B0 b Gs,MiR w' lo vt vp M pl B0 b Gs)∧Gw (fun g=>lo≤g) w w':=by
 obtain⟨B0,Gs,h1,h2,h3,h4,h5,h6⟩:=h
 obtain⟨a0,cap,b,rfl,ha,hbB,hcs,hfz,hnb⟩:∃a0 cap b,vt = .slice a0 M.length cap∧(0<M.length→a0=some ⟨b,0,none⟩)∧B0≤b∧(∀i m,M[i]?=some m→NkC w b (i*6) m.d.kind m.d.n m.d.count m)∧(∀p,w.frozen? ⟨b,p,none⟩=false)∧vp.ownBlock≠some b:=by
  rcases h5.2 with⟨k1,k0⟩|⟨g,c,cur,k1,k2,k3,_⟩
  ·refine⟨none,0,B0+w.heap.size,by rw[k0];exact k1,fun h0=>by omega,by omega,fun i m hm=>?_,fun p=>?_,fun e=>?_⟩
   ·have:=(List.getElem?_eq_some_iff.1 hm).1;omega
   ·simp[World.frozen?]
   ·have:=(World.ownsRow.lt h6 _ e).2;omega
  ·have hrw:=RwG.of_own (G:=fun _=>True) h5 (fun _ _=>trivial)
   refine⟨some ⟨g,0,none⟩,c,g,k1,fun _=>rfl,k2,fun i m hm=>?_,fun p=>?_,own_ne h5 h6 (by decide) (by rw[k1];rfl)⟩
   ·obtain⟨a,g',c',e1,e2,e3⟩:=hrw
    have hi:=(List.getElem?_eq_some_iff.1 hm).1
    rw[k1,(e2 (by omega)).1]at e1
    injection e1 with e1 _ _
    injection e1 with e1
    injection e1 with e1
    subst e1
    have at_:=ncs_at M i m hm
    have ce:=e3 (by omega)
    exact⟨ce _ _ (at_ 0 (by omega)),ce _ _ (at_ 1 (by omega)),ce _ _ (at_ 2 (by omega)),ce _ _ (at_ 3 (by omega)),ce _ _ (at_ 4 (by omega)),ce _ _ (at_ 5 (by omega))⟩
   ·simp[World.frozen?,k3]
 have hno:∀i,¬Gs i b:=fun i z=>by have:=(h3 _ _ z).2;omega
 refine (markNS_r h2 hno hl ⟨hfz,fun i m _ hi=>absurd hi (Nat.not_lt_zero _),fun i m hm _=>⟨hcs i m hm,h4 i m hm⟩,Gw.refl _ _⟩ a0 ha).mono ?_
 rintro r w' ⟨rfl,hk⟩
 refine⟨rfl,⟨B0,b,Gs,h1,fun i m hm=>hk.fst i m hm (List.getElem?_eq_some_iff.1 hm).1,h3,⟨a0,cap,rfl,ha⟩,hk.frm.own h6 (fun k e q=>?_),hnb⟩,hk.frm.mono (fun g _ q=>?_)⟩
 ·rcases q with⟨i,q⟩|q
  ·have:=(h3 _ _ q).2;have:=(World.ownsRow.lt h6 k e).1;omega
  ·exact hnb (q ▸ e)
 ·rcases q with⟨i,q⟩|q
  ·exact (h3 _ _ q).1
  ·show lo≤g;omega
theorem markI_i {w:World}{lo:Nat}{vt vp:Value}{M:List Nv}{pl:List Nat}{B0 b:Nat}{Gs:Nat→Nat→Prop}(h:MiR w lo vt vp M pl B0 b Gs)(hl:M.length≤100000)(hp:pl.length≤100000)(hc:cN M M.length≤M.length*1099513724931):
 Calls Tryz.prog 12 #[vp,.int .i64 (1+cN M M.length:Nat)] w fun r w'=>r = .returned (.int .i64 (1+cN M M.length+pl.length:Nat))∧HdR w' vt vp M pl∧Gw (fun g=>lo≤g) w w':=by
 refine (markI_r (G:=fun g=>vp.ownBlock=some g) (k:=1+cN M M.length) (by omega) (by omega) (RGf.of_own h.row (fun _ e=>e)) (plv_int pl)).mono ?_
 rintro r w' ⟨rfl,hr,hg⟩
 refine⟨rfl,⟨b,Gs,fun i m hm=>(h.nd i m hm).gw hg (fun k q z=>?_) (fun q=>h.nb q.1),h.vts,_,hr⟩,hg.mono (fun g _ q=>?_)⟩
 ·have:=(h.sub _ _ z).2;have:=(World.ownsRow.lt h.row k q.1).1;omega
 ·have:=(World.ownsRow.lt h.row g q.1).1;have:=h.low;show lo≤g;omega
theorem heldNS_i {w:World}{vt vp:Value}{M:List Nv}{pl:List Nat}(h:HdR w vt vp M pl)(hl:M.length≤100000)(hok:∀m∈M,∃w G,m.Ok w G):
 Calls Tryz.prog 13 #[vt,.int .i64 1] w fun r w'=>r = .returned (.int .i64 (1+cN M M.length:Nat))∧w'=w:=by
 obtain⟨b,Gs,h1,⟨a0,cap,rfl,ha⟩,_⟩:=h
 exact heldNS_r hl (fun m hm=>by obtain⟨_,_,k⟩:=hok m hm;exact⟨k.b1,k.b2,k.b3,k.b4⟩) (cN_all hok) h1 a0 ha
theorem heldI_i {w:World}{vt vp:Value}{M:List Nv}{pl:List Nat}(h:HdR w vt vp M pl)(hl:M.length≤100000)(hp:pl.length≤100000)(hok:∀m∈M,∃w G,m.Ok w G):
 Calls Tryz.prog 14 #[vp,.int .i64 (1+cN M M.length:Nat)] w fun r w'=>r = .returned (.int .i64 (1+cN M M.length+pl.length:Nat))∧w'=w:=by
 obtain⟨b,Gs,h1,_,G,h3⟩:=h
 have:=cN_all hok M.length
 exact heldI_r (by omega) (by omega) h3
def two2 (q:Nat × Nat):Value:=.tuple #[.int .i64 (q.1:Int),.int .i64 (q.2:Int)]
theorem two2_of {q:Nat × Nat}{a c:Nat}(h:q=(a,c)):two2 q = .tuple #[.int .i64 (a:Int),.int .i64 (c:Int)]:=by rw[h];rfl
set_option maxHeartbeats 1000000 in
set_option maxRecDepth 1000000 in
theorem tok_letter (b off cap p:Nat)(s:ByteArray)(w:World)(hs:s.size≤1048576)(hcap:s.size≤cap)(hp:p<s.size)(hc:∀j,j<s.size→w.cell? ⟨b,off+j,none⟩=some (bts s j))(hl:isL (s.get! p).toNat=true):
 Calls Tryz.prog 34 #[.slice (some ⟨b,off,none⟩) s.size cap,.int .i64 p] w fun e w'=>e = .returned (two2 (tok s p))∧Below w.heap.size w w':=by
 have HRUN:=hide (run_any b off cap p s w hs (by omega) hc)
 have hrl:=run_le s p (by omega)
 have hz:=size_ext2 s p (p+run s p) hrl
 have hcv:∀c,(convert 22 9 (.slice (some ⟨b,off+p,none⟩) (s.extract p (p+run s p)).size c)).run Tryz.prog w = .ok (.string (s.extract p (p+run s p))) w:=fun c=>toStr_run _ w b (off+p) c (fun j hj=>by
  rw[hz]at hj
  rw[Nat.add_assoc]
  refine (hc (p+j) (by omega)).trans ?_
  unfold bts
  rw[get!_ext2 s p _ j hrl (by omega)])
 rw[hz,Nat.add_sub_cancel_left]at hcv
 have HW:=hide (isWord_any (s.extract p (p+run s p)) w)
 have HT:Hid (tok s p=(if isW (s.extract p (p+run s p))=true then 2 else 1,run s p)):=by show _=_;unfold tok;rw[if_pos hl]
 have g0:w.cell? ⟨b,off+p,none⟩=some (.int .u8 ((s.get! p).toNat:Int)):=hc p hp
 have b0:(s.get! p).toNat<256:=(s.get! p).toNat_lt
 have HL:=letter_any (s.get! p).toNat w b0
 rw[hl]at HL
 obtain⟨y,hy⟩:∃y:Nat,(s.get! p).toNat=y:=⟨_,rfl⟩
 rw[hy]at g0 b0 HL
 have HL':=hide HL
 obtain⟨n,hn⟩:∃n,run s p=n:=⟨_,rfl⟩
 rw[hn]at HRUN hrl hcv HW HT
 obtain⟨x,hx⟩:∃x,s.extract p (p+n)=x:=⟨_,rfl⟩
 rw[hx]at hcv HW HT
 clear hc hl hy hn hx hz HL
 cases hw:isW x with
 |true=>
  rw[hw]at HW
  have HR:Hid (two2 (tok s p) = .tuple #[.int .i64 2,.int .i64 n]):=by show _=_;rw[HT.out,hw];rfl
  clear hw HT
  go_enter Tryz.func34,Tryz.ntmps34
  go_wp2_with fail
  refine HRUN.out.mono ?_
  rintro e w' ⟨rfl,rfl⟩
  go_wp2_with fail
  refine HL'.out.mono ?_
  rintro e w' ⟨rfl,rfl⟩
  go_wp2_with fail
  refine HW.out.mono ?_
  rintro e w1 ⟨rfl,hb⟩
  have HB:=hide hb
  clear hb hcv
  go_wp2
  go_ret2
  exact⟨by rw[HR.out];rfl,HB.out⟩
 |false=>
  rw[hw]at HW
  have HR:Hid (two2 (tok s p) = .tuple #[.int .i64 1,.int .i64 n]):=by show _=_;rw[HT.out,hw];rfl
  clear hw HT
  go_enter Tryz.func34,Tryz.ntmps34
  go_wp2_with fail
  refine HRUN.out.mono ?_
  rintro e w' ⟨rfl,rfl⟩
  go_wp2_with fail
  refine HL'.out.mono ?_
  rintro e w' ⟨rfl,rfl⟩
  go_wp2_with fail
  refine HW.out.mono ?_
  rintro e w1 ⟨rfl,hb⟩
  have HB:=hide hb
  clear hb hcv
  go_wp2
  go_ret2
  exact⟨by rw[HR.out];rfl,HB.out⟩
set_option maxHeartbeats 1000000 in
set_option maxRecDepth 1000000 in
theorem tok_number (b off cap p:Nat)(s:ByteArray)(w:World)(hs:s.size≤1048576)(hcap:s.size≤cap)(hp:p<s.size)(hc:∀j,j<s.size→w.cell? ⟨b,off+j,none⟩=some (bts s j))(hl:isL (s.get! p).toNat=false)(hr:0<run s p):
 Calls Tryz.prog 34 #[.slice (some ⟨b,off,none⟩) s.size cap,.int .i64 p] w fun e w'=>e = .returned (two2 (tok s p))∧Below w.heap.size w w':=by
 have HRUN:=hide (run_any b off cap p s w hs (by omega) hc)
 have hrl:=run_le s p (by omega)
 have HV:=hide (fun c=>value_any b off c p (run s p) s w hs hrl hc)
 have HT:Hid (tok s p=(if nval s (run s p) p 0<0 then (0,0) else (3,run s p))):=by show _=_;unfold tok;rw[if_neg (by rw[hl];decide),if_pos hr]
 have g0:w.cell? ⟨b,off+p,none⟩=some (.int .u8 ((s.get! p).toNat:Int)):=hc p hp
 have b0:(s.get! p).toNat<256:=(s.get! p).toNat_lt
 have HL:=letter_any (s.get! p).toNat w b0
 rw[hl]at HL
 obtain⟨y,hy⟩:∃y:Nat,(s.get! p).toNat=y:=⟨_,rfl⟩
 rw[hy]at g0 b0 HL
 have HL':=hide HL
 obtain⟨n,hn⟩:∃n,run s p=n:=⟨_,rfl⟩
 rw[hn]at HRUN hrl HV HT hr
 obtain⟨v,hv⟩:∃v,nval s n p 0=v:=⟨_,rfl⟩
 rw[hv]at HV HT
 have tr:decide ((0:Int)<(n:Int))=true:=decide_eq_true (by omega)
 clear hc hl hy hn hv HL
 by_cases hneg:v<0
 ·have t1:decide (v<0)=true:=decide_eq_true hneg
  have HR:Hid (two2 (tok s p) = .tuple #[.int .i64 0,.int .i64 0]):=by show _=_;rw[HT.out,if_pos hneg];rfl
  clear hneg HT
  go_enter Tryz.func34,Tryz.ntmps34
  go_wp2_with fail
  refine HRUN.out.mono ?_
  rintro e w' ⟨rfl,rfl⟩
  go_wp2_with fail
  refine HL'.out.mono ?_
  rintro e w' ⟨rfl,rfl⟩
  go_wp2_with fail
  refine (HV.out _).mono ?_
  rintro e w' ⟨rfl,rfl⟩
  go_wp2
  go_ret2
  exact⟨by rw[HR.out];rfl,Below.refl _ _⟩
 ·have t1:decide (v<0)=false:=decide_eq_false hneg
  have HR:Hid (two2 (tok s p) = .tuple #[.int .i64 3,.int .i64 n]):=by show _=_;rw[HT.out,if_neg hneg];rfl
  clear hneg HT
  go_enter Tryz.func34,Tryz.ntmps34
  go_wp2_with fail
  refine HRUN.out.mono ?_
  rintro e w' ⟨rfl,rfl⟩
  go_wp2_with fail
  refine HL'.out.mono ?_
  rintro e w' ⟨rfl,rfl⟩
  go_wp2_with fail
  refine (HV.out _).mono ?_
  rintro e w' ⟨rfl,rfl⟩
  go_wp2
  go_ret2
  exact⟨by rw[HR.out];rfl,Below.refl _ _⟩
set_option maxHeartbeats 1000000 in
set_option maxRecDepth 1000000 in
theorem tok_text (b off cap p:Nat)(s:ByteArray)(w:World)(hs:s.size≤1048576)(_hcap:s.size≤cap)(hp:p<s.size)(hc:∀j,j<s.size→w.cell? ⟨b,off+j,none⟩=some (bts s j))(h34:(s.get! p).toNat=34):
 Calls Tryz.prog 34 #[.slice (some ⟨b,off,none⟩) s.size cap,.int .i64 p] w fun e w'=>e = .returned (two2 (tok s p))∧Below w.heap.size w w':=by
 have HRUN:=run_any b off cap p s w hs (by omega) hc
 have hl:isL (s.get! p).toNat=false:=by rw[h34];decide
 have hr0:run s p=0:=run_is (by omega) (fun j hj=>absurd hj (Nat.not_lt_zero _)) (fun g=>by rw[Nat.add_zero,h34]at g;exact absurd g.2 (by decide))
 rw[hr0]at HRUN
 have HLIT:=hide (specLit_any b off cap p s w hs (by omega) hc)
 have HT:Hid (two2 (tok s p) = .tuple #[.int .i64 4,.int .i64 (litRes s p).2]):=by show _=_;unfold tok;rw[if_neg (by rw[hl];decide),if_neg (by omega),if_pos h34];rfl
 have g0:w.cell? ⟨b,off+p,none⟩=some (.int .u8 34):=by have:=hc p hp;unfold bts at this;rw[h34]at this;exact this
 have HL:=letter_any 34 w (by omega)
 rw[← h34,hl,h34]at HL
 have HL':=hide HL
 have HRUN':=hide HRUN
 obtain⟨n,hn⟩:∃n,(litRes s p).2=n:=⟨_,rfl⟩
 rw[hn]at HT
 rw[hn]at HLIT
 clear hc hl hr0 h34 hn HL HRUN
 go_enter Tryz.func34,Tryz.ntmps34
 go_wp2_with fail
 refine HRUN'.out.mono ?_
 rintro e w' ⟨rfl,rfl⟩
 go_wp2_with fail
 refine HL'.out.mono ?_
 rintro e w' ⟨rfl,rfl⟩
 go_wp2_with fail
 refine HLIT.out.mono ?_
 rintro e w1 ⟨v',rfl,ho,hb⟩
 have HB:=hide hb
 clear hb ho
 go_wp2
 go_ret2
 exact⟨by rw[HT.out];rfl,HB.out⟩
def sc : Array Value:=(sl.map fun l=>Value.string ⟨l.toArray⟩).toArray
theorem sc_at (j:Nat)(h:j<22):sc[j]?=some (.string ⟨(sl.getD j []).toArray⟩):=by
 have h':j<sl.length:=h
 unfold sc
 rw[List.getElem?_toArray,List.getElem?_map]
 simp[List.getD,List.getElem?_eq_getElem h']
def nom (s:ByteArray)(p j:Nat):Prop:=(j<6→¬(p+2≤s.size∧[s.get! p,s.get! (p+1)]=sl.getD j []))∧(6≤j→[s.get! p]≠sl.getD j [])
set_option maxHeartbeats 1000000 in
set_option maxRecDepth 1000000 in
theorem tok_sign (b off cap p:Nat)(s:ByteArray)(w:World)(hs:s.size≤1048576)(hcap:s.size≤cap)(hp:p<s.size)(hc:∀j,j<s.size→w.cell? ⟨b,off+j,none⟩=some (bts s j))(hl:isL (s.get! p).toNat=false)(hr:run s p=0)(h34:(s.get! p).toNat≠34):
 Calls Tryz.prog 34 #[.slice (some ⟨b,off,none⟩) s.size cap,.int .i64 p] w fun e w'=>e = .returned (two2 (tok s p))∧Below w.heap.size w w':=by
 have HRUN:=run_any b off cap p s w hs (by omega) hc
 rw[hr]at HRUN
 have HT:Hid (tok s p=(if sg s p=0 then (0,0) else (5,sg s p))):=by show _=_;unfold tok;rw[if_neg (by rw[hl];decide),if_neg (by omega),if_neg h34]
 have g0:w.cell? ⟨b,off+p,none⟩=some (.int .u8 ((s.get! p).toNat:Int)):=hc p hp
 have b0:(s.get! p).toNat<256:=(s.get! p).toNat_lt
 have HL:=letter_any (s.get! p).toNat w b0
 rw[hl]at HL
 have HC:=hide hc
 obtain⟨y,hy⟩:∃y:Nat,(s.get! p).toNat=y:=⟨_,rfl⟩
 rw[hy]at g0 b0 HL h34
 have t34:((y:Int)==34)=false:=by rw[beq_eq_false_iff_ne];omega
 have HL':=hide HL
 have HRUN':=hide HRUN
 clear hc hl hy HL h34 hr HRUN
 go_enter Tryz.func34,Tryz.ntmps34
 go_wp2_with fail
 refine HRUN'.out.mono ?_
 rintro e w' ⟨rfl,rfl⟩
 go_wp2_with fail
 refine HL'.out.mono ?_
 rintro e w' ⟨rfl,rfl⟩
 go_wp2
 have HSC:Hid (∀j,j<22→(w'.alloc (.cells sc 9)).cell? ⟨w'.heap.size,j,none⟩=some (.string ⟨(sl.getD j []).toArray⟩)):=fun j hj=>(cell_fresh w' sc 9 j).trans (sc_at j hj)
 have HBW:Hid (Below w'.heap.size w' (w'.alloc (.cells sc 9))):=(Below.refl _ _).alloc (Nat.le_refl _) _
 have HCW:Hid (∀j,j<s.size→(w'.alloc (.cells sc 9)).cell? ⟨b,off+j,none⟩=some (bts s j)):=fun j hj=>by
  rw[HBW.out.cell (p:=⟨b,off+j,none⟩) (World.block_lt_of_cell? _ _ (HC.out j hj))];exact HC.out j hj
 clear HC g0 HL' HRUN'
 go_loopw [10] (fun ix wr=>∃n:Nat,ix = .int .i64 n∧n≤22∧(∀j,j<n→nom s p j)∧∃k,wr=(w'.alloc (.cells sc 9)).drewN k) (fun ix _=>22 - (intOf ix).toNat)
 case atStart=>exact⟨0,rfl,by omega,fun j hj=>absurd hj (Nat.not_lt_zero _),0,rfl⟩
 case round=>
  obtain⟨n,rfl,hn,hall,k,rfl⟩:=hrel
  have HALL:=hide hall
  obtain⟨W1,hW1⟩:∃W1,w'.alloc (.cells sc 9)=W1:=⟨_,rfl⟩
  rw[hW1]at HSC HBW HCW ⊢
  have HWR:=hide hW1
  clear hall hW1
  by_cases hlt:n<22
  ·have hlti:(n:Int)<22:=by omega
   have g1:=HSC.out n hlt
   obtain⟨x,hx⟩:∃x:ByteArray,(⟨(sl.getD n []).toArray⟩:ByteArray)=x:=⟨_,rfl⟩
   have HX:Hid (x.toList=sl.getD n []):=by show _=_;rw[← hx,Lib.toList_data]
   have HXZ:Hid (x.size=(sl.getD n []).length):=by show _=_;rw[← hx];show (sl.getD n []).toArray.size=_;simp
   rw[hx]at g1
   clear hx
   by_cases h6:n<6
   ·have hxz:x.size=2:=by rw[HXZ.out,(sl_lo h6).1];exact (sl_lo h6).2.1
    by_cases h2:p+2≤s.size
    ·have t0:(p:Int)+2≤(s.size:Int):=by omega
     have hz:=size_ext2 s p (p+2) h2
     have hcv:∀c k,(convert 22 9 (.slice (some ⟨b,off+p,none⟩) (s.extract p (p+2)).size c)).run Tryz.prog (W1.drewN k) = .ok (.string (s.extract p (p+2))) (W1.drewN k):=fun c k=>toStr_run _ (W1.drewN k) b (off+p) c (fun j hj=>by
      rw[hz]at hj
      rw[Nat.add_assoc]
      refine (HCW.out (p+j) (by omega)).trans ?_
      unfold bts
      rw[get!_ext2 s p _ j h2 (by omega)])
     rw[hz,Nat.add_sub_cancel_left]at hcv
     have HLI:=hide (list_two s p h2)
     obtain⟨z,hz'⟩:∃z,s.extract p (p+2)=z:=⟨_,rfl⟩
     rw[hz']at hcv HLI
     clear hz' hz
     by_cases he:z.toList=x.toList
     ·have t1:(z.toList==x.toList)=true:=by rw[beq_iff_eq];exact he
      have HR:Hid (two2 (tok s p) = .tuple #[.int .i64 5,.int .i64 2]):=by
       show _=_
       rw[HT.out,sg_two h6 h2 (by rw[← HLI.out,he,HX.out])];rfl
      clear he h6 h2 HT
      go_wp2_with fail
      go_quiet (fail)
      go_wp2
      go_ret2
      exact⟨by rw[HR.out];rfl,HBW.out.trans ⟨rfl,rfl,rfl,Nat.le_refl _,fun _ _=>rfl⟩⟩
     ·have t1:(z.toList==x.toList)=false:=by rw[beq_eq_false_iff_ne];exact he
      have HNO:Hid (nom s p n):=⟨fun _ g=>he (by rw[HLI.out,g.2,HX.out]),fun g=>by omega⟩
      clear he
      go_wp2_with fail
      go_quiet (fail)
      go_wp2
      go_roundw
      case rel=>exact⟨n+1,by go_num,by omega,fun j hj=>by
       by_cases e:j=n
       ·rw[e];exact HNO.out
       ·exact HALL.out j (by omega),_,rfl⟩
      case measure=>simp[intOf];omega
    ·have t0:decide ((p:Int)+2≤(s.size:Int))=false:=decide_eq_false (by omega)
     have HNO:Hid (nom s p n):=⟨fun _ g=>h2 g.1,fun g=>by omega⟩
     go_wp2_with fail
     go_quiet (fail)
     go_wp2
     go_roundw
     case rel=>exact⟨n+1,by go_num,by omega,fun j hj=>by
      by_cases e:j=n
      ·rw[e];exact HNO.out
      ·exact HALL.out j (by omega),_,rfl⟩
     case measure=>simp[intOf];omega
   ·have hhi:=sl_hi ⟨n - 6,by omega⟩
    simp only[show 6+(n - 6)=n by omega]at hhi
    have hxz:x.size=1:=by rw[HXZ.out,hhi.1];rfl
    clear hhi
    have h2:p+1≤s.size:=hp
    have t0:(p:Int)+1≤(s.size:Int):=by omega
    have hz:=size_ext2 s p (p+1) h2
    have hcv:∀c k,(convert 22 9 (.slice (some ⟨b,off+p,none⟩) (s.extract p (p+1)).size c)).run Tryz.prog (W1.drewN k) = .ok (.string (s.extract p (p+1))) (W1.drewN k):=fun c k=>toStr_run _ (W1.drewN k) b (off+p) c (fun j hj=>by
     rw[hz]at hj
     rw[Nat.add_assoc]
     refine (HCW.out (p+j) (by omega)).trans ?_
     unfold bts
     rw[get!_ext2 s p _ j h2 (by omega)])
    rw[hz,Nat.add_sub_cancel_left]at hcv
    have HLI:=hide (list_one s p h2)
    obtain⟨z,hz'⟩:∃z,s.extract p (p+1)=z:=⟨_,rfl⟩
    rw[hz']at hcv HLI
    clear hz' hz
    by_cases he:z.toList=x.toList
    ·have t1:(z.toList==x.toList)=true:=by rw[beq_iff_eq];exact he
     have HR:Hid (two2 (tok s p) = .tuple #[.int .i64 5,.int .i64 1]):=by
      show _=_
      rw[HT.out,sg_one (n:=n) (by omega) hlt (fun j hj=>(HALL.out j (by omega)).1 hj) (by rw[← HLI.out,he,HX.out])];rfl
     clear he h6 h2 HT
     go_wp2_with fail
     go_quiet (fail)
     go_wp2
     go_ret2
     exact⟨by rw[HR.out];rfl,HBW.out.trans ⟨rfl,rfl,rfl,Nat.le_refl _,fun _ _=>rfl⟩⟩
    ·have t1:(z.toList==x.toList)=false:=by rw[beq_eq_false_iff_ne];exact he
     have HNO:Hid (nom s p n):=⟨fun g=>absurd g h6,fun _ g=>he (by rw[HLI.out,g,HX.out])⟩
     clear he
     go_wp2_with fail
     go_quiet (fail)
     go_wp2
     go_roundw
     case rel=>exact⟨n+1,by go_num,by omega,fun j hj=>by
      by_cases e:j=n
      ·rw[e];exact HNO.out
      ·exact HALL.out j (by omega),_,rfl⟩
     case measure=>simp[intOf];omega
  ·have hlti:¬(n:Int)<22:=by omega
   have HR:Hid (two2 (tok s p) = .tuple #[.int .i64 0,.int .i64 0]):=by
    show _=_
    rw[HT.out,sg_none (fun j hj=>(HALL.out j (by omega)).1 hj) (fun j h1 h2=>(HALL.out j (by omega)).2 h1)];rfl
   clear HT
   go_wp2
   go_ret2
   exact⟨by rw[HR.out];rfl,HBW.out.trans ⟨rfl,rfl,rfl,Nat.le_refl _,fun _ _=>rfl⟩⟩
theorem tok_any (b off cap p:Nat)(s:ByteArray)(w:World)(hs:s.size≤1048576)(hcap:s.size≤cap)(hp:p<s.size)(hc:∀j,j<s.size→w.cell? ⟨b,off+j,none⟩=some (bts s j)):
 Calls Tryz.prog 34 #[.slice (some ⟨b,off,none⟩) s.size cap,.int .i64 p] w fun e w'=>e = .returned (two2 (tok s p))∧Below w.heap.size w w':=by
 cases hl:isL (s.get! p).toNat with
 |true=>exact tok_letter b off cap p s w hs hcap hp hc hl
 |false=>
  by_cases hr:0<run s p
  ·exact tok_number b off cap p s w hs hcap hp hc hl hr
  ·by_cases h34:(s.get! p).toNat=34
   ·exact tok_text b off cap p s w hs hcap hp hc h34
   ·exact tok_sign b off cap p s w hs hcap hp hc hl (by omega) h34
end Go.Proofs.YtbiakdjpeblclaaGreatDoor
