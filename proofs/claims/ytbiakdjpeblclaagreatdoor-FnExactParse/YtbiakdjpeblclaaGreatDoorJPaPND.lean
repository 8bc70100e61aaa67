/-
  The walk of spec.l2node.
-/
import Derived.Test.YtbiakdjpeblclaaGreatDoorJPaMKB
import Derived.Test.YtbiakdjpeblclaaGreatDoorJPaQMY
namespace Go.Proofs.YtbiakdjpeblclaaGreatDoor
open Go.RowKit
theorem flat_take {ks:List Pt}{k:Nat}(hk:k<ks.length){α:Type}(f:Pt→List α):((ks.take (k+1)).map f).flatten=((ks.take k).map f).flatten++f (ks[k]'hk):=by
 rw[List.take_add_one,List.getElem?_eq_getElem hk,Option.toList_some,List.map_append,List.flatten_append,List.map_singleton,List.flatten_singleton]
theorem nsl_take {ks:List Pt}:∀k,nsl (ks.take k)≤nsl ks:=fun k=>by
 have h:=nsl_app (ks.take k) (ks.drop k)
 rw[List.take_append_drop]at h
 omega
theorem flat_len (ks:List Pt):(ks.map Pt.t).flatten.length=nsl ks:=by
 rw[List.length_flatten,List.map_map];rfl
structure NdI (w V:World)(G:Nat→Prop)(O R:Nat)(d:Nd)(pl:Nat)(ks:List Pt)(kt kp:Nat)(vt vp:Value)(M:List Nv):Prop where
 out:Blk V O 45 #[vt,vp]
 res:Blk V R 45 #[.slice none 0 0,.slice none 0 0]
 ne:R≠O
 lo:w.heap.size≤O∧w.heap.size≤R
 t:V.ownsRow w.heap.size 51 6 vt M.length (ncs M)
 p:V.ownsRow w.heap.size 3 1 vp (1+nsl (ks.take kp)) (plv (pl::((ks.take kp).map Pt.p).flatten))
 md:M.map Nv.d = { d with count:=(ks.length:Int) }::((ks.take kt).map Pt.t).flatten
 ok:∀m∈M,m.Ok w G
 bl:Below w.heap.size w V
theorem NdI.t_app {w V V1:World}{G:Nat→Prop}{O R:Nat}{d:Nd}{pl:Nat}{ks:List Pt}{k kp:Nat}{vt vp v':Value}{M Mx:List Nv}(h:NdI w V G O R d pl ks k kp vt vp M)(hk:k<ks.length)(hx:Mx.map Nv.d=(ks[k]'hk).t)(hox:∀m∈Mx,m.Ok w G)
 (hown:V1.ownsRow w.heap.size 51 6 v' (M.length+(ks[k]'hk).t.length) (ncs M++ncs Mx)) (hg:V.grownBy V1 vt.ownBlock):
 Blk V1 O 45 #[vt,vp]∧Below w.heap.size w V1∧NdI w (V1.setCell ⟨O,0,none⟩ v') G O R d pl ks (k+1) kp v' vp (M++Mx):=by
 have b1:Below w.heap.size w V1:=h.bl.grown hg h.bl.size (fun j hj=>(World.ownsRow.lt h.t j hj).1)
 have o1:Blk V1 O 45 #[vt,vp]:=app_typed h.out (by decide) h.t hg
 have r1:Blk V1 R 45 #[.slice none 0 0,.slice none 0 0]:=app_typed h.res (by decide) h.t hg
 refine⟨o1,b1,⟨o1.set 0 v',r1.other 0 v' h.ne,h.ne,h.lo,?_,?_,?_,fun m hm=>?_,b1.setCell h.lo.1 _⟩⟩
 ·rw[List.length_append,ncs_app,show Mx.length=(ks[k]'hk).t.length by rw[← hx,List.length_map]]
  exact own_typed hown (fun g cur hb=>set_typed o1 hb (by decide))
 ·refine own_typed (own_typed h.p (fun g cur hb=>app_typed hb (by decide) h.t hg)) (fun g cur hb=>set_typed o1 hb (by decide))
 ·rw[List.map_append,h.md,hx,flat_take hk];rfl
 ·rcases List.mem_append.1 hm with q|q
  ·exact h.ok m q
  ·exact hox m q
theorem NdI.p_app {w V V1:World}{G:Nat→Prop}{O R:Nat}{d:Nd}{pl:Nat}{ks:List Pt}{k kt:Nat}{vt vp v':Value}{M:List Nv}(h:NdI w V G O R d pl ks kt k vt vp M)(hk:k<ks.length)
 (hown:V1.ownsRow w.heap.size 3 1 v' (1+nsl (ks.take k)+(ks[k]'hk).t.length) (plv (pl::((ks.take k).map Pt.p).flatten)++plv (ks[k]'hk).p)) (hg:V.grownBy V1 vp.ownBlock):
 Blk V1 O 45 #[vt,vp]∧Below w.heap.size w V1∧NdI w (V1.setCell ⟨O,1,none⟩ v') G O R d pl ks kt (k+1) vt v' M:=by
 have b1:Below w.heap.size w V1:=h.bl.grown hg h.bl.size (fun j hj=>(World.ownsRow.lt h.p j hj).1)
 have o1:Blk V1 O 45 #[vt,vp]:=app_typed h.out (by decide) h.p hg
 have r1:Blk V1 R 45 #[.slice none 0 0,.slice none 0 0]:=app_typed h.res (by decide) h.p hg
 refine⟨o1,b1,⟨o1.set 1 v',r1.other 1 v' h.ne,h.ne,h.lo,?_,?_,h.md,h.ok,b1.setCell h.lo.1 _⟩⟩
 ·refine own_typed (own_typed h.t (fun g cur hb=>app_typed hb (by decide) h.p hg)) (fun g cur hb=>set_typed o1 hb (by decide))
 ·have e1:nsl (ks.take (k+1))=nsl (ks.take k)+(ks[k]'hk).t.length:=by rw[← flat_len,flat_take hk,List.length_append,flat_len]
  rw[e1,← Nat.add_assoc,flat_take hk]
  have e2:plv (pl::(((ks.take k).map Pt.p).flatten++(ks[k]'hk).p))=plv (pl::((ks.take k).map Pt.p).flatten)++plv (ks[k]'hk).p:=by unfold plv;rw[← List.cons_append,List.map_append]
  rw[e2]
  exact own_typed hown (fun g cur hb=>set_typed o1 hb (by decide))
theorem NdI.drew {w V:World}{G:Nat→Prop}{O R:Nat}{d:Nd}{pl:Nat}{ks:List Pt}{kt kp:Nat}{vt vp:Value}{M:List Nv}(h:NdI w V G O R d pl ks kt kp vt vp M):NdI w V.drew G O R d pl ks kt kp vt vp M:=
 ⟨h.out,h.res,h.ne,h.lo,h.t.drew,h.p.drew,h.md,h.ok,h.bl.trans (Below.refl _ _).drew⟩
theorem plv_len (l:List Nat):(plv l).length=l.length:=by unfold plv;rw[List.length_map]
theorem plv_one (l:List Nat):∀u∈plv l,u.oneCell'=true:=fun u hu=>by
 obtain⟨n,_,rfl⟩:=List.mem_map.1 hu
 rfl
set_option maxHeartbeats 4000000 in
set_option maxRecDepth 1000000 in
theorem l2node_any {w:World}{G:Nat→Prop}{m:Nv}{pl:Nat}{vk:Value}{ks:List Pt}(hm:m.Ok w G)(hk:PR w G vk ks)(hG:∀g,w.heap.size≤g→G g)(hlen:1+nsl ks≤1000000)(hkl:ks.length≤1000000):
 Calls Tryz.prog 20 #[.agg #[.int .i64 m.d.kind,.int .i64 m.d.n,m.t,m.n,m.y,.int .i64 m.d.count],.int .i64 (pl:Nat),vk] w fun r w'=>∃vt vp,r = .returned (.agg #[vt,vp])∧PV w' G vt vp (ptN m.d pl ks)∧Below w.heap.size w w':=by
 obtain⟨d,vt,vn,vy⟩:=m
 obtain⟨a1,c1,e1⟩:=hm.text.slc
 obtain⟨_,_,⟨a2,_,c2,e2,_⟩,_⟩:=hm.names
 obtain⟨a3,_,c3,e3,_⟩:=hm.types
 simp only at e1 e2 e3
 subst e1 e2 e3
 have HM:=hide hm
 have HK:=hide hk
 obtain⟨a4,c4,e4⟩:∃a c,vk = .slice a ks.length c:=by obtain⟨M,⟨a,g,c,h,_⟩,_⟩:=hk;exact⟨a,c,h⟩
 subst e4
 simp only
 obtain⟨W1,hW1⟩:∃W,(w.alloc (.cells #[.int .i64 d.kind,.int .i64 d.n,.slice a1 d.text.size c1,.slice a2 d.names.length c2,.slice a3 d.types.length c3,.int .i64 d.count] 51)).alloc (.cells #[.slice none 0 0,.slice none 0 0] 45)=W:=⟨_,rfl⟩
 have b1:Blk W1 w.heap.size 51 #[.int .i64 d.kind,.int .i64 d.n,.slice a1 d.text.size c1,.slice a2 d.names.length c2,.slice a3 d.types.length c3,.int .i64 d.count]:=by rw[← hW1];exact (Blk.new _ _ _).alloc _
 have r1:Blk W1 (w.heap.size+1) 45 #[.slice none 0 0,.slice none 0 0]:=by
  have h:=Blk.new (w.alloc (.cells #[.int .i64 d.kind,.int .i64 d.n,.slice a1 d.text.size c1,.slice a2 d.names.length c2,.slice a3 d.types.length c3,.int .i64 d.count] 51)) 45 #[.slice none 0 0,.slice none 0 0]
  rw[World.size_alloc]at h
  rw[← hW1];exact h
 have HB1:Hid (Below w.heap.size w W1):=by rw[← hW1];exact ((Below.refl _ _).alloc (Nat.le_refl _) _).alloc (by simp) _
 have HS1:Hid (W1.heap.size=w.heap.size+2):=by show _=_;rw[← hW1];simp
 have z5:=b1.cell 5
 have f5:=b1.frozen 5
 obtain⟨W2,hW2⟩:∃W,W1.setCell ⟨w.heap.size,5,none⟩ (.int .i64 (ks.length:Nat))=W:=⟨_,rfl⟩
 have b2:Blk W2 w.heap.size 51 #[.int .i64 d.kind,.int .i64 d.n,.slice a1 d.text.size c1,.slice a2 d.names.length c2,.slice a3 d.types.length c3,.int .i64 (ks.length:Nat)]:=by rw[← hW2];exact b1.set 5 _
 have r2:Blk W2 (w.heap.size+1) 45 #[.slice none 0 0,.slice none 0 0]:=by rw[← hW2];exact r1.other 5 _ (by omega)
 have HB2:Hid (Below w.heap.size w W2):=by rw[← hW2];exact HB1.out.setCell (Nat.le_refl _) _
 have HS2:Hid (W2.heap.size=w.heap.size+2):=by show _=_;rw[← hW2,World.size_setCell];exact HS1.out
 have y0:=b2.cell 0
 have y1:=b2.cell 1
 have y2:=b2.cell 2
 have y3:=b2.cell 3
 have y4:=b2.cell 4
 have y5:=b2.cell 5
 simp only[List.getElem?_toArray,List.getElem?_cons_succ,List.getElem?_cons_zero]at z5 y0 y1 y2 y3 y4 y5
 obtain⟨W5,hW5⟩:∃W,((W2.alloc (.cells #[.int .i64 d.kind,.int .i64 d.n,.slice a1 d.text.size c1,.slice a2 d.names.length c2,.slice a3 d.types.length c3,.int .i64 (ks.length:Nat)] 51)).alloc (.cells #[.int .i64 (pl:Nat)] 3)).alloc (.cells #[.slice none 0 0,.slice none 0 0] 45)=W:=⟨_,rfl⟩
 have o5:Blk W5 (W2.heap.size+2) 45 #[.slice none 0 0,.slice none 0 0]:=by
  have h:=Blk.new ((W2.alloc (.cells #[.int .i64 d.kind,.int .i64 d.n,.slice a1 d.text.size c1,.slice a2 d.names.length c2,.slice a3 d.types.length c3,.int .i64 (ks.length:Nat)] 51)).alloc (.cells #[.int .i64 (pl:Nat)] 3)) 45 #[.slice none 0 0,.slice none 0 0]
  rw[World.size_alloc,World.size_alloc]at h
  rw[← hW5];exact h
 have HB5:Hid (Below W2.heap.size W2 W5):=by rw[← hW5];exact (((Below.refl _ _).alloc (Nat.le_refl _) _).alloc (by simp) _).alloc (by simp;omega) _
 have HT5:Hid (W5.ownsRow w.heap.size 51 6 (.slice (some ⟨W2.heap.size,0,none⟩) 1 1) 1 (ncs [⟨{ d with count:=(ks.length:Int) },.slice a1 d.text.size c1,.slice a2 d.names.length c2,.slice a3 d.types.length c3⟩])):=by
  have h:Blk W5 W2.heap.size 51 #[.int .i64 d.kind,.int .i64 d.n,.slice a1 d.text.size c1,.slice a2 d.names.length c2,.slice a3 d.types.length c3,.int .i64 (ks.length:Nat)]:=by rw[← hW5];exact ((Blk.new _ _ _).alloc _).alloc _
  exact own_lit (n:=1) (sz:=6) h (by rw[HS2.out];omega) rfl (by omega)
 have HP5:Hid (W5.ownsRow w.heap.size 3 1 (.slice (some ⟨W2.heap.size+1,0,none⟩) 1 1) 1 (plv [pl])):=by
  have h:Blk W5 (W2.heap.size+1) 3 #[.int .i64 (pl:Nat)]:=by
   have h:=Blk.new (W2.alloc (.cells #[.int .i64 d.kind,.int .i64 d.n,.slice a1 d.text.size c1,.slice a2 d.names.length c2,.slice a3 d.types.length c3,.int .i64 (ks.length:Nat)] 51)) 3 #[.int .i64 (pl:Nat)]
   rw[World.size_alloc]at h
   rw[← hW5];exact h.alloc _
  exact own_lit (n:=1) (sz:=1) h (by rw[HS2.out];omega) rfl (by omega)
 have x0:=o5.cell 0
 have x1:=o5.cell 1
 have xf0:=o5.frozen 0
 have xf1:=o5.frozen 1
 simp only[List.getElem?_toArray,List.getElem?_cons_succ,List.getElem?_cons_zero]at x0 x1
 clear hm hk
 go_enter Tryz.func20,Tryz.ntmps20
 go_wp2_with fail
 have hI0:NdI w ((W5.setCell ⟨W2.heap.size+1+1,0,none⟩ (.slice (some ⟨W2.heap.size,0,none⟩) 1 1)).setCell ⟨W2.heap.size+1+1,1,none⟩ (.slice (some ⟨W2.heap.size+1,0,none⟩) 1 1)) G (W2.heap.size+1+1) (w.heap.size+1) d pl ks 0 0 (.slice (some ⟨W2.heap.size,0,none⟩) 1 1) (.slice (some ⟨W2.heap.size+1,0,none⟩) 1 1) [⟨{ d with count:=(ks.length:Int) },.slice a1 d.text.size c1,.slice a2 d.names.length c2,.slice a3 d.types.length c3⟩]:=by
  have s2:=HS2.out
  have o6:=o5.set 0 (.slice (some ⟨W2.heap.size,0,none⟩) 1 1)
  refine⟨(o5.set 0 _).set 1 _,((r2.below HB5.out).other 0 _ (by omega)).other 1 _ (by omega),by omega,⟨by omega,by omega⟩,?_,?_,rfl,fun m hm=>?_,((HB2.out.trans (HB5.out.mono (by omega))).setCell (by show w.heap.size≤W2.heap.size+1+1;omega) _).setCell (by show w.heap.size≤W2.heap.size+1+1;omega) _⟩
  ·exact own_typed (own_typed HT5.out (fun g cur hb=>set_typed o5 hb (by decide))) (fun g cur hb=>set_typed o6 hb (by decide))
  ·exact own_typed (own_typed HP5.out (fun g cur hb=>set_typed o5 hb (by decide))) (fun g cur hb=>set_typed o6 hb (by decide))
  ·rw[List.mem_singleton.1 hm]
   have h:=HM.out
   exact⟨h.text,h.names,h.types,h.b1,h.b2,h.b3,h.b4⟩
 obtain⟨W6,hW6⟩:∃W,(W5.setCell ⟨W2.heap.size+1+1,0,none⟩ (.slice (some ⟨W2.heap.size,0,none⟩) 1 1)).setCell ⟨W2.heap.size+1+1,1,none⟩ (.slice (some ⟨W2.heap.size+1,0,none⟩) 1 1)=W:=⟨_,rfl⟩
 rw[hW6]at hI0 ⊢
 obtain⟨O,hO⟩:∃O,W2.heap.size+1+1=O:=⟨_,rfl⟩
 rw[hO]at hI0 ⊢
 obtain⟨R,hR⟩:∃R,w.heap.size+1=R:=⟨_,rfl⟩
 rw[hR]at hI0 ⊢
 have HI0:=hide hI0
 clear hI0 hW6 hO hR hW1 hW2 hW5 b1 r1 b2 r2 o5 HB1 HS1 HB2 HS2 HB5 HT5 HP5 z5 f5 y0 y1 y2 y3 y4 y5 x0 x1 xf0 xf1
 go_loopw [8] (fun ix wr=>∃(k:Nat) (vt vp:Value) (M:List Nv),k≤ks.length∧ix = .int .i64 k∧NdI w wr G O R d pl ks k k vt vp M) (fun ix _=>ks.length - (intOf ix).toNat)
 case atStart=>exact⟨0,_,_,_,Nat.zero_le _,rfl,HI0.out⟩
 case round=>
  obtain⟨k,vt,vp,M,hk,rfl,hI⟩:=hrel
  clear HI0
  rename World=>V
  by_cases hlt:k<ks.length
  ·have hlti:(k:Int)<(ks.length:Int):=by omega
   obtain⟨KM,⟨ka,kg,kc,hka,hkb,hkc⟩,hms⟩:=HK.out
   injection hka with hka _ hkc4
   subst hka hkc4
   obtain⟨hka,hkg⟩:=hkb (by omega)
   subst hka
   obtain⟨mx,hmx,hpv⟩:=hms.2 k _ (List.getElem?_eq_getElem hlt)
   have hcs:=hkc (by omega)
   have k0:=hcs _ _ (pcs_at KM k mx hmx).1
   have k1:=hcs _ _ (pcs_at KM k mx hmx).2
   rw[Nat.mul_comm]at k0 k1
   obtain⟨tg,tc,pg,pc,et,ep,htg,hpg⟩:=hpv.slc
   obtain⟨Mx,hMx,⟨ta,tg',tc',et',htb,htcs⟩,hMok⟩:=hpv.t
   rw[et]at et'
   injection et' with et1 et2 et3
   have hMl:Mx.length=(ks[k]'hlt).t.length:=by rw[← hMx,List.length_map]
   have hne:=hpv.ne
   obtain⟨et4,_⟩:=htb (by omega)
   rw[← et1]at et4
   injection et4 with et4
   injection et4 with et4
   subst et4
   have hts:=htcs (by omega)
   obtain⟨pa,pg',pc',ep',hpb,hpcs⟩:=hpv.p
   rw[ep]at ep'
   injection ep' with ep1 ep2 ep3
   obtain⟨ep4,_⟩:=hpb (by rw[hpv.same];omega)
   rw[← ep1]at ep4
   injection ep4 with ep4
   injection ep4 with ep4
   subst ep4
   have hps:=hpcs (by rw[hpv.same];omega)
   rw[et]at k0
   rw[ep]at k1
   have hMn:M.length+(ks[k]'hlt).t.length≤1000000:=by
    have h1:M.length=1+nsl (ks.take k):=by rw[← List.length_map (f:=Nv.d),hI.md,List.length_cons,flat_len];omega
    have h2:=nsl_take (ks:=ks) (k+1)
    have e1:nsl (ks.take (k+1))=nsl (ks.take k)+(ks[k]'hlt).t.length:=by rw[← flat_len,flat_take hlt,List.length_append,flat_len]
    omega
   have hPn:1+nsl (ks.take k)+(ks[k]'hlt).t.length≤1000000:=by
    have h2:=nsl_take (ks:=ks) (k+1)
    have e1:nsl (ks.take (k+1))=nsl (ks.take k)+(ks[k]'hlt).t.length:=by rw[← flat_len,flat_take hlt,List.length_append,flat_len]
    omega
   have HI:=hide hI
   have HMX:=hide hMx
   have HMO:=hide hMok
   have HTS:=hide hts
   have HPS:=hide hps
   have HSM:=hide hpv.same
   have HOO:=hide (ncs_one hMok)
   have g0:=hI.out.cell 0
   have g1:=hI.out.cell 1
   simp only[List.getElem?_toArray,List.getElem?_cons_succ,List.getElem?_cons_zero]at g0 g1
   have HB:=hide hI.bl
   have HOU:=hide hI.out
   clear hI hMx hMok hts hps hpv hms hkc hcs hmx htb htcs hpb hpcs et1 et2 et3 ep1 ep2 ep3 et ep
   have HML:=hide hMl
   have HK0:=hide k0
   clear hMl
   have HK1:=hide k1
   clear k0 k1
   go_wp2_with fail
   refine wp_region_held_drew (S:=fun W=>Hid (Below w.heap.size w W)) (by kernel_rfl) (HI.out.bl.trans ((Below.refl _ _).drew)) (fun hHeld=>?_)
   refine wpAnyH_take (i:=0) (v:=?_) rfl (by kernel_rfl) (by kernel_rfl) (by kernel_rfl) (fun _ _ _ h=>h) (Or.inl ⟨by rfl,?_⟩) hHeld ?_
   rotate_left 1
   ·intro Wx hSW;simp only[List.getElem_toArray,List.getElem_cons_zero];go_simp;try with_reducible rfl
   try simp only[Act.put,List.getElem_toArray,List.getElem_cons_zero,List.setIfInBounds_toArray,List.set_cons_zero,List.set_cons_succ]
   refine wpAnyH_take (i:=2) (v:=?_) rfl (by kernel_rfl) (by kernel_rfl) (by kernel_rfl) (fun _ _ _ h=>h) (Or.inl ⟨by rfl,?_⟩) hHeld ?_
   rotate_left 1
   ·intro Wx hSW;simp only[List.getElem_toArray,List.getElem_cons_zero,List.getElem_cons_succ];go_simp;try with_reducible rfl
   try simp only[Act.put,List.getElem_toArray,List.getElem_cons_zero,List.getElem_cons_succ,List.setIfInBounds_toArray,List.set_cons_zero,List.set_cons_succ]
   refine wpAnyH_take (i:=3) (v:=?_) rfl (by kernel_rfl) (by kernel_rfl) (by kernel_rfl) (fun _ _ _ h=>h) (Or.inl ⟨by rfl,?_⟩) hHeld ?_
   rotate_left 1
   ·intro Wx hSW;simp only[List.getElem_toArray,List.getElem_cons_zero,List.getElem_cons_succ];go_simp;try with_reducible rfl
   try simp only[Act.put,List.getElem_toArray,List.getElem_cons_zero,List.getElem_cons_succ,List.setIfInBounds_toArray,List.set_cons_zero,List.set_cons_succ]
   refine wpAnyH_take (i:=4) (v:=?_) rfl (by kernel_rfl) (by kernel_rfl) (by kernel_rfl) (fun _ _ _ h=>h) (Or.inl ⟨by rfl,?_⟩) hHeld ?_
   rotate_left 1
   ·intro Wx hSW;simp only[List.getElem_toArray,List.getElem_cons_zero,List.getElem_cons_succ];go_simp;try with_reducible rfl
   try simp only[Act.put,List.getElem_toArray,List.getElem_cons_zero,List.getElem_cons_succ,List.setIfInBounds_toArray,List.set_cons_zero,List.set_cons_succ]
   refine wpAnyH_take (i:=5) (v:=?_) rfl (by kernel_rfl) (by kernel_rfl) (by kernel_rfl) (fun _ _ _ h=>h) (Or.inl ⟨by rfl,?_⟩) hHeld ?_
   rotate_left 1
   ·intro Wx hSW;simp only[List.getElem_toArray,List.getElem_cons_zero,List.getElem_cons_succ];go_simp;try with_reducible rfl
   try simp only[Act.put,List.getElem_toArray,List.getElem_cons_zero,List.getElem_cons_succ,List.setIfInBounds_toArray,List.set_cons_zero,List.set_cons_succ]
   refine wpAnyH_take (i:=6) (v:=?_) rfl (by kernel_rfl) (by kernel_rfl) (by kernel_rfl) (fun _ _ _ h=>h) (Or.inl ⟨by rfl,?_⟩) hHeld ?_
   rotate_left 1
   ·intro Wx hSW;simp only[List.getElem_toArray,List.getElem_cons_zero,List.getElem_cons_succ];have q2:=cell_kept HK0.out hSW.out;go_simp;try with_reducible rfl
   try simp only[Act.put,List.getElem_toArray,List.getElem_cons_zero,List.getElem_cons_succ,List.setIfInBounds_toArray,List.set_cons_zero,List.set_cons_succ]
   refine wpAnyH_ready (rs:=[1]) (by kernel_rfl) (by simp) ?_
   refine AllReadyH.cons rfl (fun K hK=>?_) AllReadyH.nil
   go_simp
   refine hK.out _ _ (HI.out.bl.trans ((Below.refl _ _).drew)) (fun hHeld=>?_)
   clear hK K
   try simp only[Act.put,List.getElem_toArray,List.getElem_cons_zero,List.getElem_cons_succ,List.setIfInBounds_toArray,List.set_cons_zero,List.set_cons_succ]
   have hId:=hide HI.out.drew
   refine wpAnyH_ready (rs:=[7]) (by kernel_rfl) (by simp) ?_
   refine AllReadyH.cons rfl (fun K hK=>?_) AllReadyH.nil
   refine step_appGNd rfl (.tmp 24) (.tmp 29) rfl w.heap.size _ _ _ rfl hId.out.t tg 0 tc (ks[k]'hlt).t.length (ncs Mx) rfl (by rw[ncs_len,HML.out]) (fun j u hj=>?_) HOO.out (by omega) hId.out.bl.size (fun v1 V1 hown hg _=>?_)
   ·rw[Nat.zero_add];exact cell_kept (HTS.out j u hj) hId.out.bl
   obtain⟨va,vc,rfl⟩:=own_sl hown
   obtain⟨o1,b1,hI1⟩:=hId.out.t_app hlt HMX.out HMO.out hown hg
   refine hK.out _ _ (b1) (fun hHeld=>?_)
   clear hK K
   try simp only[Act.put,List.getElem_toArray,List.getElem_cons_zero,List.getElem_cons_succ,List.setIfInBounds_toArray,List.set_cons_zero,List.set_cons_succ]
   refine wpAnyH_take (i:=8) (v:=?_) rfl (by kernel_rfl) (by kernel_rfl) (by kernel_rfl) (fun _ _ _ h=>h) (Or.inl ⟨by rfl,?_⟩) hHeld ?_
   rotate_left 1
   ·intro Wx hSW;simp only[List.getElem_toArray,List.getElem_cons_zero,List.getElem_cons_succ];go_simp;try with_reducible rfl
   try simp only[Act.put,List.getElem_toArray,List.getElem_cons_zero,List.getElem_cons_succ,List.setIfInBounds_toArray,List.set_cons_zero,List.set_cons_succ]
   have u0:=o1.cell 0
   have u1:=o1.frozen 0
   simp only[List.getElem?_toArray,List.getElem?_cons_zero]at u0
   have HN1:=hide hI1
   clear hI1 b1 hown hg
   refine wpAnyH_ready (rs:=[9]) (by kernel_rfl) (by simp) ?_
   refine AllReadyH.cons rfl (fun K hK=>?_) AllReadyH.nil
   go_simp
   refine hK.out _ _ (HN1.out.bl) (fun hHeld=>?_)
   clear hK K
   try simp only[Act.put,List.getElem_toArray,List.getElem_cons_zero,List.getElem_cons_succ,List.setIfInBounds_toArray,List.set_cons_zero,List.set_cons_succ]
   refine wpAnyH_done (by kernel_rfl) ?_ _
   clear u0 u1 o1 hId
   obtain⟨X,hX⟩:∃X,V1.setCell ⟨O,0,none⟩ (.slice va (M.length+(ks[k]'hlt).t.length) vc)=X:=⟨_,rfl⟩
   rw[hX]at HN1 ⊢
   have g2:=HN1.out.out.cell 1
   have g3:=HN1.out.out.cell 0
   simp only[List.getElem?_toArray,List.getElem?_cons_succ,List.getElem?_cons_zero]at g2 g3
   clear hX g0 g1
   go_wp2_with fail
   refine wp_region_held_drew (S:=fun W=>Hid (Below w.heap.size w W)) (by kernel_rfl) (HN1.out.bl.trans ((Below.refl _ _).drew)) (fun hHeld=>?_)
   refine wpAnyH_take (i:=0) (v:=?_) rfl (by kernel_rfl) (by kernel_rfl) (by kernel_rfl) (fun _ _ _ h=>h) (Or.inl ⟨by rfl,?_⟩) hHeld ?_
   rotate_left 1
   ·intro Wx hSW;simp only[List.getElem_toArray,List.getElem_cons_zero];go_simp;try with_reducible rfl
   try simp only[Act.put,List.getElem_toArray,List.getElem_cons_zero,List.setIfInBounds_toArray,List.set_cons_zero,List.set_cons_succ]
   refine wpAnyH_take (i:=2) (v:=?_) rfl (by kernel_rfl) (by kernel_rfl) (by kernel_rfl) (fun _ _ _ h=>h) (Or.inl ⟨by rfl,?_⟩) hHeld ?_
   rotate_left 1
   ·intro Wx hSW;simp only[List.getElem_toArray,List.getElem_cons_zero,List.getElem_cons_succ];go_simp;try with_reducible rfl
   try simp only[Act.put,List.getElem_toArray,List.getElem_cons_zero,List.getElem_cons_succ,List.setIfInBounds_toArray,List.set_cons_zero,List.set_cons_succ]
   refine wpAnyH_take (i:=3) (v:=?_) rfl (by kernel_rfl) (by kernel_rfl) (by kernel_rfl) (fun _ _ _ h=>h) (Or.inl ⟨by rfl,?_⟩) hHeld ?_
   rotate_left 1
   ·intro Wx hSW;simp only[List.getElem_toArray,List.getElem_cons_zero,List.getElem_cons_succ];go_simp;try with_reducible rfl
   try simp only[Act.put,List.getElem_toArray,List.getElem_cons_zero,List.getElem_cons_succ,List.setIfInBounds_toArray,List.set_cons_zero,List.set_cons_succ]
   refine wpAnyH_take (i:=4) (v:=?_) rfl (by kernel_rfl) (by kernel_rfl) (by kernel_rfl) (fun _ _ _ h=>h) (Or.inl ⟨by rfl,?_⟩) hHeld ?_
   rotate_left 1
   ·intro Wx hSW;simp only[List.getElem_toArray,List.getElem_cons_zero,List.getElem_cons_succ];go_simp;try with_reducible rfl
   try simp only[Act.put,List.getElem_toArray,List.getElem_cons_zero,List.getElem_cons_succ,List.setIfInBounds_toArray,List.set_cons_zero,List.set_cons_succ]
   refine wpAnyH_take (i:=5) (v:=?_) rfl (by kernel_rfl) (by kernel_rfl) (by kernel_rfl) (fun _ _ _ h=>h) (Or.inl ⟨by rfl,?_⟩) hHeld ?_
   rotate_left 1
   ·intro Wx hSW;simp only[List.getElem_toArray,List.getElem_cons_zero,List.getElem_cons_succ];go_simp;try with_reducible rfl
   try simp only[Act.put,List.getElem_toArray,List.getElem_cons_zero,List.getElem_cons_succ,List.setIfInBounds_toArray,List.set_cons_zero,List.set_cons_succ]
   refine wpAnyH_take (i:=6) (v:=?_) rfl (by kernel_rfl) (by kernel_rfl) (by kernel_rfl) (fun _ _ _ h=>h) (Or.inl ⟨by rfl,?_⟩) hHeld ?_
   rotate_left 1
   ·intro Wx hSW;simp only[List.getElem_toArray,List.getElem_cons_zero,List.getElem_cons_succ];have q2:=cell_kept HK1.out hSW.out;go_simp;try with_reducible rfl
   try simp only[Act.put,List.getElem_toArray,List.getElem_cons_zero,List.getElem_cons_succ,List.setIfInBounds_toArray,List.set_cons_zero,List.set_cons_succ]
   refine wpAnyH_ready (rs:=[1]) (by kernel_rfl) (by simp) ?_
   refine AllReadyH.cons rfl (fun K hK=>?_) AllReadyH.nil
   go_simp
   refine hK.out _ _ (HN1.out.bl.trans ((Below.refl _ _).drew)) (fun hHeld=>?_)
   clear hK K
   try simp only[Act.put,List.getElem_toArray,List.getElem_cons_zero,List.getElem_cons_succ,List.setIfInBounds_toArray,List.set_cons_zero,List.set_cons_succ]
   have hId:=hide HN1.out.drew
   refine wpAnyH_ready (rs:=[7]) (by kernel_rfl) (by simp) ?_
   refine AllReadyH.cons rfl (fun K hK=>?_) AllReadyH.nil
   refine step_appGIn rfl (.tmp 33) (.tmp 38) rfl w.heap.size _ _ _ rfl hId.out.p pg 0 pc (ks[k]'hlt).t.length (plv (ks[k]'hlt).p) rfl (by rw[plv_len,HSM.out,Nat.mul_one]) (fun j u hj=>?_) (plv_one _) (by omega) hId.out.bl.size (fun v2 V2 hown hg _=>?_)
   ·rw[Nat.zero_add];exact cell_kept (HPS.out j u hj) hId.out.bl
   obtain⟨va2,vc2,rfl⟩:=own_sl hown
   obtain⟨o1,b1,hI1⟩:=hId.out.p_app hlt hown hg
   refine hK.out _ _ (b1) (fun hHeld=>?_)
   clear hK K
   try simp only[Act.put,List.getElem_toArray,List.getElem_cons_zero,List.getElem_cons_succ,List.setIfInBounds_toArray,List.set_cons_zero,List.set_cons_succ]
   refine wpAnyH_take (i:=8) (v:=?_) rfl (by kernel_rfl) (by kernel_rfl) (by kernel_rfl) (fun _ _ _ h=>h) (Or.inl ⟨by rfl,?_⟩) hHeld ?_
   rotate_left 1
   ·intro Wx hSW;simp only[List.getElem_toArray,List.getElem_cons_zero,List.getElem_cons_succ];go_simp;try with_reducible rfl
   try simp only[Act.put,List.getElem_toArray,List.getElem_cons_zero,List.getElem_cons_succ,List.setIfInBounds_toArray,List.set_cons_zero,List.set_cons_succ]
   have u0:=o1.cell 1
   have u1:=o1.frozen 1
   simp only[List.getElem?_toArray,List.getElem?_cons_succ,List.getElem?_cons_zero]at u0
   have HN2:=hide hI1
   clear hI1 b1 hown hg
   refine wpAnyH_ready (rs:=[9]) (by kernel_rfl) (by simp) ?_
   refine AllReadyH.cons rfl (fun K hK=>?_) AllReadyH.nil
   go_simp
   refine hK.out _ _ (HN2.out.bl) (fun hHeld=>?_)
   clear hK K
   try simp only[Act.put,List.getElem_toArray,List.getElem_cons_zero,List.getElem_cons_succ,List.setIfInBounds_toArray,List.set_cons_zero,List.set_cons_succ]
   refine wpAnyH_done (by kernel_rfl) ?_ _
   clear u0 u1 o1 hId
   clear g2 g3
   go_wp2
   go_roundw
   case rel=>exact⟨k+1,_,_,_,by omega,by go_num,HN2.out⟩
   case measure=>simp[intOf];omega
  ·obtain rfl:k=ks.length:=by omega
   have hge:¬(ks.length:Int)<(ks.length:Int):=by omega
   have g0:=hI.out.cell 0
   have g1:=hI.out.cell 1
   have r0:=hI.res.cell 0
   have r1:=hI.res.cell 1
   have f0:=hI.res.frozen 0
   have f1:=hI.res.frozen 1
   simp only[List.getElem?_toArray,List.getElem?_cons_succ,List.getElem?_cons_zero]at g0 g1 r0 r1
   obtain⟨va,vc,rfl⟩:=own_sl hI.t
   obtain⟨vb,vd,rfl⟩:=own_sl hI.p
   have HI:=hide hI
   clear hI
   go_wp2_with fail
   refine bodyPost_ret (results_one rfl _ _ _ R 45 _ (0,0) rfl ((HI.out.res.set 0 _).set 1 _) Tryz.underlying45 (by kernel_rfl)) rfl ?_
   have hbw:Below w.heap.size w ((V.setCell ⟨R,0,none⟩ (.slice va M.length vc)).setCell ⟨R,1,none⟩ (.slice vb (1+nsl (ks.take ks.length)) vd)):=(HI.out.bl.setCell HI.out.lo.2 _).setCell HI.out.lo.2 _
   have ot:=own_typed (own_typed HI.out.t (fun g cur hb=>set_typed (k:=0) (v:=.slice va M.length vc) HI.out.res hb (by decide))) (fun g cur hb=>set_typed (k:=1) (v:=.slice vb (1+nsl (ks.take ks.length)) vd) (HI.out.res.set 0 _) hb (by decide))
   have op:=own_typed (own_typed HI.out.p (fun g cur hb=>set_typed (k:=0) (v:=.slice va M.length vc) HI.out.res hb (by decide))) (fun g cur hb=>set_typed (k:=1) (v:=.slice vb (1+nsl (ks.take ks.length)) vd) (HI.out.res.set 0 _) hb (by decide))
   have hmd:=HI.out.md
   have hsame:(ptN d pl ks).p.length=(ptN d pl ks).t.length:=ptN_same _ _ (fun x hx=>by
    obtain⟨j,hj,hjx⟩:=List.getElem_of_mem hx
    obtain⟨KM,_,hms⟩:=HK.out
    obtain⟨mx,_,hpv⟩:=hms.2 j _ (List.getElem?_eq_getElem hj)
    rw[← hjx];exact hpv.same)
   rw[List.take_length]at hmd ot op hbw
   refine⟨_,_,rfl,⟨⟨M,hmd,RwG.of_own ot hG,fun m hm=>(HI.out.ok m hm).gw (P:=fun _=>False) (Gw.of_below hbw) (fun _ h=>h.elim)⟩,?_,by rw[ptN_len];omega,hsame⟩,hbw⟩
   rw[hsame,ptN_len]
   exact RwG.of_own op hG
end Go.Proofs.YtbiakdjpeblclaaGreatDoor
