/-
  The walk of spec.l2readMacro.
-/
import Derived.Test.YtbiakdjpeblclaaGreatDoorJPaPSC
namespace Go.Proofs.YtbiakdjpeblclaaGreatDoor
open Go.RowKit
theorem pars_len (e:PsE):∀c ty ns p,(rPars e c ty ns p).1.length≤ty.length+c∧(rPars e c ty ns p).2.1.length≤ns.length+c
 |0,ty,ns,p=>⟨Nat.le_refl _,Nat.le_refl _⟩
 |c+1,ty,ns,p=>by
  rw[rPars]
  split
  ·simp only
   generalize (if e.is p (⟨#[105,110,116]⟩:ByteArray) then ((0:Int),p.on) else (1,e.want p (⟨#[116,101,120,116]⟩:ByteArray)))=q
   split
   ·have h:=pars_len e c (ty++[q.1]) (ns++[(e.ident q.2).1]) (e.ident q.2).2.on
    rw[List.length_append,List.length_append,List.length_singleton,List.length_singleton]at h
    exact⟨by omega,by omega⟩
   ·exact⟨by rw[List.length_append,List.length_singleton];omega,by rw[List.length_append,List.length_singleton];omega⟩
  ·exact⟨by simp only;omega,by simp only;omega⟩
theorem app_inv {w V:World}{c:PsC}{e:PsE}{p:Ps}{O:Nat}{nv yv:Value}{ns:List ByteArray}{ty:List Int}{M:List Value}(h:MSt w V c e p O nv yv ns ty M):(∃a k,nv = .slice a ns.length k)∧(∃a k,yv = .slice a ty.length k):=⟨own_sl h.no,own_sl h.yo⟩
set_option maxHeartbeats 16000000 in
set_option maxRecDepth 1000000 in
theorem macro_any {w:World}{c:PsC}{e:PsE}{p:Ps}{f m pl:Nat}(h:PsW w c e p)(hf:2*e.T.length+3≤f)(hm:lft e p≤m)(hp1:1≤p.at_):
 Calls Tryz.prog 18 #[.pointer (some ⟨c.P,0,none⟩),.int .i64 (pl:Nat)] w (ExQ c e w (rMac e f m pl p)):=by
 have HS0:=hide (RSt.start h)
 have htl:=h.tl
 have hat:=h.at_
 have hfi:=fi_le (e:=e) p
 have hBF:=(bd_mac e f m pl p).len
 have hMI:=(mv_ident e p).1
 have HE:Hid (rMac e f m pl p=(ptN { ndK 1 with names:=(rPars e e.T.length [] [(e.ident p).1] (e.want (e.ident p).2 (⟨#[40]⟩:ByteArray))).2.1,types:=(rPars e e.T.length [] [(e.ident p).1] (e.want (e.ident p).2 (⟨#[40]⟩:ByteArray))).1 } pl [(rBlock e e.T.length (rS e f m) { (e.want (rPars e e.T.length [] [(e.ident p).1] (e.want (e.ident p).2 (⟨#[40]⟩:ByteArray))).2.2 (⟨#[41]⟩:ByteArray)) with long:=(e.want (rPars e e.T.length [] [(e.ident p).1] (e.want (e.ident p).2 (⟨#[40]⟩:ByteArray))).2.2 (⟨#[41]⟩:ByteArray)).long||decide (10<(rPars e e.T.length [] [(e.ident p).1] (e.want (e.ident p).2 (⟨#[40]⟩:ByteArray))).1.length) }).1],(rBlock e e.T.length (rS e f m) { (e.want (rPars e e.T.length [] [(e.ident p).1] (e.want (e.ident p).2 (⟨#[40]⟩:ByteArray))).2.2 (⟨#[41]⟩:ByteArray)) with long:=(e.want (rPars e e.T.length [] [(e.ident p).1] (e.want (e.ident p).2 (⟨#[40]⟩:ByteArray))).2.2 (⟨#[41]⟩:ByteArray)).long||decide (10<(rPars e e.T.length [] [(e.ident p).1] (e.want (e.ident p).2 (⟨#[40]⟩:ByteArray))).1.length) }).2)):=rfl
 obtain⟨W0,hW0⟩:∃W,w.alloc (.cells #[.slice none 0 0,.slice none 0 0] 45)=W:=⟨_,rfl⟩
 rw[hW0]at HS0
 rw[HE.out]at hBF ⊢
 simp only[ptN_len,nsl_one]at hBF
 obtain⟨I,hI⟩:∃I,e.ident p=I:=⟨_,rfl⟩
 rw[hI]at hBF hMI ⊢
 have HIE:=hide hI
 have hML:=hMI.trans (mv_want e I.2 (⟨#[40]⟩:ByteArray)).1
 obtain⟨P1,hP1⟩:∃q,e.want I.2 (⟨#[40]⟩:ByteArray)=q:=⟨_,rfl⟩
 rw[hP1]at hBF hML ⊢
 have HPE:=hide hP1
 have hMF:=hML.trans (mv_pars e e.T.length [] [I.1] P1)
 have hPL:=pars_len e e.T.length [] [I.1] P1
 obtain⟨F,hF⟩:∃F,rPars e e.T.length [] [I.1] P1=F:=⟨_,rfl⟩
 rw[hF]at hBF hMF hPL ⊢
 have HFE:=hide hF
 have HN:Hid (lft e P1+1≤e.T.length):=by
  have:=hML.le
  show _≤_
  unfold lft;omega
 have HBL:Hid (∀V (q:Ps),F.2.2.at_≤q.at_→PsW V c e q→Calls Tryz.prog 38 #[.pointer (some ⟨c.P,0,none⟩)] V (ExQ c e V (rBlock e e.T.length (rS e f m) q))):=fun V q hq hV=>blk_all (st_all hf m) V q hV (by have:=hMF.le;unfold lft at hm ⊢;omega)
 have HBF:=hide hBF
 have HPL2:=hide hPL
 clear h hBF hI hP1 hF hMI hML hMF hm hPL
 go_enter Tryz.func18,Tryz.ntmps18
 go_wp2_with fail
 refine (l2ident_any HS0.out.ps).mono ?_
 rintro r V2 ⟨⟨u,rfl,hu,hus⟩,hq⟩
 rw[HIE.out]at hu hus hq
 have hS2:=HS0.out.rd hq
 obtain⟨ua,uc,rfl⟩:=hu.slc
 have hNm:=MSt.start hS2 hu HS0.out.size hus
 obtain⟨Vc,hVc⟩:∃W,(V2.alloc (.cells #[.slice ua I.1.size uc] 22)).alloc (.cells #[.int .i64 0,.int .i64 0,.slice none 0 0,.slice none 0 0,.slice none 0 0,.int .i64 0] 51)=W:=⟨_,rfl⟩
 have hOb:Blk Vc (V2.heap.size+1) 51 #[.int .i64 0,.int .i64 0,.slice none 0 0,.slice none 0 0,.slice none 0 0,.int .i64 0]:=by
  have h:=Blk.new (V2.alloc (.cells #[.slice ua I.1.size uc] 22)) 51 #[.int .i64 0,.int .i64 0,.slice none 0 0,.slice none 0 0,.slice none 0 0,.int .i64 0]
  rw[World.size_alloc]at h
  rw[← hVc];exact h
 have o0:=hOb.cell 0
 have of0:=hOb.frozen 0
 have o1:=hOb.cell 1
 have of1:=hOb.frozen 1
 have o2:=hOb.cell 2
 have of2:=hOb.frozen 2
 have o3:=hOb.cell 3
 have of3:=hOb.frozen 3
 have o4:=hOb.cell 4
 have of4:=hOb.frozen 4
 have o5:=hOb.cell 5
 have of5:=hOb.frozen 5
 simp only[List.getElem?_toArray,List.getElem?_cons_succ,List.getElem?_cons_zero]at o0 o1 o2 o3 o4 o5
 obtain⟨Vd,hVd⟩:∃W,set6w Vc (V2.heap.size+1) (.int .i64 1) (.int .i64 0) (.slice none 0 0) (.slice (some ⟨V2.heap.size,0,none⟩) 1 1) (.slice none 0 0) (.int .i64 0)=W:=⟨_,rfl⟩
 rw[hVc,hVd]at hNm
 unfold set6w at hVd
 have HG:=hide hNm
 clear hu hq hS2 hNm hOb HS0 hW0
 go_wp2_with fail
 obtain⟨O,hO⟩:∃O,V2.heap.size+1=O:=⟨_,rfl⟩
 rw[hO]at HG ⊢
 clear hO hVc hVd o0 of0 o1 of1 o2 of2 o3 of3 o4 of4 o5 of5
 refine (l2want_any (⟨#[40]⟩:ByteArray) HG.out.st.ps).mono ?_
 rintro r V3 ⟨rfl,hq⟩
 have HG2:=hide (HG.out.rd hq)
 rw[HPE.out]at HG2
 clear hq HG
 go_wp2_with fail
 go_loopw [12] (fun _ wr=>∃(cc:Nat) (ty:List Int) (ns:List ByteArray) (p:Ps) (nv yv:Value) (M:List Value),rPars e cc ty ns p=F∧(p.bad<0→lft e p+1≤cc)∧ty.length+cc≤e.T.length∧ns.length+cc≤e.T.length+1∧MSt w wr c e p O nv yv ns ty M) (fun _ wr=>muW e c wr)
 case atStart=>exact⟨e.T.length,[],[I.1],P1,_,_,_,HFE.out,fun _=>HN.out,by simp,by simp;omega,HG2.out⟩
 case round=>
  obtain⟨cc,ty,ns,p,nv,yv,M,hR,hN,hc1,hc2,hG⟩:=hrel
  rename World=>V
  obtain⟨⟨na,nc,rfl⟩,⟨ya,yc,rfl⟩⟩:=app_inv hG
  have HG:=hide hG
  have hmu:=muW_of hG.st.ps
  have g3:=hG.st.ps.cells.2.2.2.1
  have y4:=hG.nb.cell 4
  simp only[List.getElem?_toArray,List.getElem?_cons_succ,List.getElem?_cons_zero]at y4
  have hatp:=hG.st.ps.at_
  clear hG HN HFE HG2 HIE HPE
  by_cases hb:p.bad<0
  case' pos=>
   have d0:decide (p.bad<0)=true:=decide_eq_true hb
   have n1:=hN hb
   obtain⟨cc,rfl⟩:∃k,cc=k+1:=⟨cc - 1,by omega⟩
   rw[rPars]at hR
   by_cases hz:ty.length=0
   case' pos=>
    have t0:(((ty.length:Nat):Int)==0)=true:=by rw[hz];rfl
    go_wp2_with fail
    refine (l2is_any (⟨#[41]⟩:ByteArray) HG.out.st.ps).mono ?_
    rintro r V1 ⟨rfl,hb1⟩
    have HGc:=hide (HG.out.below hb1)
    clear hb1 HG
    cases hi:e.is p (⟨#[41]⟩:ByteArray)
    case' true=>
     rw[if_neg (fun q=>q.2 ⟨hz,hi⟩)]at hR
     have HEX:Hid True:=trivial
     clear y4 g3 t0 hz hi
    case' false=>
     rw[if_pos ⟨hb,fun q=>by rw[hi]at q;exact Bool.false_ne_true q.2⟩]at hR
     clear y4 g3 t0 hz hi
   case' neg=>
    have t0:(((ty.length:Nat):Int)==0)=false:=by rw[beq_eq_false_iff_ne];omega
    rw[if_pos ⟨hb,fun q=>hz q.1⟩]at hR
    have HGc:=HG
    clear HG hz
   all_goals first
   |have:=HEX.out
   |skip
    go_wp2_with fail
    refine (l2got_any (⟨#[105,110,116]⟩:ByteArray) HGc.out.st.ps).mono ?_
    rintro r Va ⟨rfl,hq⟩
    have HGa:=hide (HGc.out.rd hq)
    clear hq HGc
    cases hi2:e.is p (⟨#[105,110,116]⟩:ByteArray)
    case' true=>
     rw[hi2,if_pos rfl]at HGa
     simp only[hi2,if_true]at hR
     have hm0:=mv_on (is_kind hi2)
     have ty4:=HGa.out.nb.cell 4
     simp only[List.getElem?_toArray,List.getElem?_cons_succ,List.getElem?_cons_zero]at ty4
     have hbA:Below Va.heap.size Va (Va.alloc (.cells #[.int .i64 0] 3)):=(Below.refl _ _).alloc (Nat.le_refl _) _
     have HGu:=hide (HGa.out.below hbA)
     have HBk:=hide (Cs.of_blk (Blk.new Va 3 #[.int .i64 0]))
     clear hbA HGa
     go_wp2_with (at_builtin;refine wp_appGIn rfl (.tmp 31) (.tmp 32) rfl (w.heap.size+1) _ _ _ rfl HGu.out.yo Va.heap.size 0 1 1 [.int .i64 0] rfl rfl (fun j u hj=>by rw[Nat.zero_add];exact HBk.out j u hj) (fun u hu=>by rw[List.mem_singleton.1 hu];rfl) (by omega) HGu.out.st.size ?_)
     intro v' Vt hown hg hat
     obtain⟨o1,hM1⟩:=HGu.out.pushT hown hg (by rw[World.size_alloc];exact hat)
     obtain⟨ya2,yc2,rfl⟩:=own_sl hown
     have u4:=o1.cell 4
     have uf4:=o1.frozen 4
     simp only[List.getElem?_toArray,List.getElem?_cons_succ,List.getElem?_cons_zero]at u4
     obtain⟨Vu,hVu⟩:∃W,Vt.setCell ⟨O,4,none⟩ (.slice ya2 (List.length ty+1) yc2)=W:=⟨_,rfl⟩
     rw[hVu]at hM1
     obtain⟨TY,hTY⟩:∃t,ty++[0]=t:=⟨_,rfl⟩
     have hTL:TY.length=List.length ty+1:=by rw[← hTY,List.length_append,List.length_singleton]
     rw[hTY]at hM1 hR
     have HTL:=hide hTL
     have HGt:=hide hM1
     clear hM1 hown hg hat HGu HBk o1 hTY hTL
     go_wp2_with fail
     clear u4 uf4 hVu ty4
     obtain⟨X0,hX0⟩:∃q,p.on=q:=⟨_,rfl⟩
    case' false=>
     rw[hi2,if_neg Bool.false_ne_true]at HGa
     simp only[hi2,Bool.false_eq_true,if_false]at hR
     have hm0:=mv_want e p (⟨#[116,101,120,116]⟩:ByteArray)
     go_wp2_with fail
     refine (l2want_any (⟨#[116,101,120,116]⟩:ByteArray) HGa.out.st.ps).mono ?_
     rintro r Vb ⟨rfl,hq⟩
     have HGb0:=hide (HGa.out.rd hq)
     clear hq HGa
     have ty4:=HGb0.out.nb.cell 4
     simp only[List.getElem?_toArray,List.getElem?_cons_succ,List.getElem?_cons_zero]at ty4
     have hbA:Below Vb.heap.size Vb (Vb.alloc (.cells #[.int .i64 1] 3)):=(Below.refl _ _).alloc (Nat.le_refl _) _
     have HGu:=hide (HGb0.out.below hbA)
     have HBk:=hide (Cs.of_blk (Blk.new Vb 3 #[.int .i64 1]))
     clear hbA HGb0
     go_wp2_with (at_builtin;refine wp_appGIn rfl (.tmp 38) (.tmp 39) rfl (w.heap.size+1) _ _ _ rfl HGu.out.yo Vb.heap.size 0 1 1 [.int .i64 1] rfl rfl (fun j u hj=>by rw[Nat.zero_add];exact HBk.out j u hj) (fun u hu=>by rw[List.mem_singleton.1 hu];rfl) (by omega) HGu.out.st.size ?_)
     intro v' Vt hown hg hat
     obtain⟨o1,hM1⟩:=HGu.out.pushT hown hg (by rw[World.size_alloc];exact hat)
     obtain⟨ya2,yc2,rfl⟩:=own_sl hown
     have u4:=o1.cell 4
     have uf4:=o1.frozen 4
     simp only[List.getElem?_toArray,List.getElem?_cons_succ,List.getElem?_cons_zero]at u4
     obtain⟨Vu,hVu⟩:∃W,Vt.setCell ⟨O,4,none⟩ (.slice ya2 (List.length ty+1) yc2)=W:=⟨_,rfl⟩
     rw[hVu]at hM1
     obtain⟨TY,hTY⟩:∃t,ty++[1]=t:=⟨_,rfl⟩
     have hTL:TY.length=List.length ty+1:=by rw[← hTY,List.length_append,List.length_singleton]
     rw[hTY]at hM1 hR
     have HTL:=hide hTL
     have HGt:=hide hM1
     clear hM1 hown hg hat HGu HBk o1 hTY hTL
     go_wp2_with fail
     clear u4 uf4 hVu ty4
     obtain⟨X0,hX0⟩:∃q,e.want p (⟨#[116,101,120,116]⟩:ByteArray)=q:=⟨_,rfl⟩
    all_goals
     rw[hX0]at hm0 hR HGt
     clear hX0
     obtain⟨J,hJ⟩:∃J,e.ident X0=J:=⟨_,rfl⟩
     have hMJ:=(mv_ident e X0).1
     rw[hJ]at hR hMJ
     have HJE:=hide hJ
     clear hJ
     have z3:=HGt.out.nb.cell 3
     simp only[List.getElem?_toArray,List.getElem?_cons_succ,List.getElem?_cons_zero]at z3
     have HID:=hide (fun V (hV:PsW V c e (X0))=>l2ident_any hV)
     simp only[HJE.out]at HID
     refine wp_region_held_drew (S:=fun _=>Hid True) (by kernel_rfl) (trivial) (fun hHeld=>?_)
     refine wpAnyH_take (i:=0) (v:=?_) rfl (by kernel_rfl) (by kernel_rfl) (by kernel_rfl) (fun _ _ _ h=>h) (Or.inl ⟨by rfl,?_⟩) hHeld ?_
     rotate_left 1
     ·intro Wx hSW;simp only[List.getElem_toArray,List.getElem_cons_zero];go_simp;try with_reducible rfl
     try simp only[Act.put,List.getElem_toArray,List.getElem_cons_zero,List.setIfInBounds_toArray,List.set_cons_zero,List.set_cons_succ]
     refine wpAnyH_take (i:=2) (v:=?_) rfl (by kernel_rfl) (by kernel_rfl) (by kernel_rfl) (fun _ _ _ h=>h) (Or.inl ⟨by rfl,?_⟩) hHeld ?_
     rotate_left 1
     ·intro Wx hSW;simp only[List.getElem_toArray,List.getElem_cons_zero,List.getElem_cons_succ];go_simp;try with_reducible rfl
     try simp only[Act.put,List.getElem_toArray,List.getElem_cons_zero,List.getElem_cons_succ,List.setIfInBounds_toArray,List.set_cons_zero,List.set_cons_succ]
     apply key_rest
     ·intro HKEY
      refine wpAnyH_ready (rs:=[1,3]) (by kernel_rfl) (by simp) ?_
      refine AllReadyH.cons rfl (fun K hK=>?_) (AllReadyH.cons rfl (fun K hK=>?_) AllReadyH.nil)
      ·go_simp
       refine hK.out _ _ trivial (fun hHeld=>?_)
       clear hK K
       try simp only[Act.put,List.getElem_toArray,List.getElem_cons_zero,List.getElem_cons_succ,List.setIfInBounds_toArray,List.set_cons_zero,List.set_cons_succ]
       refine wpAnyH_ready (rs:=[3]) (by kernel_rfl) (by simp) ?_
       refine AllReadyH.cons rfl (fun K hK=>?_) AllReadyH.nil
       go_simp
       go_at_call 36
       refine (HID.out _ (HGt.out.below (Below.refl _ _).drew).st.ps).mono ?_
       rintro r V7 ⟨⟨u,rfl,hu,hus⟩,hq⟩
       have HG7:=hide ((HGt.out.below (Below.refl _ _).drew).rd hq)
       have hz0:=HGt.out.st.size
       have hn0:∀k,(Value.slice na ns.length nc).ownBlock=some k→k<Vu.heap.size:=fun k hk=>(HGt.out.no.lt k hk).2
       have hy0:∀k,(Value.slice ya2 (List.length ty+1) yc2).ownBlock=some k→k<Vu.heap.size:=fun k hk=>(HGt.out.yo.lt k hk).2
       have hO0:=HGt.out.nb.lt
       have HU7:=hide (hu.mono (G':=fun g=>w.heap.size<g∧g≠O∧(Value.slice na ns.length nc).ownBlock≠some g∧(Value.slice ya2 (List.length ty+1) yc2).ownBlock≠some g) (fun g hg _=>by
        have hg':Vu.heap.size≤g:=hg
        exact⟨by omega,by omega,fun q=>by have:=hn0 g q;omega,fun q=>by have:=hy0 g q;omega⟩))
       obtain⟨ua,uc,rfl⟩:=hu.slc
       have zz3:=HG7.out.nb.cell 3
       simp only[List.getElem?_toArray,List.getElem?_cons_succ,List.getElem?_cons_zero]at zz3
       clear hu hq hz0 hn0 hy0 hO0
       go_wp2_with fail
       refine hK.out _ _ trivial (fun hHeld=>?_)
       clear hK K
       try simp only[Act.put,List.getElem_toArray,List.getElem_cons_zero,List.getElem_cons_succ,List.setIfInBounds_toArray,List.set_cons_zero,List.set_cons_succ]
       refine wpAnyH_ready (rs:=[4]) (by kernel_rfl) (by simp) ?_
       refine AllReadyH.cons rfl (fun K hK=>?_) AllReadyH.nil
       have hbB:Below V7.heap.size V7 (V7.alloc (.cells #[.slice ua J.1.size uc] 22)):=(Below.refl _ _).alloc (Nat.le_refl _) _
       have HG8:=hide (HG7.out.below hbB)
       have HU8:=hide (HU7.out.gw (P:=fun _=>False) (Gw.of_below hbB) (fun _ q=>q.elim))
       have HB8:=hide (Cs.of_blk (Blk.new V7 22 #[.slice ua J.1.size uc]))
       have zb3:=HG8.out.nb.cell 3
       simp only[List.getElem?_toArray,List.getElem?_cons_succ,List.getElem?_cons_zero]at zb3
       clear hbB
       go_simp
       refine hK.out _ _ trivial (fun hHeld=>?_)
       clear hK K
       try simp only[Act.put,List.getElem_toArray,List.getElem_cons_zero,List.getElem_cons_succ,List.setIfInBounds_toArray,List.set_cons_zero,List.set_cons_succ]
       refine wpAnyH_ready (rs:=[5]) (by kernel_rfl) (by simp) ?_
       refine AllReadyH.cons rfl (fun K hK=>?_) AllReadyH.nil
       refine step_appGSn rfl (.tmp 43) (.tmp 46) rfl (w.heap.size+1) _ _ _ rfl HG8.out.no V7.heap.size 0 1 1 [.slice ua J.1.size uc] rfl rfl (fun j u hj=>by rw[Nat.zero_add];exact HB8.out j u hj) (fun u hu=>by rw[List.mem_singleton.1 hu];rfl) (by omega) HG8.out.st.size (fun v' V9 hown hg hat=>?_)
       obtain⟨o1,hM1⟩:=HG8.out.pushN HU8.out hus hown hg hat
       obtain⟨na2,nc2,rfl⟩:=own_sl hown
       have u3:=o1.cell 3
       have uf3:=o1.frozen 3
       simp only[List.getElem?_toArray,List.getElem?_cons_succ,List.getElem?_cons_zero]at u3
       refine hK.out _ _ trivial (fun hHeld=>?_)
       clear hK K
       try simp only[Act.put,List.getElem_toArray,List.getElem_cons_zero,List.getElem_cons_succ,List.setIfInBounds_toArray,List.set_cons_zero,List.set_cons_succ]
       refine wpAnyH_take (i:=6) (v:=?_) rfl (by kernel_rfl) (by kernel_rfl) (by kernel_rfl) (fun _ _ _ h=>h) (Or.inl ⟨by rfl,?_⟩) hHeld ?_
       rotate_left 1
       ·intro Wx hSW;simp only[List.getElem_toArray,List.getElem_cons_zero,List.getElem_cons_succ];go_simp;try with_reducible rfl
       try simp only[Act.put,List.getElem_toArray,List.getElem_cons_zero,List.getElem_cons_succ,List.setIfInBounds_toArray,List.set_cons_zero,List.set_cons_succ]
       refine wpAnyH_ready (rs:=[7]) (by kernel_rfl) (by simp) ?_
       refine AllReadyH.cons rfl (fun K hK=>?_) AllReadyH.nil
       go_simp
       refine hK.out _ _ trivial (fun hHeld=>?_)
       clear hK K
       try simp only[Act.put,List.getElem_toArray,List.getElem_cons_zero,List.getElem_cons_succ,List.setIfInBounds_toArray,List.set_cons_zero,List.set_cons_succ]
       refine wpAnyH_done (by kernel_rfl) ?_ _
       obtain⟨X9,hX9⟩:∃W,V9.setCell ⟨O,3,none⟩ (.slice na2 (ns.length+1) nc2)=W:=⟨_,rfl⟩
       rw[hX9]at hM1 ⊢
       obtain⟨M2,hM2⟩:∃t,M++[.slice ua J.1.size uc]=t:=⟨_,rfl⟩
       rw[hM2]at hM1
       have HGn:=hide hM1
       clear hM1 hX9 hM2 u3 uf3 o1 hown hg hat HB8 HU8 HG8 HU7 HG7 zb3 zz3 hus
       obtain⟨b7,hb7⟩:∃b,V7.heap.size=b:=⟨_,rfl⟩
       rw[hb7]
       clear hb7
       revert HGn
       revert M2 X9
       revert na2 nc2
       revert b7
       revert ua uc
       exact HKEY.out
      ·go_simp
       go_at_call 36
       refine (HID.out _ (HGt.out.below (Below.refl _ _).drew).st.ps).mono ?_
       rintro r V7 ⟨⟨u,rfl,hu,hus⟩,hq⟩
       have HG7:=hide ((HGt.out.below (Below.refl _ _).drew).rd hq)
       have hz0:=HGt.out.st.size
       have hn0:∀k,(Value.slice na ns.length nc).ownBlock=some k→k<Vu.heap.size:=fun k hk=>(HGt.out.no.lt k hk).2
       have hy0:∀k,(Value.slice ya2 (List.length ty+1) yc2).ownBlock=some k→k<Vu.heap.size:=fun k hk=>(HGt.out.yo.lt k hk).2
       have hO0:=HGt.out.nb.lt
       have HU7:=hide (hu.mono (G':=fun g=>w.heap.size<g∧g≠O∧(Value.slice na ns.length nc).ownBlock≠some g∧(Value.slice ya2 (List.length ty+1) yc2).ownBlock≠some g) (fun g hg _=>by
        have hg':Vu.heap.size≤g:=hg
        exact⟨by omega,by omega,fun q=>by have:=hn0 g q;omega,fun q=>by have:=hy0 g q;omega⟩))
       obtain⟨ua,uc,rfl⟩:=hu.slc
       have zz3:=HG7.out.nb.cell 3
       simp only[List.getElem?_toArray,List.getElem?_cons_succ,List.getElem?_cons_zero]at zz3
       clear hu hq hz0 hn0 hy0 hO0
       go_wp2_with fail
       refine hK.out _ _ trivial (fun hHeld=>?_)
       clear hK K
       try simp only[Act.put,List.getElem_toArray,List.getElem_cons_zero,List.getElem_cons_succ,List.setIfInBounds_toArray,List.set_cons_zero,List.set_cons_succ]
       refine wpAnyH_ready (rs:=[1,4]) (by kernel_rfl) (by simp) ?_
       refine AllReadyH.cons rfl (fun K hK=>?_) (AllReadyH.cons rfl (fun K hK=>?_) AllReadyH.nil)
       ·go_simp
        refine hK.out _ _ trivial (fun hHeld=>?_)
        clear hK K
        try simp only[Act.put,List.getElem_toArray,List.getElem_cons_zero,List.getElem_cons_succ,List.setIfInBounds_toArray,List.set_cons_zero,List.set_cons_succ]
        refine wpAnyH_ready (rs:=[4]) (by kernel_rfl) (by simp) ?_
        refine AllReadyH.cons rfl (fun K hK=>?_) AllReadyH.nil
        have hbB:Below V7.heap.size V7 (V7.alloc (.cells #[.slice ua J.1.size uc] 22)):=(Below.refl _ _).alloc (Nat.le_refl _) _
        have HG8:=hide (HG7.out.below hbB)
        have HU8:=hide (HU7.out.gw (P:=fun _=>False) (Gw.of_below hbB) (fun _ q=>q.elim))
        have HB8:=hide (Cs.of_blk (Blk.new V7 22 #[.slice ua J.1.size uc]))
        have zb3:=HG8.out.nb.cell 3
        simp only[List.getElem?_toArray,List.getElem?_cons_succ,List.getElem?_cons_zero]at zb3
        clear hbB
        go_simp
        refine hK.out _ _ trivial (fun hHeld=>?_)
        clear hK K
        try simp only[Act.put,List.getElem_toArray,List.getElem_cons_zero,List.getElem_cons_succ,List.setIfInBounds_toArray,List.set_cons_zero,List.set_cons_succ]
        refine wpAnyH_ready (rs:=[5]) (by kernel_rfl) (by simp) ?_
        refine AllReadyH.cons rfl (fun K hK=>?_) AllReadyH.nil
        refine step_appGSn rfl (.tmp 43) (.tmp 46) rfl (w.heap.size+1) _ _ _ rfl HG8.out.no V7.heap.size 0 1 1 [.slice ua J.1.size uc] rfl rfl (fun j u hj=>by rw[Nat.zero_add];exact HB8.out j u hj) (fun u hu=>by rw[List.mem_singleton.1 hu];rfl) (by omega) HG8.out.st.size (fun v' V9 hown hg hat=>?_)
        obtain⟨o1,hM1⟩:=HG8.out.pushN HU8.out hus hown hg hat
        obtain⟨na2,nc2,rfl⟩:=own_sl hown
        have u3:=o1.cell 3
        have uf3:=o1.frozen 3
        simp only[List.getElem?_toArray,List.getElem?_cons_succ,List.getElem?_cons_zero]at u3
        refine hK.out _ _ trivial (fun hHeld=>?_)
        clear hK K
        try simp only[Act.put,List.getElem_toArray,List.getElem_cons_zero,List.getElem_cons_succ,List.setIfInBounds_toArray,List.set_cons_zero,List.set_cons_succ]
        refine wpAnyH_take (i:=6) (v:=?_) rfl (by kernel_rfl) (by kernel_rfl) (by kernel_rfl) (fun _ _ _ h=>h) (Or.inl ⟨by rfl,?_⟩) hHeld ?_
        rotate_left 1
        ·intro Wx hSW;simp only[List.getElem_toArray,List.getElem_cons_zero,List.getElem_cons_succ];go_simp;try with_reducible rfl
        try simp only[Act.put,List.getElem_toArray,List.getElem_cons_zero,List.getElem_cons_succ,List.setIfInBounds_toArray,List.set_cons_zero,List.set_cons_succ]
        refine wpAnyH_ready (rs:=[7]) (by kernel_rfl) (by simp) ?_
        refine AllReadyH.cons rfl (fun K hK=>?_) AllReadyH.nil
        go_simp
        refine hK.out _ _ trivial (fun hHeld=>?_)
        clear hK K
        try simp only[Act.put,List.getElem_toArray,List.getElem_cons_zero,List.getElem_cons_succ,List.setIfInBounds_toArray,List.set_cons_zero,List.set_cons_succ]
        refine wpAnyH_done (by kernel_rfl) ?_ _
        obtain⟨X9,hX9⟩:∃W,V9.setCell ⟨O,3,none⟩ (.slice na2 (ns.length+1) nc2)=W:=⟨_,rfl⟩
        rw[hX9]at hM1 ⊢
        obtain⟨M2,hM2⟩:∃t,M++[.slice ua J.1.size uc]=t:=⟨_,rfl⟩
        rw[hM2]at hM1
        have HGn:=hide hM1
        clear hM1 hX9 hM2 u3 uf3 o1 hown hg hat HB8 HU8 HG8 HU7 HG7 zb3 zz3 hus
        obtain⟨b7,hb7⟩:∃b,V7.heap.size=b:=⟨_,rfl⟩
        rw[hb7]
        clear hb7
        revert HGn
        revert M2 X9
        revert na2 nc2
        revert b7
        revert ua uc
        exact HKEY.out
       ·have hbB:Below V7.heap.size V7 (V7.alloc (.cells #[.slice ua J.1.size uc] 22)):=(Below.refl _ _).alloc (Nat.le_refl _) _
        have HG8:=hide (HG7.out.below hbB)
        have HU8:=hide (HU7.out.gw (P:=fun _=>False) (Gw.of_below hbB) (fun _ q=>q.elim))
        have HB8:=hide (Cs.of_blk (Blk.new V7 22 #[.slice ua J.1.size uc]))
        have zb3:=HG8.out.nb.cell 3
        simp only[List.getElem?_toArray,List.getElem?_cons_succ,List.getElem?_cons_zero]at zb3
        clear hbB
        go_simp
        refine hK.out _ _ trivial (fun hHeld=>?_)
        clear hK K
        try simp only[Act.put,List.getElem_toArray,List.getElem_cons_zero,List.getElem_cons_succ,List.setIfInBounds_toArray,List.set_cons_zero,List.set_cons_succ]
        refine wpAnyH_ready (rs:=[1]) (by kernel_rfl) (by simp) ?_
        refine AllReadyH.cons rfl (fun K hK=>?_) AllReadyH.nil
        go_simp
        refine hK.out _ _ trivial (fun hHeld=>?_)
        clear hK K
        try simp only[Act.put,List.getElem_toArray,List.getElem_cons_zero,List.getElem_cons_succ,List.setIfInBounds_toArray,List.set_cons_zero,List.set_cons_succ]
        refine wpAnyH_ready (rs:=[5]) (by kernel_rfl) (by simp) ?_
        refine AllReadyH.cons rfl (fun K hK=>?_) AllReadyH.nil
        refine step_appGSn rfl (.tmp 43) (.tmp 46) rfl (w.heap.size+1) _ _ _ rfl HG8.out.no V7.heap.size 0 1 1 [.slice ua J.1.size uc] rfl rfl (fun j u hj=>by rw[Nat.zero_add];exact HB8.out j u hj) (fun u hu=>by rw[List.mem_singleton.1 hu];rfl) (by omega) HG8.out.st.size (fun v' V9 hown hg hat=>?_)
        obtain⟨o1,hM1⟩:=HG8.out.pushN HU8.out hus hown hg hat
        obtain⟨na2,nc2,rfl⟩:=own_sl hown
        have u3:=o1.cell 3
        have uf3:=o1.frozen 3
        simp only[List.getElem?_toArray,List.getElem?_cons_succ,List.getElem?_cons_zero]at u3
        refine hK.out _ _ trivial (fun hHeld=>?_)
        clear hK K
        try simp only[Act.put,List.getElem_toArray,List.getElem_cons_zero,List.getElem_cons_succ,List.setIfInBounds_toArray,List.set_cons_zero,List.set_cons_succ]
        refine wpAnyH_take (i:=6) (v:=?_) rfl (by kernel_rfl) (by kernel_rfl) (by kernel_rfl) (fun _ _ _ h=>h) (Or.inl ⟨by rfl,?_⟩) hHeld ?_
        rotate_left 1
        ·intro Wx hSW;simp only[List.getElem_toArray,List.getElem_cons_zero,List.getElem_cons_succ];go_simp;try with_reducible rfl
        try simp only[Act.put,List.getElem_toArray,List.getElem_cons_zero,List.getElem_cons_succ,List.setIfInBounds_toArray,List.set_cons_zero,List.set_cons_succ]
        refine wpAnyH_ready (rs:=[7]) (by kernel_rfl) (by simp) ?_
        refine AllReadyH.cons rfl (fun K hK=>?_) AllReadyH.nil
        go_simp
        refine hK.out _ _ trivial (fun hHeld=>?_)
        clear hK K
        try simp only[Act.put,List.getElem_toArray,List.getElem_cons_zero,List.getElem_cons_succ,List.setIfInBounds_toArray,List.set_cons_zero,List.set_cons_succ]
        refine wpAnyH_done (by kernel_rfl) ?_ _
        obtain⟨X9,hX9⟩:∃W,V9.setCell ⟨O,3,none⟩ (.slice na2 (ns.length+1) nc2)=W:=⟨_,rfl⟩
        rw[hX9]at hM1 ⊢
        obtain⟨M2,hM2⟩:∃t,M++[.slice ua J.1.size uc]=t:=⟨_,rfl⟩
        rw[hM2]at hM1
        have HGn:=hide hM1
        clear hM1 hX9 hM2 u3 uf3 o1 hown hg hat HB8 HU8 HG8 HU7 HG7 zb3 zz3 hus
        obtain⟨b7,hb7⟩:∃b,V7.heap.size=b:=⟨_,rfl⟩
        rw[hb7]
        clear hb7
        revert HGn
        revert M2 X9
        revert na2 nc2
        revert b7
        revert ua uc
        exact HKEY.out
     intro ua uc b7 na2 nc2 X9 M2 HGn
     clear HGt HID z3
     have hMv:=hm0.1.trans hMJ
     have hPg:=hm0.2.then hMJ
     clear hm0 hMJ
     obtain⟨NS,hNS⟩:∃t,ns++[J.1]=t:=⟨_,rfl⟩
     have hNL:NS.length=ns.length+1:=by rw[← hNS,List.length_append,List.length_singleton]
     rw[hNS]at HGn hR
     have HNL:=hide hNL
     rw[← HNL.out]at HGn
     rw[← HTL.out]at HGn
     clear hNS hNL
     rw[← HNL.out]
     rw[← HTL.out]
     go_wp2_with fail
     refine (l2got_any (⟨#[44]⟩:ByteArray) HGn.out.st.ps).mono ?_
     rintro r Vg ⟨rfl,hq⟩
     have HGb:=hide (HGn.out.rd hq)
     clear hq HGn
     cases hc:e.is J.2 (⟨#[44]⟩:ByteArray)
     case' true=>
      rw[hc,if_pos rfl]at HGb
      rw[if_pos hc]at hR
      have hkp:=kind_pos (is_kind hc)
      have hmd:=mu_dec hb hatp hMv hPg
      have hmu2:=muW_of HGb.out.st.ps
      have hml:=hMv.le
      have hmt:=hMv.top hatp
      have HRL:Hid (rPars e cc TY NS J.2.on=F∧(J.2.on.bad<0→lft e J.2.on+1≤cc)∧TY.length+cc≤e.T.length∧NS.length+cc≤e.T.length+1):=⟨hR,fun _=>by
       rcases hPg with g|g
       ·omega
       ·unfold lft at n1 ⊢;show e.T.length - (J.2.at_+1)+1≤cc;omega,by have:=HTL.out;omega,by have:=HNL.out;omega⟩
      have HMD:Hid (mu e J.2.on<mu e p):=by
       have h2:=(mv_on (is_kind hc))
       have:=mu_dec (e:=e) hkp.1 hmt h2.1 h2.2
       show _<_
       omega
      clear hMv hPg hR hmd
      go_wp2
      go_roundw
      case rel=>exact⟨cc,TY,NS,J.2.on,_,_,M2,HRL.out.1,HRL.out.2.1,HRL.out.2.2.1,HRL.out.2.2.2,HGb.out⟩
      case measure=>rw[hmu,hmu2];exact HMD.out
     case' false=>
      rw[hc,if_neg Bool.false_ne_true]at HGb
      rw[if_neg (by rw[hc];exact Bool.false_ne_true)]at hR
      obtain⟨p,hp⟩:∃q,J.2=q:=⟨_,rfl⟩
      rw[hp]at HGb hR
      have HGc:=HGb
      obtain⟨ty,hty⟩:∃t,TY=t:=⟨_,rfl⟩
      obtain⟨ns,hns⟩:∃t,NS=t:=⟨_,rfl⟩
      obtain⟨na,hna⟩:∃t,na2=t:=⟨_,rfl⟩
      obtain⟨nc,hnc⟩:∃t,nc2=t:=⟨_,rfl⟩
      obtain⟨ya,hya⟩:∃t,ya2=t:=⟨_,rfl⟩
      obtain⟨yc,hyc⟩:∃t,yc2=t:=⟨_,rfl⟩
      rw[hty,hns,hna,hnc,hya,hyc]
      rw[hty,hns,hna,hnc,hya,hyc]at HGc
      rw[hty,hns]at hR
      clear HGb hp hty hns hna hnc hya hyc
      have HEX:Hid True:=trivial
  case' neg=>
   have d0:decide (p.bad<0)=false:=decide_eq_false hb
   have hR':(ty,ns,p)=F:=by
    cases cc with
    |zero=>exact hR
    |succ cc=>rw[rPars,if_neg (fun q=>hb q.1)]at hR;exact hR
   clear hR
   have hR:=hR'
   have HGc:=HG
   clear HG hR'
  all_goals
   obtain rfl:F=(ty,ns,p):=hR.symm
   have hPL:=HPL2.out
   simp only[List.length_nil,List.length_singleton]at hPL
   have htyl:List.length ty≤10000:=by omega
   have hnsl:List.length ns≤10000:=by omega
   go_wp2_with fail
   refine (l2want_any (⟨#[41]⟩:ByteArray) HGc.out.st.ps).mono ?_
   rintro r Vx ⟨rfl,hq⟩
   have HGx:=hide (HGc.out.rd hq)
   have hwl:Ps.at_ p≤(e.want p (⟨#[41]⟩:ByteArray)).at_:=(mv_want e p (⟨#[41]⟩:ByteArray)).1.le
   clear hq HGc
   obtain⟨Zp,hZp⟩:∃q,e.want p (⟨#[41]⟩:ByteArray)=q:=⟨_,rfl⟩
   simp only[hZp]at HGx HBF hwl
   have HZP:=hide hZp
   clear hZp
   have x4:=HGx.out.st.ps.cells.2.2.2.2
   have xf4:=HGx.out.st.ps.fz 4
   have ny4:=HGx.out.nb.cell 4
   simp only[List.getElem?_toArray,List.getElem?_cons_succ,List.getElem?_cons_zero]at ny4
   have hdd:decide ((10:Int)<((List.length ty:Nat):Int))=decide (10<List.length ty):=by
    by_cases q:10<List.length ty
    ·rw[decide_eq_true q,decide_eq_true (by omega)]
    ·rw[decide_eq_false q,decide_eq_false (by omega)]
   obtain⟨D,hD⟩:∃D,decide (10<List.length ty)=D:=⟨_,rfl⟩
   simp only[hD]at hdd HBF
   have HDD:=hide hD
   obtain⟨Vy,hVy⟩:∃W,Vx.setCell ⟨c.P,4,none⟩ (.bool (Zp.long||D))=W:=⟨_,rfl⟩
   have hq:RdQ c e { Zp with long:=Zp.long||D } Vx Vy:=by rw[← hVy];exact HGx.out.st.ps.one (p':={ Zp with long:=Zp.long||D }) rfl HGx.out.st.ps.at_ HGx.out.st.ps.bad
   have HGy:=hide (HGx.out.rd hq)
   have hwy:Ps.at_ p≤({ Zp with long:=Zp.long||D }:Ps).at_:=hwl
   obtain⟨za,zb,L⟩:=Zp
   simp only at hVy HGy x4 HBF hwy
   clear hD HGx hq hwl
   have HBQ:=hide (fun V (hV:PsW V c e { at_:=za,bad:=zb,long:=L||D })=>HBL.out V _ hwy hV)
   obtain⟨Q,hQ⟩:∃Q,rBlock e e.T.length (rS e f m) { at_:=za,bad:=zb,long:=L||D } = Q:=⟨_,rfl⟩
   simp only[hQ]at HBQ
   have hbf:=bd_block e (bd_stat e f m) e.T.length ({ at_:=za,bad:=zb,long:=L||D }:Ps)
   rw[hQ]at hbf
   have hbl:=hbf.len
   have hfl:=fi_le (e:=e) ({ at_:=za,bad:=zb,long:=L||D }:Ps)
   have hQl:1+Q.1.t.length≤1000000:=by omega
   clear hbf hbl hfl
   have HQQ:=hide hQ
   clear hQ
   cases L<;>simp only[Bool.true_or,Bool.false_or]at hVy HGy HBQ HQQ
   all_goals
    go_wp2_with fail
    refine wp_region_held_drew (S:=fun W=>Hid (Blk W O 51 #[.int .i64 1,.int .i64 0,.slice none 0 0,.slice na (List.length ns) nc,.slice ya (List.length ty) yc,.int .i64 0])) (by kernel_rfl) (HGy.out.nb.below (Below.refl _ _).drew) (fun hHeld=>?_)
    refine wpAnyH_take (i:=0) (v:=?_) rfl (by kernel_rfl) (by kernel_rfl) (by kernel_rfl) (fun _ _ _ h=>h) (Or.inl ⟨by rfl,?_⟩) hHeld ?_
    rotate_left 1
    ·intro Wx hSW;simp only[List.getElem_toArray,List.getElem_cons_zero];have u0:=hSW.out.cell 0;have u1:=hSW.out.cell 1;have u2:=hSW.out.cell 2;have u3:=hSW.out.cell 3;have u4:=hSW.out.cell 4;have u5:=hSW.out.cell 5;simp only[List.getElem?_toArray,List.getElem?_cons_succ,List.getElem?_cons_zero]at u0 u1 u2 u3 u4 u5;go_simp;try with_reducible rfl
    try simp only[Act.put,List.getElem_toArray,List.getElem_cons_zero,List.setIfInBounds_toArray,List.set_cons_zero,List.set_cons_succ]
    refine wpAnyH_take (i:=1) (v:=?_) rfl (by kernel_rfl) (by kernel_rfl) (by kernel_rfl) (fun _ _ _ h=>h) (Or.inl ⟨by rfl,?_⟩) hHeld ?_
    rotate_left 1
    ·intro Wx hSW;simp only[List.getElem_toArray,List.getElem_cons_zero,List.getElem_cons_succ];go_simp;try with_reducible rfl
    try simp only[Act.put,List.getElem_toArray,List.getElem_cons_zero,List.getElem_cons_succ,List.setIfInBounds_toArray,List.set_cons_zero,List.set_cons_succ]
    refine wpAnyH_take (i:=2) (v:=?_) rfl (by kernel_rfl) (by kernel_rfl) (by kernel_rfl) (fun _ _ _ h=>h) (Or.inl ⟨by rfl,?_⟩) hHeld ?_
    rotate_left 1
    ·intro Wx hSW;simp only[List.getElem_toArray,List.getElem_cons_zero,List.getElem_cons_succ];go_simp;try with_reducible rfl
    try simp only[Act.put,List.getElem_toArray,List.getElem_cons_zero,List.getElem_cons_succ,List.setIfInBounds_toArray,List.set_cons_zero,List.set_cons_succ]
    have HG6:=hide (HGy.out.below (Below.refl _ _).drew)
    clear HGy
    refine wpAnyH_ready (rs:=[3]) (by kernel_rfl) (by simp) ?_
    refine AllReadyH.cons rfl (fun K hK=>?_) AllReadyH.nil
    go_simp
    go_at_call 38
    refine (HBQ.out _ HG6.out.st.ps).mono ?_
    rintro r V7 ⟨vt,vp,rfl,hv,hq⟩
    have HG7:=hide (HG6.out.rd hq)
    obtain⟨xa7,xc7,xb7,xd7,rfl,rfl,_,_⟩:=hv.slc
    have HPV:=hide (hv.mono (G':=fun g=>w.heap.size<g) (fun g hg _=>Nat.lt_of_lt_of_le HG6.out.st.size hg))
    clear hv hq HG6
    go_wp2_with fail
    refine hK.out _ _ (HG7.out.nb) (fun hHeld=>?_)
    clear hK K
    try simp only[Act.put,List.getElem_toArray,List.getElem_cons_zero,List.getElem_cons_succ,List.setIfInBounds_toArray,List.set_cons_zero,List.set_cons_succ]
    have hbA:Below V7.heap.size V7 (V7.alloc (.cells #[.slice (some ⟨xa7,0,none⟩) Q.1.t.length xc7,.slice (some ⟨xb7,0,none⟩) Q.1.t.length xd7] 45)):=(Below.refl _ _).alloc (Nat.le_refl _) _
    have HG8:=hide (HG7.out.below hbA)
    have HPR:=hide (pr_one (Blk.new V7 45 #[.slice (some ⟨xa7,0,none⟩) Q.1.t.length xc7,.slice (some ⟨xb7,0,none⟩) Q.1.t.length xd7]) HG7.out.st.size (HPV.out.gw (P:=fun _=>False) (Gw.of_below hbA) (fun _ q=>q.elim)))
    have HOK:=hide (HG8.out.ok (by omega) (by omega))
    have HSr:=hide HG8.out.st
    clear HG7 HPV hbA
    refine wpAnyH_ready (rs:=[4]) (by kernel_rfl) (by simp) ?_
    refine AllReadyH.cons rfl (fun K hK=>?_) AllReadyH.nil
    go_simp
    refine hK.out _ _ (HG8.out.nb) (fun hHeld=>?_)
    clear hK K
    try simp only[Act.put,List.getElem_toArray,List.getElem_cons_zero,List.getElem_cons_succ,List.setIfInBounds_toArray,List.set_cons_zero,List.set_cons_succ]
    refine wpAnyH_ready (rs:=[5]) (by kernel_rfl) (by simp) ?_
    refine AllReadyH.cons rfl (fun K hK=>?_) AllReadyH.nil
    go_simp
    go_at_call 20
    refine (l2node_any (m:=⟨{ ndK 1 with names:=ns,types:=ty },.slice none 0 0,.slice na (List.length ns) nc,.slice ya (List.length ty) yc⟩) (pl:=pl) (G:=fun g=>w.heap.size<g) HOK.out HPR.out (fun g hg=>Nat.lt_of_lt_of_le HSr.out.size hg) (by rw[nsl_one];exact hQl) (by simp)).mono ?_
    rintro r Vz ⟨vt,vp,rfl,hv,hbz⟩
    have HF:=hide (HSr.out.below hbz)
    have HGz:=hide (HG8.out.below hbz)
    obtain⟨ga,gc,gb,gd,rfl,rfl,_,_⟩:=hv.slc
    have HV:=hide hv
    have r0:=HF.out.res.cell 0
    have r1:=HF.out.res.cell 1
    have f0:=HF.out.res.frozen 0
    have f1:=HF.out.res.frozen 1
    simp only[List.getElem?_toArray,List.getElem?_cons_succ,List.getElem?_cons_zero]at r0 r1
    clear hv hbz
    go_wp2_with fail
    refine hK.out _ _ (HGz.out.nb) (fun hHeld=>?_)
    clear hK K
    try simp only[Act.put,List.getElem_toArray,List.getElem_cons_zero,List.getElem_cons_succ,List.setIfInBounds_toArray,List.set_cons_zero,List.set_cons_succ]
    refine wpAnyH_ready (rs:=[6]) (by kernel_rfl) (by simp) ?_
    refine AllReadyH.cons rfl (fun K hK=>?_) AllReadyH.nil
    go_simp
    refine hK.out _ _ (((HGz.out.nb.other 0 _ (by have:=HGz.out.lo;omega)).other 1 _ (by have:=HGz.out.lo;omega))) (fun hHeld=>?_)
    clear hK K
    try simp only[Act.put,List.getElem_toArray,List.getElem_cons_zero,List.getElem_cons_succ,List.setIfInBounds_toArray,List.set_cons_zero,List.set_cons_succ]
    refine wpAnyH_done (by kernel_rfl) ?_ _
    go_wp2_with fail
    refine bodyPost_ret (results_one rfl _ _ _ w.heap.size 45 _ (0,0) rfl ((HF.out.res.set 0 _).set 1 _) Tryz.underlying45 (by kernel_rfl)) rfl ?_
    show ExQ c e w (ptN { ndK 1 with names:=ns,types:=ty } pl [(rBlock e e.T.length (rS e f m) { (e.want p (⟨#[41]⟩:ByteArray)) with long:=(e.want p (⟨#[41]⟩:ByteArray)).long||decide (10<List.length ty) }).1],(rBlock e e.T.length (rS e f m) { (e.want p (⟨#[41]⟩:ByteArray)) with long:=(e.want p (⟨#[41]⟩:ByteArray)).long||decide (10<List.length ty) }).2) _ _
    rw[HZP.out,HDD.out]
    simp only[Bool.true_or,Bool.false_or]
    rw[HQQ.out]
    exact HF.out.fin HV.out
end Go.Proofs.YtbiakdjpeblclaaGreatDoor
