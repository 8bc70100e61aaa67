/-
  Proved: laws.FnExactParse answers true for every argument (Parse answers as its specification at every source, writes into no argument, and its answer owns its memory), where the library's tables and errors and the program's own four tables are laid as the texts lay them; the card ties them to the program's text.
-/
import Derived.Test.YtbiakdjpeblclaaGreatDoorJPaSB
import Derived.Test.YtbiakdjpeblclaaGreatDoorCards
import Derived.Test.YtbiakdjpeblclaaGreatDoorTie
import Derived.ProofKit
import Derived.OpenShut
import Derived.OpenVars
import Derived.ChangeVars
import Derived.ChangeSame
import Derived.LaidHandle
import Derived.Deep.DeepHandedRow
import Derived.Lib.LaidU8
import Derived.Lib.LaidTab
import Derived.Stop.LaidErr
import Derived.Shelf.Vars
import Derived.Deep.DeepWitnessRowRef
namespace Go.Proofs.YtbiakdjpeblclaaGreatDoor.fnExactParse
open Go.ChangeShapes Go.WideShapes Go.ChangeAt Go.RowKit
theorem own : ownKnob Tryz.prog.godebug=none:=by kernel_rfl
theorem laidOut : laidOutB Tryz.prog=true:=by kernel_rfl
theorem first_eq : Rows.laid_unicode_utf8_first=Lib.firstData:=by kernel_rfl
theorem accept_eq : (Rows.laid_unicode_utf8_acceptRanges:DataW Unit)=Lib.acceptData:=by kernel_rfl
abbrev rest : List (String × DataW Unit):=[("math/bits.deBruijn32tab",Rows.laid_math_bits_deBruijn32tab),("math/bits.deBruijn64tab",Rows.laid_math_bits_deBruijn64tab),("internal/strconv.uint64pow10",Rows.laid_internal_strconv_uint64pow10),("unicode/utf8.acceptRanges",Rows.laid_unicode_utf8_acceptRanges),("strconv.ErrRange",Rows.laid_strconv_ErrRange),("strconv.ErrSyntax",Rows.laid_strconv_ErrSyntax),("loop.example/s02126/impl.operators",Rows.laid_loop_example_s02126_impl_operators),("loop.example/s02126/impl.statementWords",Rows.laid_loop_example_s02126_impl_statementWords),("loop.example/s02126/impl.wayWords",Rows.laid_loop_example_s02126_impl_wayWords),("loop.example/s02126/impl.typeWords",Rows.laid_loop_example_s02126_impl_typeWords),("unicode/utf8.first",Rows.laid_unicode_utf8_first)]
theorem parts {W:World}(h:laidMetH Tryz.prog Rows.fnExactParseRow.laid W):laidMet Tryz.prog rest W∧handlesMet Tryz.prog [("errors.errorType",Rows.laid_errors_errorType)] W:=h
theorem tabs {W:World}(h:laidMet Tryz.prog rest W):Lib.Utf8Tabs 3 4 W:=
 utf8Tabs_of_reads (ρ:=Tryz.lays260_ren) Tryz.lays260 ⟨by kernel_rfl,by kernel_rfl,by kernel_rfl,by kernel_rfl,by kernel_rfl,by kernel_rfl,by kernel_rfl⟩
  (first_eq ▸ Lib.laidMet.reads h (by simp)) (accept_eq ▸ Lib.laidMet.reads h (by simp))
theorem star : "*" ++ "errors.errorString" = "*errors.errorString":=by decide
theorem rowE (u:TypeId)(h:Tryz.prog.typeName? 3 u=some "*errors.errorString"):u=220:=
 typeName_ptr_named (nm:= "errors.errorString") (by rw[star];kernel_rfl) (by kernel_rfl) (by decide) u (by rw[star];exact h)
theorem err_cell {W:World}(h':laidMet Tryz.prog rest W):∃pe,W.cell? ⟨7,0,none⟩=some (.iface 220 pe):=by
 obtain⟨a0,t0,hv0,hc0,_,_⟩:=laid_sentinel (g:=7) (laidMet.tail (laidMet.tail (laidMet.tail (laidMet.tail (laidMet.tail h'))))) (by kernel_rfl) (by kernel_rfl) Tryz.underlying56 rowE Tryz.underlying220 Tryz.underlying222 rfl rfl Tryz.underlying9 (by kernel_rfl) (by kernel_rfl)
 exact⟨_,by simpa using World.var?_cell (show Tryz.prog.globalNamed "strconv.ErrSyntax" = some 7 by kernel_rfl) hv0 0⟩
theorem rng_cell {W:World}(h':laidMet Tryz.prog rest W):∃pe,W.cell? ⟨8,0,none⟩=some (.iface 220 pe):=by
 obtain⟨a0,t0,hv0,hc0,_,_⟩:=laid_sentinel (g:=8) (laidMet.tail (laidMet.tail (laidMet.tail (laidMet.tail h')))) (by kernel_rfl) (by kernel_rfl) Tryz.underlying56 rowE Tryz.underlying220 Tryz.underlying222 rfl rfl Tryz.underlying9 (by kernel_rfl) (by kernel_rfl)
 exact⟨_,by simpa using World.var?_cell (show Tryz.prog.globalNamed "strconv.ErrRange" = some 8 by kernel_rfl) hv0 0⟩
theorem max_cell {W:World}(h:W.ShapedOpen Tryz.prog):∃m,W.cell? ⟨5,0,none⟩=some (.int .i64 m):=
 cell_of_shapedOpen_int (P:=Tryz.prog) (g:=5) (t:=3) (zero:=#[.int .i64 0]) h (of_decide_eq_true (by kernel_rfl)) (by kernel_rfl) rfl (by kernel_rfl) (by kernel_rfl) Tryz.underlying3
theorem oneRow : ((List.range Tryz.prog.types.size).filter fun t=>Tryz.prog.rowNamed t [101,114,114,111,114]) = [56]:=by kernel_rfl
theorem rtRow : (Tryz.prog.cutTypes.find? (·.1 == "internal/reflectlite.rtype")).map (·.2)=some 121:=by kernel_rfl
theorem handle {W:World}(h:handlesMet Tryz.prog [("errors.errorType",Rows.laid_errors_errorType)] W):W.cell? ⟨0,0,none⟩=some (.iface 121 (.agg #[.pointer (some ⟨13,56,none⟩)])):=by
 obtain⟨name,u,ty,e1,e2,e3,e4,e5⟩:=h _ (List.mem_singleton.2 rfl)
 have en:name = [101,114,114,111,114]:=(Option.some.inj e1).symm
 subst en
 obtain rfl:=Option.some.inj (rtRow.symm.trans e2)
 have hm:ty∈(List.range Tryz.prog.types.size).filter fun t=>Tryz.prog.rowNamed t [101,114,114,111,114]:=List.mem_filter.2 ⟨List.mem_range.2 e3,e4⟩
 rw[oneRow]at hm
 obtain rfl:=List.mem_singleton.1 hm
 have hh:typeHandle Tryz.prog 56 = .pointer (some ⟨13,56,none⟩):=by kernel_rfl
 rw[hh]at e5
 simpa using World.var?_cell (show Tryz.prog.globalNamed "errors.errorType" = some 0 by kernel_rfl) e5 0
theorem str_eq {s x:ByteArray}(h:s.data.toList=x.data.toList):s=x:=by
 cases s;cases x
 congr 1
 exact Array.toList_inj.1 h
theorem strs_of {W:World}{n:String}{g gt ge N:Nat}{ds:List (DataW Unit)}(h:Lib.VarReads Tryz.prog W n (.agg ds))(hg:Tryz.prog.globalNamed n=some g)(ht:(Tryz.prog.globals[g]?).map (·.type)=some gt)(hu:Tryz.prog.underlying gt=some (.array N ge))(he:Tryz.prog.underlying ge=some .string)(hc:Tryz.prog.cellsOf ge=1)(i:Nat)(hi:i<N)(x:ByteArray)(hb:ds[i]?=some (.lit (.string x.data.toList))):W.cell? ⟨g,i,none⟩=some (.string x):=by
 obtain⟨g',t,cs,fuel,p,hg',hty,hvar,hd⟩:=h
 have eg:g'=g:=Option.some.inj (hg'.symm.trans hg)
 rw[eg]at hg' hty
 have et:t=gt:=Option.some.inj (hty.symm.trans ht)
 rw[et]at hd
 obtain⟨fuel',d,q,hdi,hel⟩:=Lib.array_elem hu hd i hi
 rw[hc,Nat.mul_one]at hel
 have hdi':=Option.some.inj (hb.symm.trans hdi)
 rw[← hdi']at hel
 obtain⟨s,hcs,hx,_⟩:=DataW.trod_string he hel
 have hx:x.data.toList=s.data.toList:=by
  have h1:=congrArg Prod.fst hx
  simp only[DataW.lit.injEq,Lit.string.injEq]at h1
  exact h1
 have e0:=congrArg (·[0]?) hcs
 simp only[List.getElem?_take,List.getElem?_drop]at e0
 rw[World.var?_cell hg' hvar i,← Array.getElem?_toList,str_eq hx]
 simpa using e0
theorem pairs_of {W:World}{n:String}{g gt ge N:Nat}{f0 f1:Field}{ds:List (DataW Unit)}(h:Lib.VarReads Tryz.prog W n (.agg ds))(hg:Tryz.prog.globalNamed n=some g)(ht:(Tryz.prog.globals[g]?).map (·.type)=some gt)(hu:Tryz.prog.underlying gt=some (.array N ge))(he:Tryz.prog.underlying ge=some (.struct #[f0,f1]))(hc:Tryz.prog.cellsOf ge=2)(h0:Tryz.prog.underlying f0.type=some .string∧f0.offset=0∧Tryz.prog.cellsOf f0.type=1)(h1:Tryz.prog.underlying f1.type=some (.int .i64)∧f1.offset=1∧Tryz.prog.cellsOf f1.type=1)(i:Nat)(hi:i<N)(x:ByteArray)(z:Int)(hb:ds[i]?=some (.agg [.lit (.string x.data.toList),.lit (.int .i64 z)])):W.cell? ⟨g,i*2,none⟩=some (.string x)∧W.cell? ⟨g,i*2+1,none⟩=some (.int .i64 z):=by
 obtain⟨g',t,cs,fuel,p,hg',hty,hvar,hd⟩:=h
 have eg:g'=g:=Option.some.inj (hg'.symm.trans hg)
 rw[eg]at hg' hty
 have et:t=gt:=Option.some.inj (hty.symm.trans ht)
 rw[et]at hd
 obtain⟨fuel',d,q,hdi,hel⟩:=Lib.array_elem hu hd i hi
 rw[hc]at hel
 have hdi':=Option.some.inj (hb.symm.trans hdi)
 rw[← hdi']at hel
 obtain⟨y0,y1,m,hxy,_,hy0,hy1⟩:=trod_struct2 he hel
 have h9:=congrArg Prod.fst hxy
 simp only[DataW.agg.injEq,List.cons.injEq,and_true]at h9
 obtain⟨k0,k1⟩:=h9
 rw[h0.2.1,h0.2.2]at hy0
 rw[h1.2.1,h1.2.2]at hy1
 obtain⟨s,hcs,hx,_⟩:=DataW.trod_string h0.1 hy0
 obtain⟨v,hcv,hv,_⟩:=DataW.trod_int h1.1 hy1
 rw[hx]at k0
 rw[hv]at k1
 simp only[DataW.lit.injEq,Lit.string.injEq,Lit.int.injEq,true_and]at k0 k1
 have e0:=congrArg (·[0]?) hcs
 have e1:=congrArg (·[0]?) hcv
 simp only[List.getElem?_take,List.getElem?_drop]at e0 e1
 constructor
 ·rw[World.var?_cell hg' hvar (i*2),← Array.getElem?_toList,str_eq k0]
  simpa using e0
 ·rw[World.var?_cell hg' hvar (i*2+1),← Array.getElem?_toList,k1]
  simpa using e1
theorem stws {W:World}(h:laidMet Tryz.prog rest W):∀n,n<16→W.cell? ⟨1,n,none⟩=some (.string (sWd.getD n ⟨#[]⟩)):=fun n hn=>
 strs_of (Lib.laidMet.reads h (show ("loop.example/s02126/impl.statementWords",Rows.laid_loop_example_s02126_impl_statementWords)∈rest by simp)) (by kernel_rfl) (by kernel_rfl) Tryz.underlying176 Tryz.underlying9 (by kernel_rfl) n hn _ (match n,hn with
  |0,_=>rfl
  |1,_=>rfl
  |2,_=>rfl
  |3,_=>rfl
  |4,_=>rfl
  |5,_=>rfl
  |6,_=>rfl
  |7,_=>rfl
  |8,_=>rfl
  |9,_=>rfl
  |10,_=>rfl
  |11,_=>rfl
  |12,_=>rfl
  |13,_=>rfl
  |14,_=>rfl
  |15,_=>rfl
  |n+16,h=>absurd h (by omega))
theorem wyws {W:World}(h:laidMet Tryz.prog rest W):∀n,n<4→W.cell? ⟨6,n,none⟩=some (.string (wyN.getD n ⟨#[]⟩)):=fun n hn=>
 strs_of (Lib.laidMet.reads h (show ("loop.example/s02126/impl.wayWords",Rows.laid_loop_example_s02126_impl_wayWords)∈rest by simp)) (by kernel_rfl) (by kernel_rfl) Tryz.underlying207 Tryz.underlying9 (by kernel_rfl) n hn _ (match n,hn with
  |0,_=>rfl
  |1,_=>rfl
  |2,_=>rfl
  |3,_=>rfl
  |n+4,h=>absurd h (by omega))
theorem tyws {W:World}(h:laidMet Tryz.prog rest W):W.cell? ⟨2,0,none⟩=some (.string (⟨#[105,110,116]⟩:ByteArray))∧W.cell? ⟨2,1,none⟩=some (.string (⟨#[116,101,120,116]⟩:ByteArray)):=
 have k:=fun n hn x hx=>strs_of (Lib.laidMet.reads h (show ("loop.example/s02126/impl.typeWords",Rows.laid_loop_example_s02126_impl_typeWords)∈rest by simp)) (by kernel_rfl) (by kernel_rfl) Tryz.underlying184 Tryz.underlying9 (by kernel_rfl) n hn x hx
 ⟨k 0 (by omega) _ rfl,k 1 (by omega) _ rfl⟩
theorem opws {W:World}(h:laidMet Tryz.prog rest W):∀n,n<14→W.cell? ⟨9,n*2,none⟩=some (.string (sgW.getD n ⟨#[]⟩))∧W.cell? ⟨9,n*2+1,none⟩=some (.int .i64 ((sgB.getD n 0:Nat) - 1:Int)):=fun n hn=>
 pairs_of (Lib.laidMet.reads h (show ("loop.example/s02126/impl.operators",Rows.laid_loop_example_s02126_impl_operators)∈rest by simp)) (by kernel_rfl) (by kernel_rfl) Tryz.underlying217 Tryz.underlying216 (by kernel_rfl) ⟨Tryz.underlying9,rfl,by kernel_rfl⟩ ⟨Tryz.underlying3,rfl,by kernel_rfl⟩ n hn _ _ (match n,hn with
  |0,_=>rfl
  |1,_=>rfl
  |2,_=>rfl
  |3,_=>rfl
  |4,_=>rfl
  |5,_=>rfl
  |6,_=>rfl
  |7,_=>rfl
  |8,_=>rfl
  |9,_=>rfl
  |10,_=>rfl
  |11,_=>rfl
  |12,_=>rfl
  |13,_=>rfl
  |n+14,h=>absurd h (by omega))
theorem tabQ {W:World}(h:laidMet Tryz.prog rest W)(hsh:W.ShapedOpen Tryz.prog):TabQ W:=by
 obtain⟨m,hM⟩:=max_cell hsh
 obtain⟨pe1,hE⟩:=err_cell h
 obtain⟨pe2,hR⟩:=rng_cell h
 exact⟨opws h,stws h,wyws h,tyws h,m,220,220,pe1,pe2,⟨tabs h,hM,hE,hR⟩⟩
theorem vars4 {H:Type}{enc:TypeId × Value→H}{P:Program}{w:World}{sp:Nat→Bool}{n0 n1 n2 n3:String}{gs:List (DataW H)}{ps:List MemPlace}(h:DataW.TrodVars enc P w sp [n0,n1,n2,n3] gs ps):∃d0 d1 d2 d3,gs = [d0,d1,d2,d3]:=by
 cases gs with
 |nil=>simp[DataW.TrodVars]at h
 |cons d ds=>
  obtain⟨_,_,_,_,_,_,_,_,_,_,hs,_⟩:=h
  cases ds with
  |nil=>simp[DataW.TrodVars]at hs
  |cons d1 ds=>
   obtain⟨_,_,_,_,_,_,_,_,_,_,hs,_⟩:=hs
   obtain⟨_,_,_,_,a,_,_,_,_,_,b,_,rfl,_⟩:=trodVars_two hs
   exact⟨d,d1,a,b,rfl⟩
theorem walk (a0:Option Addr)(len0 cap0:Nat)(z0:List Int)(w:World)(hT:TabQ w)(hET:w.cell? ⟨0,0,none⟩=some (.iface 121 (.agg #[.pointer (some ⟨13,56,none⟩)])))(w0:IsRow .u8 w a0 len0 cap0 z0):
 Calls Tryz.prog 3 #[.slice a0 len0 cap0] w fun e w'=>e = .returned (.bool true)∧Below w.heap.size w w':=by
 obtain⟨s,b,off,rfl,ha,hc⟩:=text_of_row w0
 by_cases h:s.size≤1048576
 ·exact lawPa a0 b off cap0 s w h hT hET ha hc
 ·exact lawPa_big a0 s.size cap0 w (by omega)
set_option maxRecDepth 1000000 in
theorem contract (H:Type)(enc:TypeId × Value→H)(W:World)(base:Nat)(args:Array Value)(ds gs:List (DataW H))(before:List MemPlace)
 (hval0:∀(j:Nat) t v,Tryz.f3.params[j]?=some t→args[j]?=some v→Value.okWide Tryz.prog W .any base t v)
 (hW:DataW.Whole enc Tryz.prog Tryz.f3.params.toList Rows.fnExactParseSpec.vars false W args.toList ds gs before) (hL:laidMetH Tryz.prog Rows.fnExactParseRow.laid W) (hsh:W.ShapedOpen Tryz.prog):
 Calls Tryz.prog 3 args W fun e W'=>∃v,e = .returned v∧Rows.fnExactParseSpec.post enc Tryz.prog Tryz.f3 false true false false W args v W':=by
 have hp:=parts hL
 have hT:=tabQ hp.1 hsh
 have hET:=handle hp.2
 have hval:∀(j:Nat) t v,Tryz.f3.params[j]?=some t→args[j]?=some v→Value.okWide Tryz.prog W .any base t v:=hval0
 have hW':=hW
 obtain⟨p,q,hA0,hV,rfl,hfz,hnd⟩:=hW
 have hA:DataW.TrodAll enc Tryz.prog W 0 (fun _=>true) true Tryz.f3.params.toList args.toList ds p:=hA0
 rw[Tryz.params3]at hA hval
 obtain⟨v0,vs0,d0,ds0,p0,q0,hargs,rfl,rfl,h0,r0⟩:=trodAll_cons hA
 obtain⟨rfl,rfl,rfl⟩:=trodAll_nil r0
 obtain rfl:args = #[v0]:=by cases args;simp_all
 obtain⟨g1,g2,g3,g4,rfl⟩:=vars4 hV
 obtain⟨a0,len0,cap0,rfl⟩:=okWide_slice Tryz.underlying22 (hval 0 22 v0 rfl rfl)
 have k0:=h0
 have lt0:∀x∈p0,x.block<W.heap.size:=by obtain⟨m,hm⟩:=k0;exact DataW.trod_lt m _ _ _ hm
 obtain⟨z0,w0⟩:∃zs,IsRow .u8 W a0 len0 cap0 zs:=by
  obtain⟨fuel,hf⟩:=h0
  rcases open_ints Tryz.underlying22 Tryz.underlying5 (by kernel_rfl) hf with⟨hcs,_⟩|⟨x,l,c,zs,hcs,_,hl,hm,hz,_,hcell,hwz⟩
  ·simp[Value.cells]at hcs
   obtain⟨rfl,rfl,rfl⟩:=hcs
   exact⟨[],.inl ⟨rfl,rfl,rfl,rfl⟩⟩
  ·simp[Value.cells]at hcs
   obtain⟨rfl,rfl,rfl⟩:=hcs
   exact⟨zs,.inr ⟨_,rfl,hl,hm,by simpa using hz,hcell,hwz⟩⟩
 clear hA0 hval0
 refine (walk a0 len0 cap0 z0 W hT hET w0).mono fun e W' ⟨he,bel⟩=>?_
 subst he
 exact⟨_,rfl,_,_,_,_,_,_,hW',trodAll_mk1 (shut_bool Tryz.underlying4 _),(trodAll_cons_mk (Below.trod laidOut (by kernel_rfl) (of_decide_eq_true (by kernel_rfl)) k0 bel lt0) trodAll_mk0),Below.trodVars laidOut bel (by kernel_rfl) hV,bel.frame _,fun h=>by cases h⟩
def layCells (cs:Array Value):Obj→Obj
 | .cells _ t frozen=>.cells cs t frozen
 |o=>o
def firstCells : Array Value:=((List.range 256).map fun c=>Value.int .u8 (Lib.firstT c:Int)).toArray
def acceptCells : Array Value:=((List.range 32).map fun c=>Value.int .u8 (if c % 2=0 then (Lib.accLo (c / 2):Int) else (Lib.accHi (c / 2):Int))).toArray
def litV : DataW Unit→List Value
 | .lit (.int k n)=>[.int k n]
 | .lit (.string bs)=>[.string ⟨bs.toArray⟩]
 | .agg [.lit (.string bs),.lit (.int k n)]=>[.string ⟨bs.toArray⟩,.int k n]
 |_=>[.nilIface]
def tabCells (d:DataW Unit):Array Value:=
 match d with
 | .agg ps=>(ps.flatMap litV).toArray
 |_=>#[]
def errText1 : ByteArray:=⟨#[105,110,118,97,108,105,100,32,115,121,110,116,97,120]⟩
def errText2 : ByteArray:=⟨#[118,97,108,117,101,32,111,117,116,32,111,102,32,114,97,110,103,101]⟩
def IsLaid (os:Os)(lw:World):Prop:=
 lw = { World.holding Tryz.prog os ⟨#[.cells #[.string errText1] 222,.cells #[.string errText2] 222],#[],[]⟩ with heap:=((World.holding Tryz.prog os ⟨#[.cells #[.string errText1] 222,.cells #[.string errText2] 222],#[],[]⟩).heap.modify 3 (layCells firstCells)).modify 4 (layCells acceptCells) |>.modify 10 (layCells (tabCells Rows.laid_internal_strconv_uint64pow10)) |>.modify 11 (layCells (tabCells Rows.laid_math_bits_deBruijn32tab)) |>.modify 12 (layCells (tabCells Rows.laid_math_bits_deBruijn64tab)) |>.modify 7 (layCells #[.iface 220 (.pointer (some ⟨(World.settled Tryz.prog os).heap.size,0,none⟩))]) |>.modify 8 (layCells #[.iface 220 (.pointer (some ⟨(World.settled Tryz.prog os).heap.size+1,0,none⟩))]) |>.modify 0 (layCells #[.iface 121 (.agg #[.pointer (some ⟨13,56,none⟩)])]) |>.modify 9 (layCells (tabCells Rows.laid_loop_example_s02126_impl_operators)) |>.modify 1 (layCells (tabCells Rows.laid_loop_example_s02126_impl_statementWords)) |>.modify 6 (layCells (tabCells Rows.laid_loop_example_s02126_impl_wayWords)) |>.modify 2 (layCells (tabCells Rows.laid_loop_example_s02126_impl_typeWords)) }
theorem laid_met (os:Os)(lw:World)(h:IsLaid os lw):laidMetH Tryz.prog Rows.fnExactParseRow.laid (lw.forCall (fun _ _=>0) ⟨#[],#[.slice none 0 0],[]⟩).memory:=by
 unfold IsLaid at h
 subst h
 exact laidMetH_of_parts (laidMet_of_run' (l:=rest) 8 (by kernel_rfl) (by kernel_rfl)) (by kernel_rfl)
theorem reads (os:Os)(lw:World)(h:IsLaid os lw){H:Type}(enc:TypeId × Value→H):∃x,DataW.whole enc Tryz.prog (lw.forCall (fun _ _=>0) ⟨#[],#[.slice none 0 0],[]⟩).memory Tryz.f3.params.toList Rows.fnExactParseSpec.vars false (#[.slice none 0 0]:Array Value).toList 8=some x:=by
 unfold IsLaid at h
 subst h
 exact Option.isSome_iff_exists.1 (by kernel_rfl)
set_option maxRecDepth 100000 in
theorem lifted (os:Os)(started:os.Started)(H:Type)(enc:TypeId × Value→H)(F:Stop.Interp):
 ReturnsInHanded {} Tryz.checked os 3 .any ((OpenSpec.ofChange Rows.fnExactParseSpec).preRow enc Tryz.prog Tryz.f3 Rows.fnExactParseRow.domain false Rows.fnExactParseRow.laid) (((OpenSpec.ofChange Rows.fnExactParseSpec).at F).post enc Tryz.prog Tryz.f3 false true false false):=by
 obtain⟨lw,hlw⟩:∃lw,IsLaid os lw:=⟨_,rfl⟩
 obtain⟨x,hx⟩:=reads os lw hlw enc
 have hm:=laid_met os lw hlw
 unfold IsLaid at hlw
 refine returnsInHanded_of_row (C:=Tryz.checked) (s:=OpenSpec.ofChange Rows.fnExactParseSpec) own started (by kernel_rfl) Tryz.func3
  (witness_row_atRef (enc:=enc) (C:=Tryz.checked) false lw #[.slice none 0 0] (by subst hlw;rfl) (by subst hlw;kernel_rfl) (by subst hlw;kernel_rfl) (by subst hlw;kernel_rfl)
    (OpenSpec.preRow_of_cond 8 hx (by subst hlw;kernel_rfl) (fun k hk=>by cases hk) (by subst hlw;kernel_rfl) hm)) ?_
 intro W base args ds gs before hval hW _ _ _ hL hsh _
 exact contract H enc W base args ds gs before hval hW hL hsh
theorem said : Rows.FnExactParseSaid:=
 OpenClaim.holds_of_cond 3 Tryz.f3 rfl rfl rfl rfl rfl rfl rfl ⟨rfl,rfl,rfl,rfl,rfl⟩ rfl rfl rfl rfl rfl (by kernel_rfl) Tryz.func3 (by kernel_rfl)
  (of_decide_eq_true (by kernel_rfl)) (by unfold Func.isWrapper;first|(rw[if_pos (by decide +kernel)];kernel_rfl)|(rw[if_neg (by decide +kernel)];exact⟨rfl,rfl⟩))
  (fun os started H enc _ F=>by rw[OpenClaim.pre_eq_preRow];exact lifted os started H enc F)
theorem plain (f:FuncId)(fn:Func)(hf:Tryz.pinned.checked.prog.funcNamed "loop.example/s02126/laws.FnExactParse" = some f)(hfn:Tryz.pinned.checked.prog.funcs[f]?=some fn):
 true=Tryz.pinned.checked.prog.looks []∧∀(j:Nat) t,fn.params[j]?=some t→Tryz.pinned.checked.prog.wantsStandIn t=false:=by
 obtain rfl:f=3:=Option.some.inj ((show Tryz.prog.funcNamed "loop.example/s02126/laws.FnExactParse" = some 3 by kernel_rfl).symm.trans hf) |>.symm
 obtain rfl:fn=Tryz.f3:=(Option.some.inj (Tryz.func3.symm.trans hfn)).symm
 refine⟨by kernel_rfl,fun j t ht=>?_⟩
 rw[Tryz.params3]at ht
 obtain rfl:t=22:=by simpa using Array.mem_of_getElem? ht
 exact (show Tryz.prog.wantsStandIn 22=false by kernel_rfl)
theorem card : Rows.FnExactParseCardSaid:=
 Claim7.holds_tied_plain_at .later [] _ _ _ _ said (fun _ h=>by cases h) (by kernel_rfl) (fun _ h=>by cases h) fnExactParse_row_tie rfl ⟨rfl,rfl⟩ (by kernel_rfl) rfl plain (by kernel_rfl)
end Go.Proofs.YtbiakdjpeblclaaGreatDoor.fnExactParse
namespace Go.Proofs.YtbiakdjpeblclaaGreatDoor
theorem parse_holds : Rows.FnExactParseCardSaid:=fnExactParse.card
#print axioms parse_holds
end Go.Proofs.YtbiakdjpeblclaaGreatDoor
